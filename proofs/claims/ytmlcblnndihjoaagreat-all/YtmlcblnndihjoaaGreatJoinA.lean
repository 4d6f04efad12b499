import Derived.Test.YtmlcblnndihjoaaGreatReadsW
import Derived.StillTailTactics
set_option linter.unusedSimpArgs false
set_option linter.unusedVariables false
namespace Go.Proofs.YtmlcblnndihjoaaGreat
open Go.RowKit

theorem vecs_append (A B : List (List Int)) : vecs (A ++ B) = vecs B ++ vecs A := by simp [vecs]

/-- the three rows of a lattice generate with others what its basis does -/
theorem sum_span {n : Nat} {T1 T2 : Lat.St} (h0 : 0 < n) (h3 : n ≤ 3) (s1 : Lat.Shape T1) (f1 : Flat n T1) (s2 : Lat.Shape T2) (f2 : Flat n T2) (v : Lat.V) :
    Lat.InSpan (T2.c :: T2.b :: T2.a :: vecs (basisRows n T1)) v ↔ Lat.InSpan (vecs (basisRows n T1 ++ basisRows n T2)) v := by
  rw [vecs_append]
  have left : ∀ (G H : List Lat.V) (u : Lat.V), Lat.InSpan G u → Lat.InSpan (G ++ H) u := fun G H u h => Lat.InSpan.sub_list (fun g hg => Lat.InSpan.of_mem (by simp [hg])) h
  have right : ∀ (G H : List Lat.V) (u : Lat.V), Lat.InSpan H u → Lat.InSpan (G ++ H) u := fun G H u h => Lat.InSpan.sub_list (fun g hg => Lat.InSpan.of_mem (by simp [hg])) h
  constructor
  · intro h
    refine Lat.InSpan.sub_list (fun g hg => ?_) h
    simp only [List.mem_cons] at hg
    rcases hg with rfl | rfl | rfl | hg
    · exact left _ _ _ ((basis_span h0 h3 s2 f2 _).2 (Lat.Mem.rc T2))
    · exact left _ _ _ ((basis_span h0 h3 s2 f2 _).2 (Lat.Mem.rb T2))
    · exact left _ _ _ ((basis_span h0 h3 s2 f2 _).2 (Lat.Mem.ra T2))
    · exact right _ _ _ (Lat.InSpan.of_mem hg)
  · intro h
    refine Lat.InSpan.sub_list (fun g hg => ?_) h
    rw [List.mem_append] at hg
    rcases hg with hg | hg
    · have m := (basis_span h0 h3 s2 f2 g).1 (Lat.InSpan.of_mem hg)
      have m2 := (Lat.Mem.iff_span T2 g).1 m
      refine Lat.InSpan.sub_list (fun x hx => Lat.InSpan.of_mem ?_) m2
      simp only [List.mem_cons, List.not_mem_nil, or_false] at hx
      rcases hx with rfl | rfl | rfl <;> simp
    · exact Lat.InSpan.of_mem (by simp [hg])

theorem le_vecs {n : Nat} {T : Lat.St} (h1 : 1 ≤ n) (h3 : n ≤ 3) (hf : FitsS T) : ∀ g ∈ vecs (basisRows n T), Lat.Le 511 g := by
  have := basis_given (by omega) h3 hf
  exact vecs_le (given_ok this).2.2.2

theorem retSJ {R : Ending → World → Prop} {a : Act} {W : World} {p : Nat} {x0 x1 x2 x3 x4 x5 x6 x7 x8 : Value}
    (h : a.tmps[4]?.getD undef = .pointer (some ⟨p, 0, none⟩)) (k : Blk W p #[x0, x1, x2, x3, x4, x5, x6, x7, x8] 58) (hd : a.defers = [])
    (hR : R (.returned (.agg #[x0, x1, x2, x3, x4, x5, x6, x7, x8])) W) : bodyPost Tryz.prog Tryz.f53 R .ret a W := by
  obtain ⟨c0, c1, c2, c3, c4, c5, c6, c7, c8⟩ := k.nine
  refine bodyPost_ret (v := .agg #[x0, x1, x2, x3, x4, x5, x6, x7, x8]) ?_ hd hR
  simp [results, Tryz.results53, go_sem, h, c0, c1, c2, c3, c4, c5, c6, c7, c8]

set_option maxRecDepth 100000 in
set_option maxHeartbeats 4000000 in
theorem spanJoin_any (S T : Lat.St) (G : List Lat.V) (w : World) (hS : Lat.CanonOf S G) (hG : ∀ g ∈ G, Lat.Le 511 g) (hT : FitsS T) :
    Calls Tryz.prog 53 #[.agg #[.int .i64 S.a.x, .int .i64 S.a.y, .int .i64 S.a.z, .int .i64 S.b.x, .int .i64 S.b.y, .int .i64 S.b.z, .int .i64 S.c.x, .int .i64 S.c.y, .int .i64 S.c.z], .agg #[.int .i64 T.a.x, .int .i64 T.a.y, .int .i64 T.a.z, .int .i64 T.b.x, .int .i64 T.b.y, .int .i64 T.b.z, .int .i64 T.c.x, .int .i64 T.c.y, .int .i64 T.c.z]] w
      fun e w' => ∃ R, Lat.CanonOf R (T.c :: T.b :: T.a :: G) ∧ e = .returned (.agg #[.int .i64 R.a.x, .int .i64 R.a.y, .int .i64 R.a.z, .int .i64 R.b.x, .int .i64 R.b.y, .int .i64 R.b.z, .int .i64 R.c.x, .int .i64 R.c.y, .int .i64 R.c.z]) ∧ Below w.heap.size w w' := by
  have HT := hide0 hT
  have HW1 := hide0 (fun w0 => with_any S G T.a w0 hS hG hT.1)
  have HG := hide0 hG
  clear hT hS hG
  go_enter Tryz.func53, Tryz.ntmps53
  go_wp2
  have kS := ((Blk.new w #[.int .i64 S.a.x, .int .i64 S.a.y, .int .i64 S.a.z, .int .i64 S.b.x, .int .i64 S.b.y, .int .i64 S.b.z, .int .i64 S.c.x, .int .i64 S.c.y, .int .i64 S.c.z] 58 rfl).alloc (.cells #[.int .i64 T.a.x, .int .i64 T.a.y, .int .i64 T.a.z, .int .i64 T.b.x, .int .i64 T.b.y, .int .i64 T.b.z, .int .i64 T.c.x, .int .i64 T.c.y, .int .i64 T.c.z] 58)).alloc (.cells #[.int .i64 0, .int .i64 0, .int .i64 0, .int .i64 0, .int .i64 0, .int .i64 0, .int .i64 0, .int .i64 0, .int .i64 0] 58)
  have kT := (Blk.new (w.alloc (.cells #[.int .i64 S.a.x, .int .i64 S.a.y, .int .i64 S.a.z, .int .i64 S.b.x, .int .i64 S.b.y, .int .i64 S.b.z, .int .i64 S.c.x, .int .i64 S.c.y, .int .i64 S.c.z] 58)) #[.int .i64 T.a.x, .int .i64 T.a.y, .int .i64 T.a.z, .int .i64 T.b.x, .int .i64 T.b.y, .int .i64 T.b.z, .int .i64 T.c.x, .int .i64 T.c.y, .int .i64 T.c.z] 58 (b := w.heap.size + 1) (by simp)).alloc (.cells #[.int .i64 0, .int .i64 0, .int .i64 0, .int .i64 0, .int .i64 0, .int .i64 0, .int .i64 0, .int .i64 0, .int .i64 0] 58)
  have kR := Blk.new ((w.alloc (.cells #[.int .i64 S.a.x, .int .i64 S.a.y, .int .i64 S.a.z, .int .i64 S.b.x, .int .i64 S.b.y, .int .i64 S.b.z, .int .i64 S.c.x, .int .i64 S.c.y, .int .i64 S.c.z] 58)).alloc (.cells #[.int .i64 T.a.x, .int .i64 T.a.y, .int .i64 T.a.z, .int .i64 T.b.x, .int .i64 T.b.y, .int .i64 T.b.z, .int .i64 T.c.x, .int .i64 T.c.y, .int .i64 T.c.z] 58)) #[.int .i64 0, .int .i64 0, .int .i64 0, .int .i64 0, .int .i64 0, .int .i64 0, .int .i64 0, .int .i64 0, .int .i64 0] 58 (b := w.heap.size + 2) (by simp)
  have hB : Below w.heap.size w (((w.alloc (.cells #[.int .i64 S.a.x, .int .i64 S.a.y, .int .i64 S.a.z, .int .i64 S.b.x, .int .i64 S.b.y, .int .i64 S.b.z, .int .i64 S.c.x, .int .i64 S.c.y, .int .i64 S.c.z] 58)).alloc (.cells #[.int .i64 T.a.x, .int .i64 T.a.y, .int .i64 T.a.z, .int .i64 T.b.x, .int .i64 T.b.y, .int .i64 T.b.z, .int .i64 T.c.x, .int .i64 T.c.y, .int .i64 T.c.z] 58)).alloc (.cells #[.int .i64 0, .int .i64 0, .int .i64 0, .int .i64 0, .int .i64 0, .int .i64 0, .int .i64 0, .int .i64 0, .int .i64 0] 58)) := by go_grown
  generalize (((w.alloc (.cells #[.int .i64 S.a.x, .int .i64 S.a.y, .int .i64 S.a.z, .int .i64 S.b.x, .int .i64 S.b.y, .int .i64 S.b.z, .int .i64 S.c.x, .int .i64 S.c.y, .int .i64 S.c.z] 58)).alloc (.cells #[.int .i64 T.a.x, .int .i64 T.a.y, .int .i64 T.a.z, .int .i64 T.b.x, .int .i64 T.b.y, .int .i64 T.b.z, .int .i64 T.c.x, .int .i64 T.c.y, .int .i64 T.c.z] 58)).alloc (.cells #[.int .i64 0, .int .i64 0, .int .i64 0, .int .i64 0, .int .i64 0, .int .i64 0, .int .i64 0, .int .i64 0, .int .i64 0] 58)) = w0 at *
  refine wp_loop_rounds 4 ?_
  rw [rounds_succ]
  go_upto_block 1 with fail
  go_cut [] (fun wx => ∃ R, Lat.CanonOf R (T.a :: G) ∧ Blk wx w.heap.size #[.int .i64 R.a.x, .int .i64 R.a.y, .int .i64 R.a.z, .int .i64 R.b.x, .int .i64 R.b.y, .int .i64 R.b.z, .int .i64 R.c.x, .int .i64 R.c.y, .int .i64 R.c.z] 58 ∧ Blk wx (w.heap.size + 1) #[.int .i64 T.a.x, .int .i64 T.a.y, .int .i64 T.a.z, .int .i64 T.b.x, .int .i64 T.b.y, .int .i64 T.b.z, .int .i64 T.c.x, .int .i64 T.c.y, .int .i64 T.c.z] 58 ∧ Blk wx (w.heap.size + 2) #[.int .i64 0, .int .i64 0, .int .i64 0, .int .i64 0, .int .i64 0, .int .i64 0, .int .i64 0, .int .i64 0, .int .i64 0] 58 ∧ Below w.heap.size w wx)
  case first =>
    obtain ⟨s0, s1, s2, s3, s4, s5, s6, s7, s8⟩ := kS.nine
    obtain ⟨t0, t1, t2, t3, t4, t5, t6, t7, t8⟩ := kT.nine
    have hl0 := kR.lt
    go_wp2
    refine wp_region_still_tail 5 (by kernel_rfl) (by kernel_rfl) ?_
    change wpStill _ _ (World.drew _) (fun a' => wpList _ _ _ _ a' (World.drew _)) _ _
    simp only [List.take_succ_cons, List.take_zero, List.drop_succ_cons, List.drop_zero]
    repeat still_step
    try refine wpStill_nil ?_
    go_wp2_with fail
    refine (HW1.out _).mono ?_
    rintro e w1 ⟨R, hR, rfl, hb1⟩
    have m1 := kS.drew.below hb1 (by show _ < _; have := kS.lt; simpa using this)
    have m2 := kT.drew.below hb1 (by show _ < _; have := kT.lt; simpa using this)
    have m3 := kR.drew.below hb1 (by show _ < _; have := kR.lt; simpa using this)
    have hB1 : Below w.heap.size w w1 := hB.drew.trans (hb1.mono (by have := hB.size; simpa using this))
    have HRR := hide0 hR
    clear s0 s1 s2 s3 s4 s5 s6 s7 s8 t0 t1 t2 t3 t4 t5 t6 t7 t8 hR hb1
    obtain ⟨s0, s1, s2, s3, s4, s5, s6, s7, s8⟩ := m1.nine
    obtain ⟨f0, f1, f2, f3, f4, f5, f6, f7, f8⟩ := m1.frozen9
    go_wp2
    go_meet
    exact ⟨R, HRR.out, m1.set9 _ _ _ _ _ _ _ _ _, m2.other9 (by omega) _ _ _ _ _ _ _ _ _, m3.other9 (by omega) _ _ _ _ _ _ _ _ _, below_set9 hB1 (Nat.le_refl _) _ _ _ _ _ _ _ _ _⟩
  case rest =>
  rename World => wx0
  clear kS kT kR hB
  obtain ⟨R0, hC0, kS, kT, kR, hB⟩ := hcut
  have HC0 := hide0 hC0
  have HW2 := hide0 (fun w0 => with_any R0 _ T.b w0 hC0 (fun g hg => by rcases List.mem_cons.1 hg with e | e; exact e ▸ HT.out.1; exact HG.out g e) HT.out.2.1)
  clear hC0
  go_wp2
  rw [rounds_succ]
  go_upto_block 1 with fail
  go_cut [] (fun wx => ∃ R, Lat.CanonOf R (T.b :: T.a :: G) ∧ Blk wx w.heap.size #[.int .i64 R.a.x, .int .i64 R.a.y, .int .i64 R.a.z, .int .i64 R.b.x, .int .i64 R.b.y, .int .i64 R.b.z, .int .i64 R.c.x, .int .i64 R.c.y, .int .i64 R.c.z] 58 ∧ Blk wx (w.heap.size + 1) #[.int .i64 T.a.x, .int .i64 T.a.y, .int .i64 T.a.z, .int .i64 T.b.x, .int .i64 T.b.y, .int .i64 T.b.z, .int .i64 T.c.x, .int .i64 T.c.y, .int .i64 T.c.z] 58 ∧ Blk wx (w.heap.size + 2) #[.int .i64 0, .int .i64 0, .int .i64 0, .int .i64 0, .int .i64 0, .int .i64 0, .int .i64 0, .int .i64 0, .int .i64 0] 58 ∧ Below w.heap.size w wx)
  case first =>
    obtain ⟨s0, s1, s2, s3, s4, s5, s6, s7, s8⟩ := kS.nine
    obtain ⟨t0, t1, t2, t3, t4, t5, t6, t7, t8⟩ := kT.nine
    have hl0 := kR.lt
    go_wp2
    refine wp_region_still_tail 5 (by kernel_rfl) (by kernel_rfl) ?_
    change wpStill _ _ (World.drew _) (fun a' => wpList _ _ _ _ a' (World.drew _)) _ _
    simp only [List.take_succ_cons, List.take_zero, List.drop_succ_cons, List.drop_zero]
    repeat still_step
    try refine wpStill_nil ?_
    go_wp2_with fail
    refine (HW2.out _).mono ?_
    rintro e w1 ⟨R, hR, rfl, hb1⟩
    have m1 := kS.drew.below hb1 (by show _ < _; have := kS.lt; simpa using this)
    have m2 := kT.drew.below hb1 (by show _ < _; have := kT.lt; simpa using this)
    have m3 := kR.drew.below hb1 (by show _ < _; have := kR.lt; simpa using this)
    have hB1 : Below w.heap.size w w1 := hB.drew.trans (hb1.mono (by have := hB.size; simpa using this))
    have HRR := hide0 hR
    clear s0 s1 s2 s3 s4 s5 s6 s7 s8 t0 t1 t2 t3 t4 t5 t6 t7 t8 hR hb1
    obtain ⟨s0, s1, s2, s3, s4, s5, s6, s7, s8⟩ := m1.nine
    obtain ⟨f0, f1, f2, f3, f4, f5, f6, f7, f8⟩ := m1.frozen9
    go_wp2
    go_meet
    exact ⟨R, HRR.out, m1.set9 _ _ _ _ _ _ _ _ _, m2.other9 (by omega) _ _ _ _ _ _ _ _ _, m3.other9 (by omega) _ _ _ _ _ _ _ _ _, below_set9 hB1 (Nat.le_refl _) _ _ _ _ _ _ _ _ _⟩
  case rest =>
  rename World => wx1
  clear kS kT kR hB
  obtain ⟨R1, hC1, kS, kT, kR, hB⟩ := hcut
  have HC1 := hide0 hC1
  have HW3 := hide0 (fun w0 => with_any R1 _ T.c w0 hC1 (fun g hg => by rcases List.mem_cons.1 hg with e | e; exact e ▸ HT.out.2.1; rcases List.mem_cons.1 e with e | e; exact e ▸ HT.out.1; exact HG.out g e) HT.out.2.2)
  clear hC1
  go_wp2
  rw [rounds_succ]
  go_upto_block 1 with fail
  go_cut [] (fun wx => ∃ R, Lat.CanonOf R (T.c :: T.b :: T.a :: G) ∧ Blk wx w.heap.size #[.int .i64 R.a.x, .int .i64 R.a.y, .int .i64 R.a.z, .int .i64 R.b.x, .int .i64 R.b.y, .int .i64 R.b.z, .int .i64 R.c.x, .int .i64 R.c.y, .int .i64 R.c.z] 58 ∧ Blk wx (w.heap.size + 1) #[.int .i64 T.a.x, .int .i64 T.a.y, .int .i64 T.a.z, .int .i64 T.b.x, .int .i64 T.b.y, .int .i64 T.b.z, .int .i64 T.c.x, .int .i64 T.c.y, .int .i64 T.c.z] 58 ∧ Blk wx (w.heap.size + 2) #[.int .i64 0, .int .i64 0, .int .i64 0, .int .i64 0, .int .i64 0, .int .i64 0, .int .i64 0, .int .i64 0, .int .i64 0] 58 ∧ Below w.heap.size w wx)
  case first =>
    obtain ⟨s0, s1, s2, s3, s4, s5, s6, s7, s8⟩ := kS.nine
    obtain ⟨t0, t1, t2, t3, t4, t5, t6, t7, t8⟩ := kT.nine
    have hl0 := kR.lt
    go_wp2
    refine wp_region_still_tail 5 (by kernel_rfl) (by kernel_rfl) ?_
    change wpStill _ _ (World.drew _) (fun a' => wpList _ _ _ _ a' (World.drew _)) _ _
    simp only [List.take_succ_cons, List.take_zero, List.drop_succ_cons, List.drop_zero]
    repeat still_step
    try refine wpStill_nil ?_
    go_wp2_with fail
    refine (HW3.out _).mono ?_
    rintro e w1 ⟨R, hR, rfl, hb1⟩
    have m1 := kS.drew.below hb1 (by show _ < _; have := kS.lt; simpa using this)
    have m2 := kT.drew.below hb1 (by show _ < _; have := kT.lt; simpa using this)
    have m3 := kR.drew.below hb1 (by show _ < _; have := kR.lt; simpa using this)
    have hB1 : Below w.heap.size w w1 := hB.drew.trans (hb1.mono (by have := hB.size; simpa using this))
    have HRR := hide0 hR
    clear s0 s1 s2 s3 s4 s5 s6 s7 s8 t0 t1 t2 t3 t4 t5 t6 t7 t8 hR hb1
    obtain ⟨s0, s1, s2, s3, s4, s5, s6, s7, s8⟩ := m1.nine
    obtain ⟨f0, f1, f2, f3, f4, f5, f6, f7, f8⟩ := m1.frozen9
    go_wp2
    go_meet
    exact ⟨R, HRR.out, m1.set9 _ _ _ _ _ _ _ _ _, m2.other9 (by omega) _ _ _ _ _ _ _ _ _, m3.other9 (by omega) _ _ _ _ _ _ _ _ _, below_set9 hB1 (Nat.le_refl _) _ _ _ _ _ _ _ _ _⟩
  case rest =>
  rename World => wx2
  clear kS kT kR hB
  obtain ⟨R2, hC2, kS, kT, kR, hB⟩ := hcut
  have HC2 := hide0 hC2
  clear hC2
  go_wp2
  rw [rounds_succ]
  obtain ⟨s0, s1, s2, s3, s4, s5, s6, s7, s8⟩ := kS.nine
  obtain ⟨t0, t1, t2, t3, t4, t5, t6, t7, t8⟩ := kR.nine
  obtain ⟨f0, f1, f2, f3, f4, f5, f6, f7, f8⟩ := kR.frozen9
  go_wp2
  exact retSJ rfl (kR.set9 _ _ _ _ _ _ _ _ _) rfl ⟨R2, HC2.out, rfl, below_set9 hB (by omega) _ _ _ _ _ _ _ _ _⟩
/- MARK2 -/
end Go.Proofs.YtmlcblnndihjoaaGreat
