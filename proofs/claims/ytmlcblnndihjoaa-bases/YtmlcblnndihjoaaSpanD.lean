import Derived.Test.YtmlcblnndihjoaaSpanC
namespace Go.Proofs.Ytmlcblnndihjoaa
open Go.RowKit


theorem ret50 {R : Ending → World → Prop} {a : Act} {W : World} {p : Nat} {x0 x1 x2 x3 x4 x5 x6 x7 x8 : Value}
    (h : a.tmps[4]?.getD undef = .pointer (some ⟨p, 0, none⟩)) (k : Blk W p #[x0, x1, x2, x3, x4, x5, x6, x7, x8] 65) (hd : a.defers = [])
    (hR : R (.returned (.agg #[x0, x1, x2, x3, x4, x5, x6, x7, x8])) W) : bodyPost Try.prog Try.f80 R .ret a W := by
  obtain ⟨c0, c1, c2, c3, c4, c5, c6, c7, c8⟩ := k.nine
  refine bodyPost_ret (v := .agg #[x0, x1, x2, x3, x4, x5, x6, x7, x8]) ?_ hd hR
  simp [results, Try.results80, go_sem, h, c0, c1, c2, c3, c4, c5, c6, c7, c8]

theorem Blk.far3 {w : World} {b b' : Nat} {cs : Array Value} {T : TypeId} {x y z : Value} (hne : b ≠ b') (h : Blk w b cs T) : Blk (((w.setCell ⟨b', 0, none⟩ x).setCell ⟨b', 1, none⟩ y).setCell ⟨b', 2, none⟩ z) b cs T := h.other3 hne x y z

set_option maxHeartbeats 2000000 in
theorem with_any (S : Lat.St) (G : List Lat.V) (v : Lat.V) (w : World) (hS : Lat.CanonOf S G) (hG : ∀ g ∈ G, Lat.Le 511 g) (hv : Lat.Le 511 v) :
    Calls Try.prog 80 #[.agg #[.int .i64 S.a.x, .int .i64 S.a.y, .int .i64 S.a.z, .int .i64 S.b.x, .int .i64 S.b.y, .int .i64 S.b.z, .int .i64 S.c.x, .int .i64 S.c.y, .int .i64 S.c.z], .agg #[.int .i64 v.x, .int .i64 v.y, .int .i64 v.z]] w
      fun e w' => ∃ T, Lat.CanonOf T (v :: G) ∧ e = .returned (.agg #[.int .i64 T.a.x, .int .i64 T.a.y, .int .i64 T.a.z, .int .i64 T.b.x, .int .i64 T.b.y, .int .i64 T.b.z, .int .i64 T.c.x, .int .i64 T.c.y, .int .i64 T.c.z]) ∧ Below w.heap.size w w' := by
  have hr0 := Lat.room0 hS hG hv
  go_enter Try.func80, Try.ntmps80
  go_upto_region 1 with fail
  go_cut [5] (fun u5 wx => u5 = .int .i64 0 ∧ Blk wx w.heap.size #[.int .i64 S.a.x, .int .i64 S.a.y, .int .i64 S.a.z, .int .i64 S.b.x, .int .i64 S.b.y, .int .i64 S.b.z, .int .i64 S.c.x, .int .i64 S.c.y, .int .i64 S.c.z] 65 ∧ Blk wx (w.heap.size + 1) #[.int .i64 v.x, .int .i64 v.y, .int .i64 v.z] 62 ∧ Blk wx (w.heap.size + 1 + 1) #[.int .i64 0, .int .i64 0, .int .i64 0, .int .i64 0, .int .i64 0, .int .i64 0, .int .i64 0, .int .i64 0, .int .i64 0] 65 ∧ Below w.heap.size w wx)
  case first =>
    go_wp2
    go_meet
    refine ⟨rfl, ?_, ?_, ?_, by go_grown⟩
    all_goals (repeat (first | (with_reducible assumption) | (focus ((with_reducible refine Blk.new _ _ _ ?_); simp; done)) | (with_reducible refine Blk.drewN ?_) | (with_reducible refine Blk.drew ?_) | (with_reducible refine Blk.alloc ?_ _) | (with_reducible apply Blk.set3) | ((with_reducible refine Blk.far3 ?_ ?_); focus omega)))
  case rest =>
  rename World => wR
  obtain ⟨rfl, ks, kv, kr, hB⟩ := hcut
  obtain ⟨s0, s1, s2, s3, s4, s5, s6, s7, s8⟩ := ks.nine
  obtain ⟨t0, t1, t2⟩ := kv.three
  obtain ⟨f0, f1, f2, f3, f4, f5, f6, f7, f8⟩ := ks.frozen9
  have g0 := kv.frozen 0; have g1 := kv.frozen 1; have g2 := kv.frozen 2
  have hl0 := ks.lt
  have hl1 := kv.lt
  have hl2 := kr.lt
  go_wp2
  refine wp_loop_rounds 4 ?_
  have HT0 : Hid (∀ w0, Calls Try.prog 93 #[.agg #[.int .i64 S.a.x, .int .i64 S.a.y, .int .i64 S.a.z], .agg #[.int .i64 v.x, .int .i64 v.y, .int .i64 v.z], .int .i64 0] w0 fun e w' => ∃ a' b', Lat.Swept 0 S.a v a' b' ∧ e = .returned (.tuple #[.agg #[.int .i64 a'.x, .int .i64 a'.y, .int .i64 a'.z], .agg #[.int .i64 b'.x, .int .i64 b'.y, .int .i64 b'.z]]) ∧ Below w0.heap.size w0 w') := fun w0 => sweep0 _ _ w0 hr0
  rw [rounds_succ]
  go_upto_block 1 with fail
  go_cut [] (fun wx => ∃ a1 v1 : Lat.V, Lat.Swept 0 S.a v a1 v1 ∧ Blk wx w.heap.size #[.int .i64 a1.x, .int .i64 a1.y, .int .i64 a1.z, .int .i64 S.b.x, .int .i64 S.b.y, .int .i64 S.b.z, .int .i64 S.c.x, .int .i64 S.c.y, .int .i64 S.c.z] 65 ∧ Blk wx (w.heap.size + 1) #[.int .i64 v1.x, .int .i64 v1.y, .int .i64 v1.z] 62 ∧ Blk wx (w.heap.size + 1 + 1) #[.int .i64 0, .int .i64 0, .int .i64 0, .int .i64 0, .int .i64 0, .int .i64 0, .int .i64 0, .int .i64 0, .int .i64 0] 65 ∧ Below w.heap.size w wx)
  case first =>
    have n1 : ¬ w.heap.size = wR.heap.size := by omega
    have n2 : ¬ wR.heap.size = w.heap.size := by omega
    have n3 : ¬ w.heap.size + 1 = wR.heap.size := by omega
    have n4 : ¬ wR.heap.size = w.heap.size + 1 := by omega
    have n5 : ¬ w.heap.size = wR.heap.size + 1 := by omega
    have n6 : ¬ wR.heap.size + 1 = w.heap.size := by omega
    go_wp2
    go_cut [6, 7] (fun u6 u7 wx => ∃ (p q : Nat) (a1 v1 : Lat.V), u6 = .pointer (some ⟨p, 0, none⟩) ∧ u7 = .pointer (some ⟨q, 0, none⟩) ∧ w.heap.size + 1 + 1 < p ∧ w.heap.size + 1 + 1 < q ∧ p ≠ q ∧ Lat.Swept 0 S.a v a1 v1 ∧ Blk wx p #[.int .i64 a1.x, .int .i64 a1.y, .int .i64 a1.z] 62 ∧ Blk wx q #[.int .i64 v1.x, .int .i64 v1.y, .int .i64 v1.z] 62 ∧ Blk wx w.heap.size #[.int .i64 S.a.x, .int .i64 S.a.y, .int .i64 S.a.z, .int .i64 S.b.x, .int .i64 S.b.y, .int .i64 S.b.z, .int .i64 S.c.x, .int .i64 S.c.y, .int .i64 S.c.z] 65 ∧ Blk wx (w.heap.size + 1) #[.int .i64 v.x, .int .i64 v.y, .int .i64 v.z] 62 ∧ Blk wx (w.heap.size + 1 + 1) #[.int .i64 0, .int .i64 0, .int .i64 0, .int .i64 0, .int .i64 0, .int .i64 0, .int .i64 0, .int .i64 0, .int .i64 0] 65 ∧ Below w.heap.size w wx)
    case first =>
      go_region_held3 (fun w' => w'.cell? ⟨w.heap.size, 0, none⟩ = some (.int .i64 S.a.x) ∧ w'.cell? ⟨w.heap.size, 1, none⟩ = some (.int .i64 S.a.y) ∧ w'.cell? ⟨w.heap.size, 2, none⟩ = some (.int .i64 S.a.z) ∧ w'.cell? ⟨w.heap.size + 1, 0, none⟩ = some (.int .i64 v.x) ∧ w'.cell? ⟨w.heap.size + 1, 1, none⟩ = some (.int .i64 v.y) ∧ w'.cell? ⟨w.heap.size + 1, 2, none⟩ = some (.int .i64 v.z))
        (go_keep)
        ((go_at_call 93; refine (HT0.out _).mono ?_; rintro e w1 ⟨a1, v1, hsw, rfl, hb1⟩
          have hz1 := hb1.size
          obtain ⟨hc1, hf1⟩ := bcell hb1
          simp at hz1 hc1 hf1
          have kS : Blk w1 w.heap.size #[.int .i64 S.a.x, .int .i64 S.a.y, .int .i64 S.a.z, .int .i64 S.b.x, .int .i64 S.b.y, .int .i64 S.b.z, .int .i64 S.c.x, .int .i64 S.c.y, .int .i64 S.c.z] 65 := Blk.below (by (repeat (first | (with_reducible assumption) | (focus ((with_reducible refine Blk.new _ _ _ ?_); simp; done)) | (with_reducible refine Blk.drewN ?_) | (with_reducible refine Blk.drew ?_) | (with_reducible refine Blk.alloc ?_ _) | (with_reducible apply Blk.set3) | ((with_reducible refine Blk.far3 ?_ ?_); focus omega)))) hb1 (by go_size)
          have kV : Blk w1 (w.heap.size + 1) #[.int .i64 v.x, .int .i64 v.y, .int .i64 v.z] 62 := Blk.below (by (repeat (first | (with_reducible assumption) | (focus ((with_reducible refine Blk.new _ _ _ ?_); simp; done)) | (with_reducible refine Blk.drewN ?_) | (with_reducible refine Blk.drew ?_) | (with_reducible refine Blk.alloc ?_ _) | (with_reducible apply Blk.set3) | ((with_reducible refine Blk.far3 ?_ ?_); focus omega)))) hb1 (by go_size)
          have kR : Blk w1 (w.heap.size + 1 + 1) #[.int .i64 0, .int .i64 0, .int .i64 0, .int .i64 0, .int .i64 0, .int .i64 0, .int .i64 0, .int .i64 0, .int .i64 0] 65 := Blk.below (by (repeat (first | (with_reducible assumption) | (focus ((with_reducible refine Blk.new _ _ _ ?_); simp; done)) | (with_reducible refine Blk.drewN ?_) | (with_reducible refine Blk.drew ?_) | (with_reducible refine Blk.alloc ?_ _) | (with_reducible apply Blk.set3) | ((with_reducible refine Blk.far3 ?_ ?_); focus omega)))) hb1 (by go_size)
          have hB1 : Below w.heap.size w w1 := Below.trans (by go_grown) (hb1.mono (by go_size))
          have m1 : ¬ w.heap.size = w1.heap.size := by omega
          have m2 : ¬ w1.heap.size = w.heap.size := by omega
          have m3 : ¬ w.heap.size + 1 = w1.heap.size := by omega
          have m4 : ¬ w1.heap.size = w.heap.size + 1 := by omega
          have m5 : ¬ w.heap.size = w1.heap.size + 1 := by omega
          have m6 : ¬ w1.heap.size + 1 = w.heap.size := by omega
          try (have m7 : ¬ w1.heap.size = wR.heap.size := by omega
               have m8 : ¬ wR.heap.size = w1.heap.size := by omega
               have kN : Blk w1 wR.heap.size #[.int .i64 0, .int .i64 0, .int .i64 0] 62 := Blk.below (by (repeat (first | (with_reducible assumption) | (focus ((with_reducible refine Blk.new _ _ _ ?_); simp; done)) | (with_reducible refine Blk.drewN ?_) | (with_reducible refine Blk.drew ?_) | (with_reducible refine Blk.alloc ?_ _) | (with_reducible apply Blk.set3) | ((with_reducible refine Blk.far3 ?_ ?_); focus omega)))) hb1 (by go_size)
               have m11 : wR.heap.size < w1.heap.size := by omega
               obtain ⟨z0, z1, z2⟩ := kN.three
               have i0 := kN.frozen 0
               have i1 := kN.frozen 1
               have i2 := kN.frozen 2)
          try (have kO : Blk w1 (wR.heap.size + 1) #[.int .i64 0, .int .i64 0, .int .i64 0] 62 := Blk.below (by (repeat (first | (with_reducible assumption) | (focus ((with_reducible refine Blk.new _ _ _ ?_); simp; done)) | (with_reducible refine Blk.drewN ?_) | (with_reducible refine Blk.drew ?_) | (with_reducible refine Blk.alloc ?_ _) | (with_reducible apply Blk.set3) | ((with_reducible refine Blk.far3 ?_ ?_); focus omega)))) hb1 (by go_size)
               have m9 : ¬ w1.heap.size = wR.heap.size + 1 := by omega
               have m10 : ¬ wR.heap.size + 1 = w1.heap.size := by omega
               have m12 : wR.heap.size + 1 < w1.heap.size := by omega
               obtain ⟨z3, z4, z5⟩ := kO.three
               have i3 := kO.frozen 0
               have i4 := kO.frozen 1
               have i5 := kO.frozen 2)
          clear hc1 hf1
          obtain ⟨x0, x1, x2, x3, x4, x5, x6, x7, x8⟩ := kS.nine
          obtain ⟨y0, y1, y2⟩ := kV.three))
      all_goals (go_wp2_with fail)
      all_goals go_meet
      all_goals refine ⟨_, _, a1, v1, rfl, rfl, by omega, by omega, by omega, hsw, ?_, ?_, ?_, ?_, ?_, ?_⟩
      all_goals first | (focus ((repeat (first | (with_reducible assumption) | (focus ((with_reducible refine Blk.new _ _ _ ?_); simp; done)) | (with_reducible refine Blk.drewN ?_) | (with_reducible refine Blk.drew ?_) | (with_reducible refine Blk.alloc ?_ _) | (with_reducible apply Blk.set3) | ((with_reducible refine Blk.far3 ?_ ?_); focus omega))); done)) | (focus (go_grown; done)) | skip
      all_goals go_goals
    case rest =>
      obtain ⟨p, q, a1, v1, rfl, rfl, hp, hq, hpq, hsw, bp, bq, kS, kV, kR, hB1⟩ := hcut
      clear ks kv kr hB s0 s1 s2 s3 s4 s5 s6 s7 s8 t0 t1 t2 f0 f1 f2 f3 f4 f5 f6 f7 f8 g0 g1 g2
      obtain ⟨s0, s1, s2, s3, s4, s5, s6, s7, s8⟩ := kS.nine
      obtain ⟨f0, f1, f2, f3, f4, f5, f6, f7, f8⟩ := kS.frozen9
      obtain ⟨t0, t1, t2⟩ := kV.three
      have g0 := kV.frozen 0; have g1 := kV.frozen 1; have g2 := kV.frozen 2
      obtain ⟨p0, p1, p2⟩ := bp.three
      obtain ⟨q0, q1, q2⟩ := bq.three
      have d1 : ¬ p = w.heap.size := by omega
      have d2 : ¬ w.heap.size = p := by omega
      have d3 : ¬ q = w.heap.size := by omega
      have d4 : ¬ w.heap.size = q := by omega
      have d5 : ¬ q = w.heap.size + 1 := by omega
      have d6 : ¬ w.heap.size + 1 = q := by omega
      go_wp2
      go_meet
      refine ⟨a1, v1, hsw, ?_, ?_, ?_, ?_⟩
      · have := ((kS.set 0 (.int .i64 a1.x)).set 1 (.int .i64 a1.y)).set 2 (.int .i64 a1.z)
        refine Blk.other3 (b' := w.heap.size + 1) ?_ (by omega) _ _ _
        simpa using this
      · exact (((kV.other (by simp) _).other (by simp) _).other (by simp) _).set3 _ _ _
      · exact (((kR.other (by simp; omega) _).other (by simp; omega) _).other (by simp; omega) _).other3 (by omega) _ _ _
      · go_grown
  case rest =>
  clear s0 s1 s2 s3 s4 s5 s6 s7 s8 t0 t1 t2 f0 f1 f2 f3 f4 f5 f6 f7 f8 g0 g1 g2 hl0 hl1 hl2 ks kv kr hB
  rename World => wA
  obtain ⟨a1, v1, hs0, ks, kv, kr, hB⟩ := hcut
  obtain ⟨s0, s1, s2, s3, s4, s5, s6, s7, s8⟩ := ks.nine
  obtain ⟨t0, t1, t2⟩ := kv.three
  obtain ⟨f0, f1, f2, f3, f4, f5, f6, f7, f8⟩ := ks.frozen9
  have g0 := kv.frozen 0; have g1 := kv.frozen 1; have g2 := kv.frozen 2
  have hl0 := ks.lt
  have hl1 := kv.lt
  have hl2 := kr.lt
  go_wp2
  have hr1 := Lat.room1 hS hG hv hs0
  have HT1 : Hid (∀ w0, Calls Try.prog 93 #[.agg #[.int .i64 S.b.x, .int .i64 S.b.y, .int .i64 S.b.z], .agg #[.int .i64 v1.x, .int .i64 v1.y, .int .i64 v1.z], .int .i64 1] w0 fun e w' => ∃ a' b', Lat.Swept 1 S.b v1 a' b' ∧ e = .returned (.tuple #[.agg #[.int .i64 a'.x, .int .i64 a'.y, .int .i64 a'.z], .agg #[.int .i64 b'.x, .int .i64 b'.y, .int .i64 b'.z]]) ∧ Below w0.heap.size w0 w') := fun w0 => sweep1 _ _ w0 hr1
  rw [rounds_succ]
  go_upto_block 1 with fail
  go_cut [] (fun wx => ∃ b1 v2 : Lat.V, Lat.Swept 1 S.b v1 b1 v2 ∧ Blk wx w.heap.size #[.int .i64 a1.x, .int .i64 a1.y, .int .i64 a1.z, .int .i64 b1.x, .int .i64 b1.y, .int .i64 b1.z, .int .i64 S.c.x, .int .i64 S.c.y, .int .i64 S.c.z] 65 ∧ Blk wx (w.heap.size + 1) #[.int .i64 v2.x, .int .i64 v2.y, .int .i64 v2.z] 62 ∧ Blk wx (w.heap.size + 1 + 1) #[.int .i64 0, .int .i64 0, .int .i64 0, .int .i64 0, .int .i64 0, .int .i64 0, .int .i64 0, .int .i64 0, .int .i64 0] 65 ∧ Below w.heap.size w wx)
  case first =>
    have n1 : ¬ w.heap.size = wA.heap.size := by omega
    have n2 : ¬ wA.heap.size = w.heap.size := by omega
    have n3 : ¬ w.heap.size + 1 = wA.heap.size := by omega
    have n4 : ¬ wA.heap.size = w.heap.size + 1 := by omega
    have n5 : ¬ w.heap.size = wA.heap.size + 1 := by omega
    have n6 : ¬ wA.heap.size + 1 = w.heap.size := by omega
    go_wp2
    go_cut [6, 7] (fun u6 u7 wx => ∃ (p q : Nat) (b1 v2 : Lat.V), u6 = .pointer (some ⟨p, 0, none⟩) ∧ u7 = .pointer (some ⟨q, 0, none⟩) ∧ w.heap.size + 1 + 1 < p ∧ w.heap.size + 1 + 1 < q ∧ p ≠ q ∧ Lat.Swept 1 S.b v1 b1 v2 ∧ Blk wx p #[.int .i64 b1.x, .int .i64 b1.y, .int .i64 b1.z] 62 ∧ Blk wx q #[.int .i64 v2.x, .int .i64 v2.y, .int .i64 v2.z] 62 ∧ Blk wx w.heap.size #[.int .i64 a1.x, .int .i64 a1.y, .int .i64 a1.z, .int .i64 S.b.x, .int .i64 S.b.y, .int .i64 S.b.z, .int .i64 S.c.x, .int .i64 S.c.y, .int .i64 S.c.z] 65 ∧ Blk wx (w.heap.size + 1) #[.int .i64 v1.x, .int .i64 v1.y, .int .i64 v1.z] 62 ∧ Blk wx (w.heap.size + 1 + 1) #[.int .i64 0, .int .i64 0, .int .i64 0, .int .i64 0, .int .i64 0, .int .i64 0, .int .i64 0, .int .i64 0, .int .i64 0] 65 ∧ Below w.heap.size w wx)
    case first =>
      go_region_held3 (fun w' => w'.cell? ⟨w.heap.size, 3, none⟩ = some (.int .i64 S.b.x) ∧ w'.cell? ⟨w.heap.size, 4, none⟩ = some (.int .i64 S.b.y) ∧ w'.cell? ⟨w.heap.size, 5, none⟩ = some (.int .i64 S.b.z) ∧ w'.cell? ⟨w.heap.size + 1, 0, none⟩ = some (.int .i64 v1.x) ∧ w'.cell? ⟨w.heap.size + 1, 1, none⟩ = some (.int .i64 v1.y) ∧ w'.cell? ⟨w.heap.size + 1, 2, none⟩ = some (.int .i64 v1.z))
        (go_keep)
        ((go_at_call 93; refine (HT1.out _).mono ?_; rintro e w1 ⟨b1, v2, hsw, rfl, hb1⟩
          have hz1 := hb1.size
          obtain ⟨hc1, hf1⟩ := bcell hb1
          simp at hz1 hc1 hf1
          have kS : Blk w1 w.heap.size #[.int .i64 a1.x, .int .i64 a1.y, .int .i64 a1.z, .int .i64 S.b.x, .int .i64 S.b.y, .int .i64 S.b.z, .int .i64 S.c.x, .int .i64 S.c.y, .int .i64 S.c.z] 65 := Blk.below (by (repeat (first | (with_reducible assumption) | (focus ((with_reducible refine Blk.new _ _ _ ?_); simp; done)) | (with_reducible refine Blk.drewN ?_) | (with_reducible refine Blk.drew ?_) | (with_reducible refine Blk.alloc ?_ _) | (with_reducible apply Blk.set3) | ((with_reducible refine Blk.far3 ?_ ?_); focus omega)))) hb1 (by go_size)
          have kV : Blk w1 (w.heap.size + 1) #[.int .i64 v1.x, .int .i64 v1.y, .int .i64 v1.z] 62 := Blk.below (by (repeat (first | (with_reducible assumption) | (focus ((with_reducible refine Blk.new _ _ _ ?_); simp; done)) | (with_reducible refine Blk.drewN ?_) | (with_reducible refine Blk.drew ?_) | (with_reducible refine Blk.alloc ?_ _) | (with_reducible apply Blk.set3) | ((with_reducible refine Blk.far3 ?_ ?_); focus omega)))) hb1 (by go_size)
          have kR : Blk w1 (w.heap.size + 1 + 1) #[.int .i64 0, .int .i64 0, .int .i64 0, .int .i64 0, .int .i64 0, .int .i64 0, .int .i64 0, .int .i64 0, .int .i64 0] 65 := Blk.below (by (repeat (first | (with_reducible assumption) | (focus ((with_reducible refine Blk.new _ _ _ ?_); simp; done)) | (with_reducible refine Blk.drewN ?_) | (with_reducible refine Blk.drew ?_) | (with_reducible refine Blk.alloc ?_ _) | (with_reducible apply Blk.set3) | ((with_reducible refine Blk.far3 ?_ ?_); focus omega)))) hb1 (by go_size)
          have hB1 : Below w.heap.size w w1 := Below.trans (by go_grown) (hb1.mono (by go_size))
          have m1 : ¬ w.heap.size = w1.heap.size := by omega
          have m2 : ¬ w1.heap.size = w.heap.size := by omega
          have m3 : ¬ w.heap.size + 1 = w1.heap.size := by omega
          have m4 : ¬ w1.heap.size = w.heap.size + 1 := by omega
          have m5 : ¬ w.heap.size = w1.heap.size + 1 := by omega
          have m6 : ¬ w1.heap.size + 1 = w.heap.size := by omega
          try (have m7 : ¬ w1.heap.size = wA.heap.size := by omega
               have m8 : ¬ wA.heap.size = w1.heap.size := by omega
               have kN : Blk w1 wA.heap.size #[.int .i64 0, .int .i64 0, .int .i64 0] 62 := Blk.below (by (repeat (first | (with_reducible assumption) | (focus ((with_reducible refine Blk.new _ _ _ ?_); simp; done)) | (with_reducible refine Blk.drewN ?_) | (with_reducible refine Blk.drew ?_) | (with_reducible refine Blk.alloc ?_ _) | (with_reducible apply Blk.set3) | ((with_reducible refine Blk.far3 ?_ ?_); focus omega)))) hb1 (by go_size)
               have m11 : wA.heap.size < w1.heap.size := by omega
               obtain ⟨z0, z1, z2⟩ := kN.three
               have i0 := kN.frozen 0
               have i1 := kN.frozen 1
               have i2 := kN.frozen 2)
          try (have kO : Blk w1 (wA.heap.size + 1) #[.int .i64 0, .int .i64 0, .int .i64 0] 62 := Blk.below (by (repeat (first | (with_reducible assumption) | (focus ((with_reducible refine Blk.new _ _ _ ?_); simp; done)) | (with_reducible refine Blk.drewN ?_) | (with_reducible refine Blk.drew ?_) | (with_reducible refine Blk.alloc ?_ _) | (with_reducible apply Blk.set3) | ((with_reducible refine Blk.far3 ?_ ?_); focus omega)))) hb1 (by go_size)
               have m9 : ¬ w1.heap.size = wA.heap.size + 1 := by omega
               have m10 : ¬ wA.heap.size + 1 = w1.heap.size := by omega
               have m12 : wA.heap.size + 1 < w1.heap.size := by omega
               obtain ⟨z3, z4, z5⟩ := kO.three
               have i3 := kO.frozen 0
               have i4 := kO.frozen 1
               have i5 := kO.frozen 2)
          clear hc1 hf1
          obtain ⟨x0, x1, x2, x3, x4, x5, x6, x7, x8⟩ := kS.nine
          obtain ⟨y0, y1, y2⟩ := kV.three))
      all_goals (go_wp2_with fail)
      all_goals go_meet
      all_goals refine ⟨_, _, b1, v2, rfl, rfl, by omega, by omega, by omega, hsw, ?_, ?_, ?_, ?_, ?_, ?_⟩
      all_goals first | (focus ((repeat (first | (with_reducible assumption) | (focus ((with_reducible refine Blk.new _ _ _ ?_); simp; done)) | (with_reducible refine Blk.drewN ?_) | (with_reducible refine Blk.drew ?_) | (with_reducible refine Blk.alloc ?_ _) | (with_reducible apply Blk.set3) | ((with_reducible refine Blk.far3 ?_ ?_); focus omega))); done)) | (focus (go_grown; done)) | skip
      all_goals go_goals
    case rest =>
      obtain ⟨p, q, b1, v2, rfl, rfl, hp, hq, hpq, hsw, bp, bq, kS, kV, kR, hB1⟩ := hcut
      clear ks kv kr hB s0 s1 s2 s3 s4 s5 s6 s7 s8 t0 t1 t2 f0 f1 f2 f3 f4 f5 f6 f7 f8 g0 g1 g2
      obtain ⟨s0, s1, s2, s3, s4, s5, s6, s7, s8⟩ := kS.nine
      obtain ⟨f0, f1, f2, f3, f4, f5, f6, f7, f8⟩ := kS.frozen9
      obtain ⟨t0, t1, t2⟩ := kV.three
      have g0 := kV.frozen 0; have g1 := kV.frozen 1; have g2 := kV.frozen 2
      obtain ⟨p0, p1, p2⟩ := bp.three
      obtain ⟨q0, q1, q2⟩ := bq.three
      have d1 : ¬ p = w.heap.size := by omega
      have d2 : ¬ w.heap.size = p := by omega
      have d3 : ¬ q = w.heap.size := by omega
      have d4 : ¬ w.heap.size = q := by omega
      have d5 : ¬ q = w.heap.size + 1 := by omega
      have d6 : ¬ w.heap.size + 1 = q := by omega
      go_wp2
      go_meet
      refine ⟨b1, v2, hsw, ?_, ?_, ?_, ?_⟩
      · have := ((kS.set 3 (.int .i64 b1.x)).set 4 (.int .i64 b1.y)).set 5 (.int .i64 b1.z)
        refine Blk.other3 (b' := w.heap.size + 1) ?_ (by omega) _ _ _
        simpa using this
      · exact (((kV.other (by simp) _).other (by simp) _).other (by simp) _).set3 _ _ _
      · exact (((kR.other (by simp; omega) _).other (by simp; omega) _).other (by simp; omega) _).other3 (by omega) _ _ _
      · go_grown
  case rest =>
  clear s0 s1 s2 s3 s4 s5 s6 s7 s8 t0 t1 t2 f0 f1 f2 f3 f4 f5 f6 f7 f8 g0 g1 g2 hl0 hl1 hl2 ks kv kr hB
  rename World => wB
  obtain ⟨b1, v2, hs1, ks, kv, kr, hB⟩ := hcut
  obtain ⟨s0, s1, s2, s3, s4, s5, s6, s7, s8⟩ := ks.nine
  obtain ⟨t0, t1, t2⟩ := kv.three
  obtain ⟨f0, f1, f2, f3, f4, f5, f6, f7, f8⟩ := ks.frozen9
  have g0 := kv.frozen 0; have g1 := kv.frozen 1; have g2 := kv.frozen 2
  have hl0 := ks.lt
  have hl1 := kv.lt
  have hl2 := kr.lt
  go_wp2
  have hr2 := Lat.room2 hS hG hv hs0 hs1
  have HT2 : Hid (∀ w0, Calls Try.prog 93 #[.agg #[.int .i64 S.c.x, .int .i64 S.c.y, .int .i64 S.c.z], .agg #[.int .i64 v2.x, .int .i64 v2.y, .int .i64 v2.z], .int .i64 2] w0 fun e w' => ∃ a' b', Lat.Swept 2 S.c v2 a' b' ∧ e = .returned (.tuple #[.agg #[.int .i64 a'.x, .int .i64 a'.y, .int .i64 a'.z], .agg #[.int .i64 b'.x, .int .i64 b'.y, .int .i64 b'.z]]) ∧ Below w0.heap.size w0 w') := fun w0 => sweep2 _ _ w0 hr2
  rw [rounds_succ]
  go_upto_block 1 with fail
  go_cut [] (fun wx => ∃ c1 v3 : Lat.V, Lat.Swept 2 S.c v2 c1 v3 ∧ Blk wx w.heap.size #[.int .i64 a1.x, .int .i64 a1.y, .int .i64 a1.z, .int .i64 b1.x, .int .i64 b1.y, .int .i64 b1.z, .int .i64 c1.x, .int .i64 c1.y, .int .i64 c1.z] 65 ∧ Blk wx (w.heap.size + 1) #[.int .i64 v3.x, .int .i64 v3.y, .int .i64 v3.z] 62 ∧ Blk wx (w.heap.size + 1 + 1) #[.int .i64 0, .int .i64 0, .int .i64 0, .int .i64 0, .int .i64 0, .int .i64 0, .int .i64 0, .int .i64 0, .int .i64 0] 65 ∧ Below w.heap.size w wx)
  case first =>
    have n1 : ¬ w.heap.size = wB.heap.size := by omega
    have n2 : ¬ wB.heap.size = w.heap.size := by omega
    have n3 : ¬ w.heap.size + 1 = wB.heap.size := by omega
    have n4 : ¬ wB.heap.size = w.heap.size + 1 := by omega
    have n5 : ¬ w.heap.size = wB.heap.size + 1 := by omega
    have n6 : ¬ wB.heap.size + 1 = w.heap.size := by omega
    go_wp2
    go_cut [6, 7] (fun u6 u7 wx => ∃ (p q : Nat) (c1 v3 : Lat.V), u6 = .pointer (some ⟨p, 0, none⟩) ∧ u7 = .pointer (some ⟨q, 0, none⟩) ∧ w.heap.size + 1 + 1 < p ∧ w.heap.size + 1 + 1 < q ∧ p ≠ q ∧ Lat.Swept 2 S.c v2 c1 v3 ∧ Blk wx p #[.int .i64 c1.x, .int .i64 c1.y, .int .i64 c1.z] 62 ∧ Blk wx q #[.int .i64 v3.x, .int .i64 v3.y, .int .i64 v3.z] 62 ∧ Blk wx w.heap.size #[.int .i64 a1.x, .int .i64 a1.y, .int .i64 a1.z, .int .i64 b1.x, .int .i64 b1.y, .int .i64 b1.z, .int .i64 S.c.x, .int .i64 S.c.y, .int .i64 S.c.z] 65 ∧ Blk wx (w.heap.size + 1) #[.int .i64 v2.x, .int .i64 v2.y, .int .i64 v2.z] 62 ∧ Blk wx (w.heap.size + 1 + 1) #[.int .i64 0, .int .i64 0, .int .i64 0, .int .i64 0, .int .i64 0, .int .i64 0, .int .i64 0, .int .i64 0, .int .i64 0] 65 ∧ Below w.heap.size w wx)
    case first =>
      go_region_held3 (fun w' => w'.cell? ⟨w.heap.size, 6, none⟩ = some (.int .i64 S.c.x) ∧ w'.cell? ⟨w.heap.size, 7, none⟩ = some (.int .i64 S.c.y) ∧ w'.cell? ⟨w.heap.size, 8, none⟩ = some (.int .i64 S.c.z) ∧ w'.cell? ⟨w.heap.size + 1, 0, none⟩ = some (.int .i64 v2.x) ∧ w'.cell? ⟨w.heap.size + 1, 1, none⟩ = some (.int .i64 v2.y) ∧ w'.cell? ⟨w.heap.size + 1, 2, none⟩ = some (.int .i64 v2.z))
        (go_keep)
        ((go_at_call 93; refine (HT2.out _).mono ?_; rintro e w1 ⟨c1, v3, hsw, rfl, hb1⟩
          have hz1 := hb1.size
          obtain ⟨hc1, hf1⟩ := bcell hb1
          simp at hz1 hc1 hf1
          have kS : Blk w1 w.heap.size #[.int .i64 a1.x, .int .i64 a1.y, .int .i64 a1.z, .int .i64 b1.x, .int .i64 b1.y, .int .i64 b1.z, .int .i64 S.c.x, .int .i64 S.c.y, .int .i64 S.c.z] 65 := Blk.below (by (repeat (first | (with_reducible assumption) | (focus ((with_reducible refine Blk.new _ _ _ ?_); simp; done)) | (with_reducible refine Blk.drewN ?_) | (with_reducible refine Blk.drew ?_) | (with_reducible refine Blk.alloc ?_ _) | (with_reducible apply Blk.set3) | ((with_reducible refine Blk.far3 ?_ ?_); focus omega)))) hb1 (by go_size)
          have kV : Blk w1 (w.heap.size + 1) #[.int .i64 v2.x, .int .i64 v2.y, .int .i64 v2.z] 62 := Blk.below (by (repeat (first | (with_reducible assumption) | (focus ((with_reducible refine Blk.new _ _ _ ?_); simp; done)) | (with_reducible refine Blk.drewN ?_) | (with_reducible refine Blk.drew ?_) | (with_reducible refine Blk.alloc ?_ _) | (with_reducible apply Blk.set3) | ((with_reducible refine Blk.far3 ?_ ?_); focus omega)))) hb1 (by go_size)
          have kR : Blk w1 (w.heap.size + 1 + 1) #[.int .i64 0, .int .i64 0, .int .i64 0, .int .i64 0, .int .i64 0, .int .i64 0, .int .i64 0, .int .i64 0, .int .i64 0] 65 := Blk.below (by (repeat (first | (with_reducible assumption) | (focus ((with_reducible refine Blk.new _ _ _ ?_); simp; done)) | (with_reducible refine Blk.drewN ?_) | (with_reducible refine Blk.drew ?_) | (with_reducible refine Blk.alloc ?_ _) | (with_reducible apply Blk.set3) | ((with_reducible refine Blk.far3 ?_ ?_); focus omega)))) hb1 (by go_size)
          have hB1 : Below w.heap.size w w1 := Below.trans (by go_grown) (hb1.mono (by go_size))
          have m1 : ¬ w.heap.size = w1.heap.size := by omega
          have m2 : ¬ w1.heap.size = w.heap.size := by omega
          have m3 : ¬ w.heap.size + 1 = w1.heap.size := by omega
          have m4 : ¬ w1.heap.size = w.heap.size + 1 := by omega
          have m5 : ¬ w.heap.size = w1.heap.size + 1 := by omega
          have m6 : ¬ w1.heap.size + 1 = w.heap.size := by omega
          try (have m7 : ¬ w1.heap.size = wB.heap.size := by omega
               have m8 : ¬ wB.heap.size = w1.heap.size := by omega
               have kN : Blk w1 wB.heap.size #[.int .i64 0, .int .i64 0, .int .i64 0] 62 := Blk.below (by (repeat (first | (with_reducible assumption) | (focus ((with_reducible refine Blk.new _ _ _ ?_); simp; done)) | (with_reducible refine Blk.drewN ?_) | (with_reducible refine Blk.drew ?_) | (with_reducible refine Blk.alloc ?_ _) | (with_reducible apply Blk.set3) | ((with_reducible refine Blk.far3 ?_ ?_); focus omega)))) hb1 (by go_size)
               have m11 : wB.heap.size < w1.heap.size := by omega
               obtain ⟨z0, z1, z2⟩ := kN.three
               have i0 := kN.frozen 0
               have i1 := kN.frozen 1
               have i2 := kN.frozen 2)
          try (have kO : Blk w1 (wB.heap.size + 1) #[.int .i64 0, .int .i64 0, .int .i64 0] 62 := Blk.below (by (repeat (first | (with_reducible assumption) | (focus ((with_reducible refine Blk.new _ _ _ ?_); simp; done)) | (with_reducible refine Blk.drewN ?_) | (with_reducible refine Blk.drew ?_) | (with_reducible refine Blk.alloc ?_ _) | (with_reducible apply Blk.set3) | ((with_reducible refine Blk.far3 ?_ ?_); focus omega)))) hb1 (by go_size)
               have m9 : ¬ w1.heap.size = wB.heap.size + 1 := by omega
               have m10 : ¬ wB.heap.size + 1 = w1.heap.size := by omega
               have m12 : wB.heap.size + 1 < w1.heap.size := by omega
               obtain ⟨z3, z4, z5⟩ := kO.three
               have i3 := kO.frozen 0
               have i4 := kO.frozen 1
               have i5 := kO.frozen 2)
          clear hc1 hf1
          obtain ⟨x0, x1, x2, x3, x4, x5, x6, x7, x8⟩ := kS.nine
          obtain ⟨y0, y1, y2⟩ := kV.three))
      all_goals (go_wp2_with fail)
      all_goals go_meet
      all_goals refine ⟨_, _, c1, v3, rfl, rfl, by omega, by omega, by omega, hsw, ?_, ?_, ?_, ?_, ?_, ?_⟩
      all_goals first | (focus ((repeat (first | (with_reducible assumption) | (focus ((with_reducible refine Blk.new _ _ _ ?_); simp; done)) | (with_reducible refine Blk.drewN ?_) | (with_reducible refine Blk.drew ?_) | (with_reducible refine Blk.alloc ?_ _) | (with_reducible apply Blk.set3) | ((with_reducible refine Blk.far3 ?_ ?_); focus omega))); done)) | (focus (go_grown; done)) | skip
      all_goals go_goals
    case rest =>
      obtain ⟨p, q, c1, v3, rfl, rfl, hp, hq, hpq, hsw, bp, bq, kS, kV, kR, hB1⟩ := hcut
      clear ks kv kr hB s0 s1 s2 s3 s4 s5 s6 s7 s8 t0 t1 t2 f0 f1 f2 f3 f4 f5 f6 f7 f8 g0 g1 g2
      obtain ⟨s0, s1, s2, s3, s4, s5, s6, s7, s8⟩ := kS.nine
      obtain ⟨f0, f1, f2, f3, f4, f5, f6, f7, f8⟩ := kS.frozen9
      obtain ⟨t0, t1, t2⟩ := kV.three
      have g0 := kV.frozen 0; have g1 := kV.frozen 1; have g2 := kV.frozen 2
      obtain ⟨p0, p1, p2⟩ := bp.three
      obtain ⟨q0, q1, q2⟩ := bq.three
      have d1 : ¬ p = w.heap.size := by omega
      have d2 : ¬ w.heap.size = p := by omega
      have d3 : ¬ q = w.heap.size := by omega
      have d4 : ¬ w.heap.size = q := by omega
      have d5 : ¬ q = w.heap.size + 1 := by omega
      have d6 : ¬ w.heap.size + 1 = q := by omega
      go_wp2
      go_meet
      refine ⟨c1, v3, hsw, ?_, ?_, ?_, ?_⟩
      · have := ((kS.set 6 (.int .i64 c1.x)).set 7 (.int .i64 c1.y)).set 8 (.int .i64 c1.z)
        refine Blk.other3 (b' := w.heap.size + 1) ?_ (by omega) _ _ _
        simpa using this
      · exact (((kV.other (by simp) _).other (by simp) _).other (by simp) _).set3 _ _ _
      · exact (((kR.other (by simp; omega) _).other (by simp; omega) _).other (by simp; omega) _).other3 (by omega) _ _ _
      · go_grown
  case rest =>
  clear s0 s1 s2 s3 s4 s5 s6 s7 s8 t0 t1 t2 f0 f1 f2 f3 f4 f5 f6 f7 f8 g0 g1 g2 hl0 hl1 hl2 ks kv kr hB
  rename World => wC
  obtain ⟨c1, v3, hs2, ks, kv, kr, hB⟩ := hcut
  obtain ⟨s0, s1, s2, s3, s4, s5, s6, s7, s8⟩ := ks.nine
  obtain ⟨t0, t1, t2⟩ := kv.three
  obtain ⟨f0, f1, f2, f3, f4, f5, f6, f7, f8⟩ := ks.frozen9
  have g0 := kv.frozen 0; have g1 := kv.frozen 1; have g2 := kv.frozen 2
  have hl0 := ks.lt
  have hl1 := kv.lt
  have hl2 := kr.lt
  go_wp2
  rw [rounds_succ]
  have hC := Lat.with_canon hS hs0 hs1 hs2
  have hR : Hid (∀ w0, Calls Try.prog 94 #[.agg #[.int .i64 a1.x, .int .i64 a1.y, .int .i64 a1.z, .int .i64 b1.x, .int .i64 b1.y, .int .i64 b1.z, .int .i64 c1.x, .int .i64 c1.y, .int .i64 c1.z]] w0 fun e w' => e = .returned (.agg #[.int .i64 (Lat.red a1 b1 c1).a.x, .int .i64 (Lat.red a1 b1 c1).a.y, .int .i64 (Lat.red a1 b1 c1).a.z, .int .i64 (Lat.red a1 b1 c1).b.x, .int .i64 (Lat.red a1 b1 c1).b.y, .int .i64 (Lat.red a1 b1 c1).b.z, .int .i64 (Lat.red a1 b1 c1).c.x, .int .i64 (Lat.red a1 b1 c1).c.y, .int .i64 (Lat.red a1 b1 c1).c.z]) ∧ Below w0.heap.size w0 w') := fun w0 => by
    obtain ⟨q1, q2, q3, q4, q5, q6, q7, q8, _⟩ := Lat.swept_shape hS.shape hs0 hs1 hs2
    obtain ⟨r1, r2, r3, r4, r5⟩ := Lat.roomR hS hG hv hs0 hs1 hs2
    obtain ⟨o1, o2, o3⟩ := Lat.after1 hS hG hv hs0 hs1
    exact reduced_any a1 b1 c1 w0 q6 q7 q8 r1 q3 q4 o3 o1 r2 r3 r4 r5
  generalize Lat.red a1 b1 c1 = T at *
  have hC' : Hid (Lat.CanonOf T (v :: G)) := hC
  clear hs0 hs1 hs2 hr0 hr1 hr2 hC hS hG hv HT0 HT1 HT2
  go_wp2_with fail
  refine (hR.out _).mono ?_
  rintro e w1 ⟨rfl, hb1⟩
  have kR := kr.below hb1 hl2
  have hB1 := hB.trans (hb1.mono (by omega))
  clear hR ks kv kr hB s0 s1 s2 s3 s4 s5 s6 s7 s8 t0 t1 t2 f0 f1 f2 f3 f4 f5 f6 f7 f8 g0 g1 g2
  obtain ⟨r0, r1, r2, r3, r4, r5, r6, r7, r8⟩ := kR.nine
  obtain ⟨f0, f1, f2, f3, f4, f5, f6, f7, f8⟩ := kR.frozen9
  go_wp2
  exact ret50 rfl (kR.set9 _ _ _ _ _ _ _ _ _) rfl ⟨T, hC'.out, rfl, below_set9 hB1 (by omega) _ _ _ _ _ _ _ _ _⟩

end Go.Proofs.Ytmlcblnndihjoaa
