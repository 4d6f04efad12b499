import Derived.Test.YtmlcblnndihjoaaCallD
namespace Go.Proofs.Ytmlcblnndihjoaa
open Go.RowKit

theorem ret29 {R : Ending → World → Prop} {a : Act} {W : World} {p : Nat} {x0 x1 x2 x3 x4 x5 x6 x7 x8 : Value} {c : Value}
    (h : a.tmps[4]?.getD undef = .pointer (some ⟨p, 0, none⟩)) (h5 : a.tmps[5]?.getD undef = c) (k : Blk W p #[x0, x1, x2, x3, x4, x5, x6, x7, x8] 65) (hd : a.defers = [])
    (hR : R (.returned (.tuple #[.agg #[x0, x1, x2, x3, x4, x5, x6, x7, x8], c])) W) : bodyPost Try.prog Try.f44 R .ret a W := by
  obtain ⟨c0, c1, c2, c3, c4, c5, c6, c7, c8⟩ := k.nine
  refine bodyPost_ret (v := .tuple #[.agg #[x0, x1, x2, x3, x4, x5, x6, x7, x8], c]) ?_ hd hR
  simp [results, Try.results44, go_sem, h, h5, c0, c1, c2, c3, c4, c5, c6, c7, c8]

def zeroS : Lat.St := ⟨⟨0, 0, 0⟩, ⟨0, 0, 0⟩, ⟨0, 0, 0⟩⟩

/-- what is generated: the error c and, without one, the canonical basis T -/
def Gen (n : Int) (zss : List (List Int)) (T : Lat.St) (c : Int) : Prop :=
  (c = givenE n zss ∧ c ≠ 0) ∨ (givenE n zss = 0 ∧ ∃ T', Lat.CanonOf T' (vecs zss) ∧ ((c = 3 ∧ ¬ FitsS T') ∨ (c = 0 ∧ T = T' ∧ FitsS T')))

theorem given_ok {n : Int} {zss : List (List Int)} (h : givenE n zss = 0) : 1 ≤ n ∧ n ≤ 3 ∧ zss.length ≤ 6 ∧ zss.all (goodB n) = true := by
  unfold givenE at h
  by_cases h1 : (decide (1 ≤ n) && decide (n ≤ 3)) = true
  · rw [if_pos h1] at h
    by_cases h2 : givenB n zss = true
    · unfold givenB at h2
      rw [Bool.and_eq_true, decide_eq_true_eq] at h1 h2
      exact ⟨h1.1, by simpa using h1.2, h2.1, h2.2⟩
    · rw [if_neg h2] at h; omega
  · rw [if_neg h1] at h; omega

set_option maxHeartbeats 1000000 in
theorem generated_any (n : Int) (v : Value) (zss : List (List Int)) (w : World) (hv : RowsAt w v zss) :
    Calls Try.prog 44 #[.int .i64 n, v] w fun e w' => ∃ T c, Gen n zss T c ∧ e = .returned (.tuple #[.agg #[.int .i64 T.a.x, .int .i64 T.a.y, .int .i64 T.a.z, .int .i64 T.b.x, .int .i64 T.b.y, .int .i64 T.b.z, .int .i64 T.c.x, .int .i64 T.c.y, .int .i64 T.c.z], .int .i64 c]) ∧ Below w.heap.size w w' := by
  have HC : Hid (∀ w0, Below w.heap.size w w0 → Calls Try.prog 69 #[.int .i64 n, v] w0 fun e w' => e = .returned (.int .i64 (givenE n zss)) ∧ w' = w0) := fun w0 h0 =>
    checkRows_any n v zss w0 (hv.below h0)
  by_cases hg : givenE n zss = 0
  · obtain ⟨h1, h3, hl, hga⟩ := given_ok hg
    have HS : Hid (∀ w0, Below w.heap.size w w0 → Calls Try.prog 70 #[v] w0 fun e w' => ∃ T, Lat.CanonOf T (vecs zss) ∧ e = .returned (.agg #[.int .i64 T.a.x, .int .i64 T.a.y, .int .i64 T.a.z, .int .i64 T.b.x, .int .i64 T.b.y, .int .i64 T.b.z, .int .i64 T.c.x, .int .i64 T.c.y, .int .i64 T.c.z]) ∧ Below w0.heap.size w0 w') := fun w0 h0 =>
      spanOf_any n v zss w0 (hv.below h0) h1 h3 hl hga
    have HG : Hid (givenE n zss = 0) := hg
    have hb0 : Below w.heap.size w (w.alloc (.cells #[.int .i64 0, .int .i64 0, .int .i64 0, .int .i64 0, .int .i64 0, .int .i64 0, .int .i64 0, .int .i64 0, .int .i64 0] 65)) := by go_grown
    rw [hg] at HC
    clear hg h1 h3 hl hga hv
    go_enter Try.func44, Try.ntmps44
    go_wp2_with fail
    refine (HC.out _ hb0).mono ?_
    rintro e w' ⟨rfl, hq'⟩; replace hq' := hq'.symm; subst hq'
    go_wp2_with fail
    refine (HS.out _ hb0).mono ?_
    rintro e w1 ⟨T, hT, rfl, hb1⟩
    have k4 := (Blk.new w #[.int .i64 0, .int .i64 0, .int .i64 0, .int .i64 0, .int .i64 0, .int .i64 0, .int .i64 0, .int .i64 0, .int .i64 0] 65 rfl).below hb1 (by simp)
    have hB1 : Below w.heap.size w w1 := hb0.trans (hb1.mono (by simp))
    have hl4 := k4.lt
    have HT : Hid (Lat.CanonOf T (vecs zss)) := hT
    clear hT HS HC hb0 hb1
    obtain ⟨r0, r1, r2, r3, r4, r5, r6, r7, r8⟩ := k4.nine
    obtain ⟨f0, f1, f2, f3, f4, f5, f6, f7, f8⟩ := k4.frozen9
    go_wp2_with fail
    refine (fits_any T _).mono ?_
    rintro e w2 ⟨⟨r, rfl, hr⟩, hb2⟩
    have kk := (k4.alloc (.cells #[.int .i64 T.a.x, .int .i64 T.a.y, .int .i64 T.a.z, .int .i64 T.b.x, .int .i64 T.b.y, .int .i64 T.b.z, .int .i64 T.c.x, .int .i64 T.c.y, .int .i64 T.c.z] 65)).below hb2 (by simp; omega)
    have kT := (Blk.new w1 #[.int .i64 T.a.x, .int .i64 T.a.y, .int .i64 T.a.z, .int .i64 T.b.x, .int .i64 T.b.y, .int .i64 T.b.z, .int .i64 T.c.x, .int .i64 T.c.y, .int .i64 T.c.z] 65 rfl).below hb2 (by simp)
    have hB2 : Below w.heap.size w w2 := (hB1.alloc (by omega) _).trans (hb2.mono (by simp; omega))
    have HR : Hid (r = true ↔ FitsS T) := hr
    clear hr hb2 r0 r1 r2 r3 r4 r5 r6 r7 r8 f0 f1 f2 f3 f4 f5 f6 f7 f8
    obtain ⟨r0, r1, r2, r3, r4, r5, r6, r7, r8⟩ := kk.nine
    obtain ⟨t0, t1, t2, t3, t4, t5, t6, t7, t8⟩ := kT.nine
    obtain ⟨f0, f1, f2, f3, f4, f5, f6, f7, f8⟩ := kk.frozen9
    cases r
    · go_wp2
      refine ret29 rfl rfl (kk.set9 _ _ _ _ _ _ _ _ _) rfl ⟨zeroS, 3, Or.inr ⟨HG.out, T, HT.out, Or.inl ⟨rfl, fun hf => ?_⟩⟩, rfl, below_set9 hB2 (by omega) _ _ _ _ _ _ _ _ _⟩
      have := HR.out.2 hf; cases this
    · go_wp2
      exact ret29 rfl rfl (kk.set9 _ _ _ _ _ _ _ _ _) rfl ⟨T, 0, Or.inr ⟨HG.out, T, HT.out, Or.inr ⟨rfl, rfl, HR.out.1 (by trivial)⟩⟩, rfl, below_set9 hB2 (by omega) _ _ _ _ _ _ _ _ _⟩
  · have hb0 : Below w.heap.size w (w.alloc (.cells #[.int .i64 0, .int .i64 0, .int .i64 0, .int .i64 0, .int .i64 0, .int .i64 0, .int .i64 0, .int .i64 0, .int .i64 0] 65)) := by go_grown
    obtain ⟨c, hc⟩ : ∃ c, c = givenE n zss := ⟨_, rfl⟩
    rw [← hc] at HC hg
    have HG : Hid (c = givenE n zss ∧ c ≠ 0) := ⟨hc, hg⟩
    have hn : (c != 0) = true := by simpa using hg
    clear hc hg hv
    go_enter Try.func44, Try.ntmps44
    go_wp2_with fail
    refine (HC.out _ hb0).mono ?_
    rintro e w' ⟨rfl, hq'⟩; replace hq' := hq'.symm; subst hq'
    go_wp2
    exact ret29 rfl rfl (Blk.new w _ _ rfl) rfl ⟨zeroS, c, Or.inl HG.out, rfl, hb0⟩

/-- the answer of Index -/
def IdxEnd (n : Int) (zss : List (List Int)) (e : Ending) : Prop :=
  ∃ T c, Gen n zss T c ∧ e = .returned (.tuple #[.int .i64 (if c = 0 then idxOf n T else 0), .int .i64 c])

set_option maxHeartbeats 1000000 in
theorem index_any (n : Int) (v : Value) (zss : List (List Int)) (w : World) (hv : RowsAt w v zss) :
    Calls Try.prog 21 #[.int .i64 n, v] w fun e w' => IdxEnd n zss e ∧ Below w.heap.size w w' := by
  go_enter Try.func21, Try.ntmps21
  go_wp2_with fail
  refine (generated_any n v zss _ hv).mono ?_
  rintro e w1 ⟨T, c, hg, rfl, hb1⟩
  have HG : Hid (Gen n zss T c) := hg
  by_cases hc : c = 0
  · have hg2 : FitsS T ∧ 1 ≤ n ∧ n ≤ 3 := by
      rcases hg with ⟨_, h⟩ | ⟨h0, T', _, ⟨h, _⟩ | ⟨_, rfl, hf⟩⟩
      · exact absurd hc h
      · omega
      · have := given_ok h0; exact ⟨hf, this.1, this.2.1⟩
    subst hc
    have HI : Hid (∀ w0, Calls Try.prog 49 #[.agg #[.int .i64 T.a.x, .int .i64 T.a.y, .int .i64 T.a.z, .int .i64 T.b.x, .int .i64 T.b.y, .int .i64 T.b.z, .int .i64 T.c.x, .int .i64 T.c.y, .int .i64 T.c.z], .int .i64 n] w0 fun e w' => e = .returned (.int .i64 (idxOf n T)) ∧ Below w0.heap.size w0 w') := fun w0 => spanIndex_any T n w0 hg2.1 hg2.2.1 hg2.2.2
    clear hg hg2
    go_wp2_with fail
    refine (HI.out _).mono ?_
    rintro e w2 ⟨rfl, hb2⟩
    go_wp2
    go_ret2
    exact ⟨⟨T, 0, HG.out, rfl⟩, (hb1.alloc hb1.size _).trans (hb2.mono (by simp; have := hb1.size; omega))⟩
  · have hn : (c != 0) = true := by simpa using hc
    have HN : Hid (¬ c = 0) := hc
    clear hg hc
    go_wp2
    go_ret2
    refine ⟨⟨T, c, HG.out, ?_⟩, hb1.alloc hb1.size _⟩
    rw [if_neg HN.out]; rfl

end Go.Proofs.Ytmlcblnndihjoaa
