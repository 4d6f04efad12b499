import Derived.Test.YtdjicplcognddaaRefL
set_option linter.unusedSimpArgs false
set_option linter.unusedVariables false
namespace Go.Proofs.Ytdjicplcognddaa
open Go.RowKit

theorem rows_diag {w : World} {out : Value} {zss : List (List Int)} {n : Nat} (h : RowsAt w out zss) (h0 : 0 < n) (hl : zss.length = n) (hr : ∀ zs ∈ zss, zs.length = n) :
    ∃ b o cap, out = .slice (some ⟨b, o, none⟩) n cap ∧ ∀ i, i < n → ∃ xb xo xcap, w.cell? ⟨b, o + i, none⟩ = some (.slice (some ⟨xb, xo, none⟩) n xcap) ∧ w.cell? ⟨xb, xo + i, none⟩ = some (.int .i64 ((zss.getD i []).getD i 0)) := by
  rcases h with ⟨e, _⟩ | ⟨_, b, o, cap, e, hc⟩
  · rw [e] at hl; simp at hl; omega
  · refine ⟨b, o, cap, by rw [e, hl], fun i hi => ?_⟩
    obtain ⟨x, hx, hI⟩ := hc i (by omega)
    have hm : (zss.getD i []).length = n := hr _ (getD_memR (by omega))
    rcases hI with ⟨e0, _⟩ | ⟨_, xb, xo, xcap, e1, hcc⟩
    · rw [e0] at hm; simp at hm; omega
    · rw [hm] at e1 hcc
      exact ⟨xb, xo, xcap, by rw [hx, e1], hcc i hi⟩

theorem idx_end {n : Int} {zss : List (List Int)} {T : Lat.St} {c m : Int} (h : Gen n zss T c) (hm : m = if c = 0 then idxOf n T else 0) : IdxEnd n zss (.returned (.tuple #[.int .i64 m, .int .i64 c])) := ⟨T, c, h, by rw [hm]⟩

theorem le511 {M : Lat.V} (h : Lat.Le 511 M) : (-511 ≤ M.x ∧ M.x ≤ 511) ∧ (-511 ≤ M.y ∧ M.y ≤ 511) ∧ (-511 ≤ M.z ∧ M.z ≤ 511) := h

set_option maxRecDepth 100000 in
set_option maxHeartbeats 2000000 in
theorem rindex1 (v : Value) (zss : List (List Int)) (w : World) (hv : RowsAt w v zss) :
    Calls Try.prog 19 #[.int .i64 1, v] w fun e w' => IdxEnd 1 zss e ∧ Below w.heap.size w w' := by
  have HB : Hid (Calls Try.prog 15 #[.int .i64 1, v] w fun e w' => RBasisEnd 1 zss w' e ∧ Below w.heap.size w w') := rbasis_any 1 v zss w hv
  obtain ⟨a, cap, rfl⟩ := hv.slice
  clear hv
  go_enter Try.func19, Try.ntmps19
  go_wp2_with fail
  refine HB.out.mono ?_
  rintro e w1 ⟨⟨T, c, out, hg, rfl, hcase⟩, hb1⟩
  have HG := hide hg
  have HB1 := hide hb1
  rcases hcase with ⟨hc, rfl⟩ | ⟨rfl, hR⟩
  · have hn : (c != 0) = true := by simpa using hc
    have HN := hide hc
    clear hg hc hb1
    go_wp2
    go_ret2
    exact ⟨idx_end HG.out (by rw [if_neg HN.out]), HB1.out⟩
  · have hfl : Lat.CanonOf T (vecs zss) ∧ FitsS T ∧ Flat 1 T := by
      rcases hg with ⟨_, h⟩ | ⟨h0, T', hT, h⟩
      · exact absurd rfl h
      · rcases h with ⟨h, _⟩ | ⟨_, e, hF⟩
        · cases h
        · subst e
          refine ⟨hT, hF, flat_of hT (fun zs hm => ?_)⟩
          have hall := (given_ok h0).2.2.2
          rw [List.all_eq_true] at hall
          have := (good_le (hall zs hm)).2; omega
    obtain ⟨hT, hF, hflat⟩ := hfl
    clear hg hb1
    have hR' : RowsAt w1 out (basisRows 1 T) := hR
    clear hR
    by_cases hp : T.a.x ≠ 0
    · have hbr : basisRows 1 T = [cutV 1 T.a] := by
        unfold basisRows
        simp [hp, (hflat.y (by omega)).2, (hflat.z (by omega)).2.2]
      obtain ⟨ob, oo, ocap, rfl, hd⟩ := rows_diag (n := 1) hR' (by omega) (by rw [hbr]; rfl) (fun zs hz => by rcases basis_mem hz with e | e | e <;> rw [e] <;> rfl)
      rw [hbr] at hd
      have HX : Hid (idxOf 1 T = T.a.x) := rfl
      have la := le511 hF.1
      have lb := le511 hF.2.1
      have lc := le511 hF.2.2
      obtain ⟨xb0, xo0, xc0, ka0, kb0⟩ := hd 0 (by omega)
      replace kb0 : w1.cell? ⟨xb0, xo0 + 0, none⟩ = some (.int .i64 T.a.x) := kb0
      generalize T.a.x = p0 at *
      generalize T.b.y = p1 at *
      generalize T.c.z = p2 at *
      have q0 : -511 ≤ p0 ∧ p0 ≤ 511 := la.1
      have q1 : -511 ≤ p1 ∧ p1 ≤ 511 := lb.2.1
      have q2 : -511 ≤ p2 ∧ p2 ≤ 511 := lc.2.2
      have w0 : -261121 ≤ p0 * p1 ∧ p0 * p1 ≤ 261121 := by have := Lat.abs_mul_le (A := 511) (B := 511) q0.1 q0.2 q1.1 q1.2; omega
      have w2 : -133432831 ≤ p0 * p1 * p2 ∧ p0 * p1 * p2 ≤ 133432831 := by have := Lat.abs_mul_le (A := 261121) (B := 511) w0.1 w0.2 q2.1 q2.2; omega
      simp at ka0 kb0
      have E0 : Hid (wrap64 p0 = p0) := IntWalk.wrap64_in _ (by omega)
      have E1 : Hid (wrap64 (p0 * p1) = p0 * p1) := IntWalk.wrap64_in _ (by omega)
      have E2 : Hid (wrap64 (p0 * p1 * p2) = p0 * p1 * p2) := IntWalk.wrap64_in _ (by omega)
      clear hd hbr hR' hp hT hF hflat la lb lc q0 q1 q2
      go_wp2
      refine wp_loop_rounds 2 ?_
      rw [rounds_succ]; go_wp2
      rw [rounds_succ]; go_wp2
      go_ret2
      exact ⟨idx_end HG.out (by rw [if_pos rfl, HX.out]; exact E0.out), HB1.out⟩
    · have hlt : (basisRows 1 T).length < 1 := by
        unfold basisRows
        try simp only [(hflat.y (by omega)).2, (hflat.z (by omega)).2.2, if_true]
        repeat' split
        all_goals simp_all
      have HX : Hid (idxOf 1 T = 0) := by
        show idxOf 1 T = 0
        unfold idxOf
        by_cases t0 : T.a.x = 0
        · simp [t0]
        · by_cases t1 : T.b.y = 0
          · simp [t1] <;> simp_all
          · by_cases t2 : T.c.z = 0
            · simp [t2] <;> simp_all
            · simp_all
      obtain ⟨oa, ocap, rfl⟩ := hR'.slice
      generalize (basisRows 1 T).length = L at *
      clear hR' hT hF hflat hp
      go_wp2
      go_ret2
      exact ⟨idx_end HG.out (by rw [if_pos rfl, HX.out]), HB1.out⟩

set_option maxRecDepth 100000 in
set_option maxHeartbeats 2000000 in
theorem rindex2 (v : Value) (zss : List (List Int)) (w : World) (hv : RowsAt w v zss) :
    Calls Try.prog 19 #[.int .i64 2, v] w fun e w' => IdxEnd 2 zss e ∧ Below w.heap.size w w' := by
  have HB : Hid (Calls Try.prog 15 #[.int .i64 2, v] w fun e w' => RBasisEnd 2 zss w' e ∧ Below w.heap.size w w') := rbasis_any 2 v zss w hv
  obtain ⟨a, cap, rfl⟩ := hv.slice
  clear hv
  go_enter Try.func19, Try.ntmps19
  go_wp2_with fail
  refine HB.out.mono ?_
  rintro e w1 ⟨⟨T, c, out, hg, rfl, hcase⟩, hb1⟩
  have HG := hide hg
  have HB1 := hide hb1
  rcases hcase with ⟨hc, rfl⟩ | ⟨rfl, hR⟩
  · have hn : (c != 0) = true := by simpa using hc
    have HN := hide hc
    clear hg hc hb1
    go_wp2
    go_ret2
    exact ⟨idx_end HG.out (by rw [if_neg HN.out]), HB1.out⟩
  · have hfl : Lat.CanonOf T (vecs zss) ∧ FitsS T ∧ Flat 2 T := by
      rcases hg with ⟨_, h⟩ | ⟨h0, T', hT, h⟩
      · exact absurd rfl h
      · rcases h with ⟨h, _⟩ | ⟨_, e, hF⟩
        · cases h
        · subst e
          refine ⟨hT, hF, flat_of hT (fun zs hm => ?_)⟩
          have hall := (given_ok h0).2.2.2
          rw [List.all_eq_true] at hall
          have := (good_le (hall zs hm)).2; omega
    obtain ⟨hT, hF, hflat⟩ := hfl
    clear hg hb1
    have hR' : RowsAt w1 out (basisRows 2 T) := hR
    clear hR
    by_cases hp : T.a.x ≠ 0 ∧ T.b.y ≠ 0
    · have hbr : basisRows 2 T = [cutV 2 T.a, cutV 2 T.b] := by
        unfold basisRows
        simp [hp.1, hp.2, (hflat.z (by omega)).2.2]
      obtain ⟨ob, oo, ocap, rfl, hd⟩ := rows_diag (n := 2) hR' (by omega) (by rw [hbr]; rfl) (fun zs hz => by rcases basis_mem hz with e | e | e <;> rw [e] <;> rfl)
      rw [hbr] at hd
      have HX : Hid (idxOf 2 T = T.a.x * T.b.y) := rfl
      have la := le511 hF.1
      have lb := le511 hF.2.1
      have lc := le511 hF.2.2
      obtain ⟨xb0, xo0, xc0, ka0, kb0⟩ := hd 0 (by omega)
      replace kb0 : w1.cell? ⟨xb0, xo0 + 0, none⟩ = some (.int .i64 T.a.x) := kb0
      obtain ⟨xb1, xo1, xc1, ka1, kb1⟩ := hd 1 (by omega)
      replace kb1 : w1.cell? ⟨xb1, xo1 + 1, none⟩ = some (.int .i64 T.b.y) := kb1
      generalize T.a.x = p0 at *
      generalize T.b.y = p1 at *
      generalize T.c.z = p2 at *
      have q0 : -511 ≤ p0 ∧ p0 ≤ 511 := la.1
      have q1 : -511 ≤ p1 ∧ p1 ≤ 511 := lb.2.1
      have q2 : -511 ≤ p2 ∧ p2 ≤ 511 := lc.2.2
      have w0 : -261121 ≤ p0 * p1 ∧ p0 * p1 ≤ 261121 := by have := Lat.abs_mul_le (A := 511) (B := 511) q0.1 q0.2 q1.1 q1.2; omega
      have w2 : -133432831 ≤ p0 * p1 * p2 ∧ p0 * p1 * p2 ≤ 133432831 := by have := Lat.abs_mul_le (A := 261121) (B := 511) w0.1 w0.2 q2.1 q2.2; omega
      simp at ka0 kb0 ka1 kb1
      have E0 : Hid (wrap64 p0 = p0) := IntWalk.wrap64_in _ (by omega)
      have E1 : Hid (wrap64 (p0 * p1) = p0 * p1) := IntWalk.wrap64_in _ (by omega)
      have E2 : Hid (wrap64 (p0 * p1 * p2) = p0 * p1 * p2) := IntWalk.wrap64_in _ (by omega)
      clear hd hbr hR' hp hT hF hflat la lb lc q0 q1 q2
      go_wp2
      refine wp_loop_rounds 3 ?_
      rw [rounds_succ]; go_wp2
      rw [rounds_succ]; go_wp2
      rw [rounds_succ]; go_wp2
      go_ret2
      exact ⟨idx_end HG.out (by rw [if_pos rfl, HX.out]; rw [E0.out]; exact E1.out), HB1.out⟩
    · have hlt : (basisRows 2 T).length < 2 := by
        unfold basisRows
        try simp only [(hflat.z (by omega)).2.2, if_true]
        repeat' split
        all_goals simp_all
      have HX : Hid (idxOf 2 T = 0) := by
        show idxOf 2 T = 0
        unfold idxOf
        by_cases t0 : T.a.x = 0
        · simp [t0]
        · by_cases t1 : T.b.y = 0
          · simp [t1] <;> simp_all
          · by_cases t2 : T.c.z = 0
            · simp [t2] <;> simp_all
            · simp_all
      obtain ⟨oa, ocap, rfl⟩ := hR'.slice
      generalize (basisRows 2 T).length = L at *
      clear hR' hT hF hflat hp
      go_wp2
      go_ret2
      exact ⟨idx_end HG.out (by rw [if_pos rfl, HX.out]), HB1.out⟩

set_option maxRecDepth 100000 in
set_option maxHeartbeats 2000000 in
theorem rindex3 (v : Value) (zss : List (List Int)) (w : World) (hv : RowsAt w v zss) :
    Calls Try.prog 19 #[.int .i64 3, v] w fun e w' => IdxEnd 3 zss e ∧ Below w.heap.size w w' := by
  have HB : Hid (Calls Try.prog 15 #[.int .i64 3, v] w fun e w' => RBasisEnd 3 zss w' e ∧ Below w.heap.size w w') := rbasis_any 3 v zss w hv
  obtain ⟨a, cap, rfl⟩ := hv.slice
  clear hv
  go_enter Try.func19, Try.ntmps19
  go_wp2_with fail
  refine HB.out.mono ?_
  rintro e w1 ⟨⟨T, c, out, hg, rfl, hcase⟩, hb1⟩
  have HG := hide hg
  have HB1 := hide hb1
  rcases hcase with ⟨hc, rfl⟩ | ⟨rfl, hR⟩
  · have hn : (c != 0) = true := by simpa using hc
    have HN := hide hc
    clear hg hc hb1
    go_wp2
    go_ret2
    exact ⟨idx_end HG.out (by rw [if_neg HN.out]), HB1.out⟩
  · have hfl : Lat.CanonOf T (vecs zss) ∧ FitsS T ∧ Flat 3 T := by
      rcases hg with ⟨_, h⟩ | ⟨h0, T', hT, h⟩
      · exact absurd rfl h
      · rcases h with ⟨h, _⟩ | ⟨_, e, hF⟩
        · cases h
        · subst e
          refine ⟨hT, hF, flat_of hT (fun zs hm => ?_)⟩
          have hall := (given_ok h0).2.2.2
          rw [List.all_eq_true] at hall
          have := (good_le (hall zs hm)).2; omega
    obtain ⟨hT, hF, hflat⟩ := hfl
    clear hg hb1
    have hR' : RowsAt w1 out (basisRows 3 T) := hR
    clear hR
    by_cases hp : T.a.x ≠ 0 ∧ T.b.y ≠ 0 ∧ T.c.z ≠ 0
    · have hbr : basisRows 3 T = [cutV 3 T.a, cutV 3 T.b, cutV 3 T.c] := by
        unfold basisRows
        simp [hp.1, hp.2.1, hp.2.2]
      obtain ⟨ob, oo, ocap, rfl, hd⟩ := rows_diag (n := 3) hR' (by omega) (by rw [hbr]; rfl) (fun zs hz => by rcases basis_mem hz with e | e | e <;> rw [e] <;> rfl)
      rw [hbr] at hd
      have HX : Hid (idxOf 3 T = T.a.x * T.b.y * T.c.z) := rfl
      have la := le511 hF.1
      have lb := le511 hF.2.1
      have lc := le511 hF.2.2
      obtain ⟨xb0, xo0, xc0, ka0, kb0⟩ := hd 0 (by omega)
      replace kb0 : w1.cell? ⟨xb0, xo0 + 0, none⟩ = some (.int .i64 T.a.x) := kb0
      obtain ⟨xb1, xo1, xc1, ka1, kb1⟩ := hd 1 (by omega)
      replace kb1 : w1.cell? ⟨xb1, xo1 + 1, none⟩ = some (.int .i64 T.b.y) := kb1
      obtain ⟨xb2, xo2, xc2, ka2, kb2⟩ := hd 2 (by omega)
      replace kb2 : w1.cell? ⟨xb2, xo2 + 2, none⟩ = some (.int .i64 T.c.z) := kb2
      generalize T.a.x = p0 at *
      generalize T.b.y = p1 at *
      generalize T.c.z = p2 at *
      have q0 : -511 ≤ p0 ∧ p0 ≤ 511 := la.1
      have q1 : -511 ≤ p1 ∧ p1 ≤ 511 := lb.2.1
      have q2 : -511 ≤ p2 ∧ p2 ≤ 511 := lc.2.2
      have w0 : -261121 ≤ p0 * p1 ∧ p0 * p1 ≤ 261121 := by have := Lat.abs_mul_le (A := 511) (B := 511) q0.1 q0.2 q1.1 q1.2; omega
      have w2 : -133432831 ≤ p0 * p1 * p2 ∧ p0 * p1 * p2 ≤ 133432831 := by have := Lat.abs_mul_le (A := 261121) (B := 511) w0.1 w0.2 q2.1 q2.2; omega
      simp at ka0 kb0 ka1 kb1 ka2 kb2
      have E0 : Hid (wrap64 p0 = p0) := IntWalk.wrap64_in _ (by omega)
      have E1 : Hid (wrap64 (p0 * p1) = p0 * p1) := IntWalk.wrap64_in _ (by omega)
      have E2 : Hid (wrap64 (p0 * p1 * p2) = p0 * p1 * p2) := IntWalk.wrap64_in _ (by omega)
      clear hd hbr hR' hp hT hF hflat la lb lc q0 q1 q2
      go_wp2
      refine wp_loop_rounds 4 ?_
      rw [rounds_succ]; go_wp2
      rw [rounds_succ]; go_wp2
      rw [rounds_succ]; go_wp2
      rw [rounds_succ]; go_wp2
      go_ret2
      exact ⟨idx_end HG.out (by rw [if_pos rfl, HX.out]; rw [E0.out, E1.out]; exact E2.out), HB1.out⟩
    · have hlt : (basisRows 3 T).length < 3 := by
        unfold basisRows
        try simp only [if_true]
        repeat' split
        all_goals simp_all
      have HX : Hid (idxOf 3 T = 0) := by
        show idxOf 3 T = 0
        unfold idxOf
        by_cases t0 : T.a.x = 0
        · simp [t0]
        · by_cases t1 : T.b.y = 0
          · simp [t1] <;> simp_all
          · by_cases t2 : T.c.z = 0
            · simp [t2] <;> simp_all
            · simp_all
      obtain ⟨oa, ocap, rfl⟩ := hR'.slice
      generalize (basisRows 3 T).length = L at *
      clear hR' hT hF hflat hp
      go_wp2
      go_ret2
      exact ⟨idx_end HG.out (by rw [if_pos rfl, HX.out]), HB1.out⟩

set_option maxHeartbeats 1000000 in
theorem rindex_any (n : Int) (v : Value) (zss : List (List Int)) (w : World) (hv : RowsAt w v zss) :
    Calls Try.prog 19 #[.int .i64 n, v] w fun e w' => IdxEnd n zss e ∧ Below w.heap.size w w' := by
  by_cases hn : n = 1 ∨ n = 2 ∨ n = 3
  · rcases hn with rfl | rfl | rfl
    · exact rindex1 v zss w hv
    · exact rindex2 v zss w hv
    · exact rindex3 v zss w hv
  · have HB : Hid (Calls Try.prog 15 #[.int .i64 n, v] w fun e w' => RBasisEnd n zss w' e ∧ Below w.heap.size w w') := rbasis_any n v zss w hv
    obtain ⟨a, cap, rfl⟩ := hv.slice
    clear hv
    go_enter Try.func19, Try.ntmps19
    go_wp2_with fail
    refine HB.out.mono ?_
    rintro e w1 ⟨⟨T, c, out, hg, rfl, hcase⟩, hb1⟩
    have HG := hide hg
    have HB1 := hide hb1
    have hc0 : c ≠ 0 := by
      rcases hg with ⟨_, h⟩ | ⟨h0, _⟩
      · exact h
      · have := given_ok h0; omega
    rcases hcase with ⟨hc, rfl⟩ | ⟨e0, _⟩
    · have hn : (c != 0) = true := by simpa using hc
      have HN := hide hc
      clear hg hc hb1 hc0
      go_wp2
      go_ret2
      exact ⟨idx_end HG.out (by rw [if_neg HN.out]), HB1.out⟩
    · exact absurd e0 hc0

end Go.Proofs.Ytdjicplcognddaa
