import Derived.Test.YtmlcblnndihjoaaGreatRefJ
import Derived.Test.YtmlcblnndihjoaaGreatBasis
set_option linter.unusedSimpArgs false
set_option linter.unusedVariables false
namespace Go.Proofs.YtmlcblnndihjoaaGreat
open Go.RowKit

set_option maxHeartbeats 400000 in
theorem rfits_any (n : Int) (v : Value) (zss : List (List Int)) (w : World) (hv : RowsAt w v zss) (h1 : 1 ≤ n) (h3 : n ≤ 3) (hl : zss.length ≤ 6) :
    Calls Tryz.prog 37 #[.int .i64 n, v] w fun e w' => e = .returned (.bool (zss.all (goodB n))) ∧ w' = w := by
  by_cases h0 : zss = []
  · subst h0
    obtain ⟨a, cap, rfl⟩ := hv.slice
    clear hv
    go_enter Tryz.func37, Tryz.ntmps37
    go_wp2
    refine wp_loop_rounds 1 ?_
    rw [rounds_succ]
    go_wp2
    go_ret
    exact ⟨rfl, rfl⟩
  · rcases hv with ⟨rfl, _⟩ | ⟨hz0, b, o, cap, rfl, hc⟩
    · exact absurd rfl h0
    have HC : Hid (∀ i, i < zss.length → ∃ x, w.cell? ⟨b, o + i, none⟩ = some x ∧ IntsAt w x (zss.getD i [])) := hc
    have HG : Hid (∀ b, zss.all (goodB n) = b → zss.all (goodB n) = b) := fun b h => h
    clear hc h0
    go_enter Tryz.func37, Tryz.ntmps37
    go_wp2
    go_loop [5] (fun i => ∃ k : Nat, k ≤ zss.length ∧ i = .int .i64 k ∧ (zss.take k).all (goodB n) = true) (fun i => zss.length - (intOf i).toNat)
    case atStart => exact ⟨0, by omega, rfl, by simp⟩
    case round =>
      obtain ⟨k, hk, rfl, hall⟩ := hrel
      have HA : Hid ((zss.take k).all (goodB n) = true) := hall
      clear hall
      by_cases hlt : k < zss.length
      · obtain ⟨x, hcell, hx⟩ := HC.out k hlt
        have hgv : ∀ w0, w0 = w → Calls Tryz.prog 46 #[.int .i64 n, x, .int .i64 511] w0 fun e w' => e = .returned (.bool (goodB n (zss.getD k []))) ∧ w' = w0 := fun w0 e => by
          rw [e]; exact rgood_any n x _ w hx h1 h3
        have HX : Hid (IntsAt w x (zss.getD k [])) := hx
        clear hx
        cases hgb : goodB n (zss.getD k [])
        · rw [hgb] at hgv
          have HB : Hid (goodB n (zss.getD k []) = false) := hgb
          clear hgb
          go_wp2_with (go_at_call 46; refine (hgv _ rfl).mono ?_; rintro e w' ⟨rfl, hq'⟩; replace hq' := hq'.symm; subst hq')
          go_ret
          exact ⟨ret_bool (a := false) (by rw [all_falseR hlt HB.out]), rfl⟩
        · rw [hgb] at hgv
          have HB : Hid (goodB n (zss.getD k []) = true) := hgb
          clear hgb
          go_wp2_with (go_at_call 46; refine (hgv _ rfl).mono ?_; rintro e w' ⟨rfl, hq'⟩; replace hq' := hq'.symm; subst hq')
          go_round
          case rel => exact ⟨k + 1, by omega, by go_num, by rw [all_takeR hlt, HA.out, HB.out]; rfl⟩
          case measure => simp [intOf]; omega
      · go_wp2
        go_ret
        have : k = zss.length := by omega
        subst this
        have := HA.out; rw [List.take_length] at this
        exact ⟨ret_bool (a := true) this.symm, rfl⟩

end Go.Proofs.YtmlcblnndihjoaaGreat

namespace Go.Proofs.YtmlcblnndihjoaaGreat
open Go.RowKit

theorem rcanon_any (n : Int) (v : Value) (zss : List (List Int)) (w : World) (hv : RowsAt w v zss) (h1 : 1 ≤ n) (h3 : n ≤ 3) (hl : zss.length ≤ 100) (hg : zss.all (goodB n) = true) :
    Calls Tryz.prog 36 #[.int .i64 n, v] w fun e w' => CanonEnd n.toNat w zss e w' := by
  have hn : n = 1 ∨ n = 2 ∨ n = 3 := by omega
  rcases hn with rfl | rfl | rfl
  · exact canon1 v zss w hv hl hg
  · exact canon2 v zss w hv hl hg
  · exact canon3 v zss w hv hl hg

theorem le_zero : Lat.Le 511 ⟨0, 0, 0⟩ := ⟨⟨by decide, by decide⟩, ⟨by decide, by decide⟩, ⟨by decide, by decide⟩⟩

theorem vec_cut {n : Nat} (h0 : 0 < n) (h3 : n ≤ 3) {v : Lat.V} (hz : n ≤ 2 → v.z = 0) (hy : n ≤ 1 → v.y = 0) : vecOf (cutV n v) = v := by
  have hn : n = 1 ∨ n = 2 ∨ n = 3 := by omega
  rcases hn with rfl | rfl | rfl
  · exact Lat.V.same rfl (hy (by omega)).symm (hz (by omega)).symm
  · exact Lat.V.same rfl rfl (hz (by omega)).symm
  · exact Lat.V.same rfl rfl rfl

theorem fits_iff {n : Nat} {S : Lat.St} (h0 : 0 < n) (h3 : n ≤ 3) (hs : Lat.Shape S) (hf : Flat n S) : (basisRows n S).all (goodB n) = true ↔ FitsS S := by
  refine ⟨fun h => ?_, fun h => (given_ok (basis_given h0 h3 h)).2.2.2⟩
  rw [List.all_eq_true] at h
  refine ⟨?_, ?_, ?_⟩
  · by_cases e : S.a.x = 0
    · have : S.a = ⟨0, 0, 0⟩ := Lat.V.same e (hs.a0 e).1 (hs.a0 e).2
      rw [this]; exact le_zero
    · have t := (good_le (h (cutV n S.a) (by unfold basisRows; simp [e]))).1
      rwa [vec_cut h0 h3 (fun hn => (hf.z hn).1) (fun hn => (hf.y hn).1)] at t
  · by_cases e : S.b.y = 0
    · have : S.b = ⟨0, 0, 0⟩ := Lat.V.same hs.bx e (hs.b0 e)
      rw [this]; exact le_zero
    · have t := (good_le (h (cutV n S.b) (by unfold basisRows; simp [e]))).1
      rwa [vec_cut h0 h3 (fun hn => (hf.z hn).2.1) (fun hn => (hf.y hn).2)] at t
  · by_cases e : S.c.z = 0
    · have : S.c = ⟨0, 0, 0⟩ := Lat.V.same hs.cx hs.cy e
      rw [this]; exact le_zero
    · have t := (good_le (h (cutV n S.c) (by unfold basisRows; simp [e]))).1
      rwa [vec_cut h0 h3 (fun hn => (hf.z hn).2.2) (fun hn => hs.cy)] at t

/-- what the reference's Basis hands back -/
def RBasisEnd (n : Int) (zss : List (List Int)) (w' : World) (e : Ending) : Prop :=
  ∃ T c out, Gen n zss T c ∧ e = .returned (.tuple #[out, .int .i64 c]) ∧ ((c ≠ 0 ∧ out = .slice none 0 0) ∨ (c = 0 ∧ RowsAt w' out (basisRows n.toNat T)))

set_option maxHeartbeats 1000000 in
theorem rbasis_any (n : Int) (v : Value) (zss : List (List Int)) (w : World) (hv : RowsAt w v zss) :
    Calls Tryz.prog 14 #[.int .i64 n, v] w fun e w' => RBasisEnd n zss w' e ∧ Below w.heap.size w w' := by
  have HG : Hid (∀ w0, w0 = w → Calls Tryz.prog 35 #[.int .i64 n, v] w0 fun e w' => e = .returned (.int .i64 (givenE n zss)) ∧ w' = w0) := fun w0 e => by
    rw [e]; exact rgiven_any n v zss w hv
  by_cases hz : givenE n zss = 0
  · obtain ⟨h1, h3, hl, hall⟩ := given_ok hz
    have HC : Hid (Calls Tryz.prog 36 #[.int .i64 n, v] w fun e w' => CanonEnd n.toNat w zss e w') := rcanon_any n v zss w hv h1 h3 (by omega) hall
    have HZ := hide hz
    have hnn : ((n.toNat : Nat) : Int) = n := Int.toNat_of_nonneg (by omega)
    have HF : Hid (∀ S, Lat.CanonOf S (vecs zss) → Flat n.toNat S) := fun S hS => flat_of hS (fun zs hm => by
      rw [List.all_eq_true] at hall
      have := (good_le (hall zs hm)).2; omega)
    have HN := hide hnn
    rw [hz] at HG
    clear hz hall hnn
    go_enter Tryz.func14, Tryz.ntmps14
    go_wp2_with (go_at_call 35; refine (HG.out _ rfl).mono ?_; rintro e w' ⟨rfl, hq'⟩; replace hq' := hq'.symm; subst hq')
    refine HC.out.mono ?_
    rintro e w1 ⟨S, out, hS, rfl, hR, hb1⟩
    replace hR := hR.now
    have hfit := fits_iff (n := n.toNat) (by omega) (by omega) hS.shape (HF.out S hS)
    rw [HN.out] at hfit
    have HT : Hid (∀ w0, w0 = w1 → Calls Tryz.prog 37 #[.int .i64 n, out] w0 fun e w' => e = .returned (.bool ((basisRows n.toNat S).all (goodB n))) ∧ w' = w0) := fun w0 e => by
      rw [e]; exact rfits_any n out _ w1 hR h1 h3 (by have := basis_len n.toNat S; omega)
    have HS := hide hS
    have HR := hide hR
    have HB := hide hb1
    clear hS hR hb1
    cases hb : (basisRows n.toNat S).all (goodB n)
    · rw [hb] at HT hfit
      have HI : Hid (¬ FitsS S) := fun h => by have := hfit.2 h; cases this
      clear hfit hb
      go_wp2_with (go_at_call 37; refine (HT.out _ rfl).mono ?_; rintro e w' ⟨rfl, hq'⟩; replace hq' := hq'.symm; subst hq')
      go_ret2
      exact ⟨⟨S, 3, _, Or.inr ⟨HZ.out, S, HS.out, Or.inl ⟨rfl, HI.out⟩⟩, rfl, Or.inl ⟨by decide, rfl⟩⟩, HB.out⟩
    · rw [hb] at HT hfit
      have HI : Hid (FitsS S) := hfit.1 rfl
      clear hfit hb
      go_wp2_with (go_at_call 37; refine (HT.out _ rfl).mono ?_; rintro e w' ⟨rfl, hq'⟩; replace hq' := hq'.symm; subst hq')
      go_ret2
      exact ⟨⟨S, 0, _, Or.inr ⟨HZ.out, S, HS.out, Or.inr ⟨rfl, rfl, HI.out⟩⟩, rfl, Or.inr ⟨rfl, HR.out⟩⟩, HB.out⟩
  · have hn : (givenE n zss != 0) = true := by simpa using hz
    have HZ := hide hz
    have HQ : Hid (Gen n zss ⟨⟨0, 0, 0⟩, ⟨0, 0, 0⟩, ⟨0, 0, 0⟩⟩ (givenE n zss)) := Or.inl ⟨rfl, hz⟩
    generalize givenE n zss = c at *
    clear hz
    obtain ⟨a, cap, rfl⟩ := hv.slice
    clear hv
    go_enter Tryz.func14, Tryz.ntmps14
    go_wp2_with (go_at_call 35; refine (HG.out _ rfl).mono ?_; rintro e w' ⟨rfl, hq'⟩; replace hq' := hq'.symm; subst hq')
    go_ret2
    exact ⟨⟨_, c, _, HQ.out, rfl, Or.inl ⟨HZ.out, rfl⟩⟩, Below.refl _ _⟩

end Go.Proofs.YtmlcblnndihjoaaGreat

namespace Go.Proofs.YtmlcblnndihjoaaGreat
open Go.RowKit

theorem rows_diag {w : World} {out : Value} {zss : List (List Int)} {n : Nat} (h : RowsAt w out zss) (h0 : 0 < n) (hl : zss.length = n) (hr : ∀ zs ∈ zss, zs.length = n) :
    ∃ b o cap, out = .slice (some ⟨b, o, none⟩) n cap ∧ ∀ i, i < n → ∃ xb xo xcap, w.cell? ⟨b, o + i, none⟩ = some (.slice (some ⟨xb, xo, none⟩) n xcap) ∧ w.cell? ⟨xb, xo + i, none⟩ = some (.int .i64 ((zss.getD i []).getD i 0)) := by
  rcases h with ⟨e, _⟩ | ⟨_, b, o, cap, e, hc⟩
  · rw [e] at hl; simp at hl; omega
  · refine ⟨b, o, cap, by rw [e, hl], fun i hi => ?_⟩
    obtain ⟨x, hx, hI⟩ := hc i (by omega)
    have hm : (zss.getD i []).length = n := hr _ (getD_memR (by omega))
    rcases hI with ⟨e0, _⟩ | ⟨_, xb, xo, xcap, e1, hcc⟩
    · rw [e0] at hm; simp at hm; omega
    · rw [hm] at e1 hcc
      exact ⟨xb, xo, xcap, by rw [hx, e1], hcc i hi⟩

theorem idx_end {n : Int} {zss : List (List Int)} {T : Lat.St} {c m : Int} (h : Gen n zss T c) (hm : m = if c = 0 then idxOf n T else 0) : IdxEnd n zss (.returned (.tuple #[.int .i64 m, .int .i64 c])) := ⟨T, c, h, by rw [hm]⟩

theorem le511 {M : Lat.V} (h : Lat.Le 511 M) : (-511 ≤ M.x ∧ M.x ≤ 511) ∧ (-511 ≤ M.y ∧ M.y ≤ 511) ∧ (-511 ≤ M.z ∧ M.z ≤ 511) := h

set_option maxRecDepth 100000 in
set_option maxHeartbeats 2000000 in
theorem rindex1 (v : Value) (zss : List (List Int)) (w : World) (hv : RowsAt w v zss) :
    Calls Tryz.prog 18 #[.int .i64 1, v] w fun e w' => IdxEnd 1 zss e ∧ Below w.heap.size w w' := by
  have HB : Hid (Calls Tryz.prog 14 #[.int .i64 1, v] w fun e w' => RBasisEnd 1 zss w' e ∧ Below w.heap.size w w') := rbasis_any 1 v zss w hv
  obtain ⟨a, cap, rfl⟩ := hv.slice
  clear hv
  go_enter Tryz.func18, Tryz.ntmps18
  go_wp2_with fail
  refine HB.out.mono ?_
  rintro e w1 ⟨⟨T, c, out, hg, rfl, hcase⟩, hb1⟩
  have HG := hide hg
  have HB1 := hide hb1
  rcases hcase with ⟨hc, rfl⟩ | ⟨rfl, hR⟩
  · have hn : (c != 0) = true := by simpa using hc
    have HN := hide hc
    clear hg hc hb1
    go_wp2
    go_ret2
    exact ⟨idx_end HG.out (by rw [if_neg HN.out]), HB1.out⟩
  · have hfl : Lat.CanonOf T (vecs zss) ∧ FitsS T ∧ Flat 1 T := by
      rcases hg with ⟨_, h⟩ | ⟨h0, T', hT, h⟩
      · exact absurd rfl h
      · rcases h with ⟨h, _⟩ | ⟨_, e, hF⟩
        · cases h
        · subst e
          refine ⟨hT, hF, flat_of hT (fun zs hm => ?_)⟩
          have hall := (given_ok h0).2.2.2
          rw [List.all_eq_true] at hall
          have := (good_le (hall zs hm)).2; omega
    obtain ⟨hT, hF, hflat⟩ := hfl
    clear hg hb1
    have hR' : RowsAt w1 out (basisRows 1 T) := hR
    clear hR
    by_cases hp : T.a.x ≠ 0
    · have hbr : basisRows 1 T = [cutV 1 T.a] := by
        unfold basisRows
        simp [hp, (hflat.y (by omega)).2, (hflat.z (by omega)).2.2]
      obtain ⟨ob, oo, ocap, rfl, hd⟩ := rows_diag (n := 1) hR' (by omega) (by rw [hbr]; rfl) (fun zs hz => by rcases basis_mem hz with e | e | e <;> rw [e] <;> rfl)
      rw [hbr] at hd
      have HX : Hid (idxOf 1 T = T.a.x) := rfl
      have la := le511 hF.1
      have lb := le511 hF.2.1
      have lc := le511 hF.2.2
      obtain ⟨xb0, xo0, xc0, ka0, kb0⟩ := hd 0 (by omega)
      replace kb0 : w1.cell? ⟨xb0, xo0 + 0, none⟩ = some (.int .i64 T.a.x) := kb0
      generalize T.a.x = p0 at *
      generalize T.b.y = p1 at *
      generalize T.c.z = p2 at *
      have q0 : -511 ≤ p0 ∧ p0 ≤ 511 := la.1
      have q1 : -511 ≤ p1 ∧ p1 ≤ 511 := lb.2.1
      have q2 : -511 ≤ p2 ∧ p2 ≤ 511 := lc.2.2
      have w0 : -261121 ≤ p0 * p1 ∧ p0 * p1 ≤ 261121 := by have := Lat.abs_mul_le (A := 511) (B := 511) q0.1 q0.2 q1.1 q1.2; omega
      have w2 : -133432831 ≤ p0 * p1 * p2 ∧ p0 * p1 * p2 ≤ 133432831 := by have := Lat.abs_mul_le (A := 261121) (B := 511) w0.1 w0.2 q2.1 q2.2; omega
      simp at ka0 kb0
      have E0 : Hid (wrap64 p0 = p0) := IntWalk.wrap64_in _ (by omega)
      have E1 : Hid (wrap64 (p0 * p1) = p0 * p1) := IntWalk.wrap64_in _ (by omega)
      have E2 : Hid (wrap64 (p0 * p1 * p2) = p0 * p1 * p2) := IntWalk.wrap64_in _ (by omega)
      clear hd hbr hR' hp hT hF hflat la lb lc q0 q1 q2
      go_wp2
      refine wp_loop_rounds 2 ?_
      rw [rounds_succ]; go_wp2
      rw [rounds_succ]; go_wp2
      go_ret2
      exact ⟨idx_end HG.out (by rw [if_pos rfl, HX.out]; exact E0.out), HB1.out⟩
    · have hlt : (basisRows 1 T).length < 1 := by
        unfold basisRows
        try simp only [(hflat.y (by omega)).2, (hflat.z (by omega)).2.2, if_true]
        repeat' split
        all_goals simp_all
      have HX : Hid (idxOf 1 T = 0) := by
        show idxOf 1 T = 0
        unfold idxOf
        by_cases t0 : T.a.x = 0
        · simp [t0]
        · by_cases t1 : T.b.y = 0
          · simp [t1] <;> simp_all
          · by_cases t2 : T.c.z = 0
            · simp [t2] <;> simp_all
            · simp_all
      obtain ⟨oa, ocap, rfl⟩ := hR'.slice
      generalize (basisRows 1 T).length = L at *
      clear hR' hT hF hflat hp
      go_wp2
      go_ret2
      exact ⟨idx_end HG.out (by rw [if_pos rfl, HX.out]), HB1.out⟩

set_option maxRecDepth 100000 in
set_option maxHeartbeats 2000000 in
theorem rindex2 (v : Value) (zss : List (List Int)) (w : World) (hv : RowsAt w v zss) :
    Calls Tryz.prog 18 #[.int .i64 2, v] w fun e w' => IdxEnd 2 zss e ∧ Below w.heap.size w w' := by
  have HB : Hid (Calls Tryz.prog 14 #[.int .i64 2, v] w fun e w' => RBasisEnd 2 zss w' e ∧ Below w.heap.size w w') := rbasis_any 2 v zss w hv
  obtain ⟨a, cap, rfl⟩ := hv.slice
  clear hv
  go_enter Tryz.func18, Tryz.ntmps18
  go_wp2_with fail
  refine HB.out.mono ?_
  rintro e w1 ⟨⟨T, c, out, hg, rfl, hcase⟩, hb1⟩
  have HG := hide hg
  have HB1 := hide hb1
  rcases hcase with ⟨hc, rfl⟩ | ⟨rfl, hR⟩
  · have hn : (c != 0) = true := by simpa using hc
    have HN := hide hc
    clear hg hc hb1
    go_wp2
    go_ret2
    exact ⟨idx_end HG.out (by rw [if_neg HN.out]), HB1.out⟩
  · have hfl : Lat.CanonOf T (vecs zss) ∧ FitsS T ∧ Flat 2 T := by
      rcases hg with ⟨_, h⟩ | ⟨h0, T', hT, h⟩
      · exact absurd rfl h
      · rcases h with ⟨h, _⟩ | ⟨_, e, hF⟩
        · cases h
        · subst e
          refine ⟨hT, hF, flat_of hT (fun zs hm => ?_)⟩
          have hall := (given_ok h0).2.2.2
          rw [List.all_eq_true] at hall
          have := (good_le (hall zs hm)).2; omega
    obtain ⟨hT, hF, hflat⟩ := hfl
    clear hg hb1
    have hR' : RowsAt w1 out (basisRows 2 T) := hR
    clear hR
    by_cases hp : T.a.x ≠ 0 ∧ T.b.y ≠ 0
    · have hbr : basisRows 2 T = [cutV 2 T.a, cutV 2 T.b] := by
        unfold basisRows
        simp [hp.1, hp.2, (hflat.z (by omega)).2.2]
      obtain ⟨ob, oo, ocap, rfl, hd⟩ := rows_diag (n := 2) hR' (by omega) (by rw [hbr]; rfl) (fun zs hz => by rcases basis_mem hz with e | e | e <;> rw [e] <;> rfl)
      rw [hbr] at hd
      have HX : Hid (idxOf 2 T = T.a.x * T.b.y) := rfl
      have la := le511 hF.1
      have lb := le511 hF.2.1
      have lc := le511 hF.2.2
      obtain ⟨xb0, xo0, xc0, ka0, kb0⟩ := hd 0 (by omega)
      replace kb0 : w1.cell? ⟨xb0, xo0 + 0, none⟩ = some (.int .i64 T.a.x) := kb0
      obtain ⟨xb1, xo1, xc1, ka1, kb1⟩ := hd 1 (by omega)
      replace kb1 : w1.cell? ⟨xb1, xo1 + 1, none⟩ = some (.int .i64 T.b.y) := kb1
      generalize T.a.x = p0 at *
      generalize T.b.y = p1 at *
      generalize T.c.z = p2 at *
      have q0 : -511 ≤ p0 ∧ p0 ≤ 511 := la.1
      have q1 : -511 ≤ p1 ∧ p1 ≤ 511 := lb.2.1
      have q2 : -511 ≤ p2 ∧ p2 ≤ 511 := lc.2.2
      have w0 : -261121 ≤ p0 * p1 ∧ p0 * p1 ≤ 261121 := by have := Lat.abs_mul_le (A := 511) (B := 511) q0.1 q0.2 q1.1 q1.2; omega
      have w2 : -133432831 ≤ p0 * p1 * p2 ∧ p0 * p1 * p2 ≤ 133432831 := by have := Lat.abs_mul_le (A := 261121) (B := 511) w0.1 w0.2 q2.1 q2.2; omega
      simp at ka0 kb0 ka1 kb1
      have E0 : Hid (wrap64 p0 = p0) := IntWalk.wrap64_in _ (by omega)
      have E1 : Hid (wrap64 (p0 * p1) = p0 * p1) := IntWalk.wrap64_in _ (by omega)
      have E2 : Hid (wrap64 (p0 * p1 * p2) = p0 * p1 * p2) := IntWalk.wrap64_in _ (by omega)
      clear hd hbr hR' hp hT hF hflat la lb lc q0 q1 q2
      go_wp2
      refine wp_loop_rounds 3 ?_
      rw [rounds_succ]; go_wp2
      rw [rounds_succ]; go_wp2
      rw [rounds_succ]; go_wp2
      go_ret2
      exact ⟨idx_end HG.out (by rw [if_pos rfl, HX.out]; rw [E0.out]; exact E1.out), HB1.out⟩
    · have hlt : (basisRows 2 T).length < 2 := by
        unfold basisRows
        try simp only [(hflat.z (by omega)).2.2, if_true]
        repeat' split
        all_goals simp_all
      have HX : Hid (idxOf 2 T = 0) := by
        show idxOf 2 T = 0
        unfold idxOf
        by_cases t0 : T.a.x = 0
        · simp [t0]
        · by_cases t1 : T.b.y = 0
          · simp [t1] <;> simp_all
          · by_cases t2 : T.c.z = 0
            · simp [t2] <;> simp_all
            · simp_all
      obtain ⟨oa, ocap, rfl⟩ := hR'.slice
      generalize (basisRows 2 T).length = L at *
      clear hR' hT hF hflat hp
      go_wp2
      go_ret2
      exact ⟨idx_end HG.out (by rw [if_pos rfl, HX.out]), HB1.out⟩

set_option maxRecDepth 100000 in
set_option maxHeartbeats 2000000 in
theorem rindex3 (v : Value) (zss : List (List Int)) (w : World) (hv : RowsAt w v zss) :
    Calls Tryz.prog 18 #[.int .i64 3, v] w fun e w' => IdxEnd 3 zss e ∧ Below w.heap.size w w' := by
  have HB : Hid (Calls Tryz.prog 14 #[.int .i64 3, v] w fun e w' => RBasisEnd 3 zss w' e ∧ Below w.heap.size w w') := rbasis_any 3 v zss w hv
  obtain ⟨a, cap, rfl⟩ := hv.slice
  clear hv
  go_enter Tryz.func18, Tryz.ntmps18
  go_wp2_with fail
  refine HB.out.mono ?_
  rintro e w1 ⟨⟨T, c, out, hg, rfl, hcase⟩, hb1⟩
  have HG := hide hg
  have HB1 := hide hb1
  rcases hcase with ⟨hc, rfl⟩ | ⟨rfl, hR⟩
  · have hn : (c != 0) = true := by simpa using hc
    have HN := hide hc
    clear hg hc hb1
    go_wp2
    go_ret2
    exact ⟨idx_end HG.out (by rw [if_neg HN.out]), HB1.out⟩
  · have hfl : Lat.CanonOf T (vecs zss) ∧ FitsS T ∧ Flat 3 T := by
      rcases hg with ⟨_, h⟩ | ⟨h0, T', hT, h⟩
      · exact absurd rfl h
      · rcases h with ⟨h, _⟩ | ⟨_, e, hF⟩
        · cases h
        · subst e
          refine ⟨hT, hF, flat_of hT (fun zs hm => ?_)⟩
          have hall := (given_ok h0).2.2.2
          rw [List.all_eq_true] at hall
          have := (good_le (hall zs hm)).2; omega
    obtain ⟨hT, hF, hflat⟩ := hfl
    clear hg hb1
    have hR' : RowsAt w1 out (basisRows 3 T) := hR
    clear hR
    by_cases hp : T.a.x ≠ 0 ∧ T.b.y ≠ 0 ∧ T.c.z ≠ 0
    · have hbr : basisRows 3 T = [cutV 3 T.a, cutV 3 T.b, cutV 3 T.c] := by
        unfold basisRows
        simp [hp.1, hp.2.1, hp.2.2]
      obtain ⟨ob, oo, ocap, rfl, hd⟩ := rows_diag (n := 3) hR' (by omega) (by rw [hbr]; rfl) (fun zs hz => by rcases basis_mem hz with e | e | e <;> rw [e] <;> rfl)
      rw [hbr] at hd
      have HX : Hid (idxOf 3 T = T.a.x * T.b.y * T.c.z) := rfl
      have la := le511 hF.1
      have lb := le511 hF.2.1
      have lc := le511 hF.2.2
      obtain ⟨xb0, xo0, xc0, ka0, kb0⟩ := hd 0 (by omega)
      replace kb0 : w1.cell? ⟨xb0, xo0 + 0, none⟩ = some (.int .i64 T.a.x) := kb0
      obtain ⟨xb1, xo1, xc1, ka1, kb1⟩ := hd 1 (by omega)
      replace kb1 : w1.cell? ⟨xb1, xo1 + 1, none⟩ = some (.int .i64 T.b.y) := kb1
      obtain ⟨xb2, xo2, xc2, ka2, kb2⟩ := hd 2 (by omega)
      replace kb2 : w1.cell? ⟨xb2, xo2 + 2, none⟩ = some (.int .i64 T.c.z) := kb2
      generalize T.a.x = p0 at *
      generalize T.b.y = p1 at *
      generalize T.c.z = p2 at *
      have q0 : -511 ≤ p0 ∧ p0 ≤ 511 := la.1
      have q1 : -511 ≤ p1 ∧ p1 ≤ 511 := lb.2.1
      have q2 : -511 ≤ p2 ∧ p2 ≤ 511 := lc.2.2
      have w0 : -261121 ≤ p0 * p1 ∧ p0 * p1 ≤ 261121 := by have := Lat.abs_mul_le (A := 511) (B := 511) q0.1 q0.2 q1.1 q1.2; omega
      have w2 : -133432831 ≤ p0 * p1 * p2 ∧ p0 * p1 * p2 ≤ 133432831 := by have := Lat.abs_mul_le (A := 261121) (B := 511) w0.1 w0.2 q2.1 q2.2; omega
      simp at ka0 kb0 ka1 kb1 ka2 kb2
      have E0 : Hid (wrap64 p0 = p0) := IntWalk.wrap64_in _ (by omega)
      have E1 : Hid (wrap64 (p0 * p1) = p0 * p1) := IntWalk.wrap64_in _ (by omega)
      have E2 : Hid (wrap64 (p0 * p1 * p2) = p0 * p1 * p2) := IntWalk.wrap64_in _ (by omega)
      clear hd hbr hR' hp hT hF hflat la lb lc q0 q1 q2
      go_wp2
      refine wp_loop_rounds 4 ?_
      rw [rounds_succ]; go_wp2
      rw [rounds_succ]; go_wp2
      rw [rounds_succ]; go_wp2
      rw [rounds_succ]; go_wp2
      go_ret2
      exact ⟨idx_end HG.out (by rw [if_pos rfl, HX.out]; rw [E0.out, E1.out]; exact E2.out), HB1.out⟩
    · have hlt : (basisRows 3 T).length < 3 := by
        unfold basisRows
        try simp only [if_true]
        repeat' split
        all_goals simp_all
      have HX : Hid (idxOf 3 T = 0) := by
        show idxOf 3 T = 0
        unfold idxOf
        by_cases t0 : T.a.x = 0
        · simp [t0]
        · by_cases t1 : T.b.y = 0
          · simp [t1] <;> simp_all
          · by_cases t2 : T.c.z = 0
            · simp [t2] <;> simp_all
            · simp_all
      obtain ⟨oa, ocap, rfl⟩ := hR'.slice
      generalize (basisRows 3 T).length = L at *
      clear hR' hT hF hflat hp
      go_wp2
      go_ret2
      exact ⟨idx_end HG.out (by rw [if_pos rfl, HX.out]), HB1.out⟩

set_option maxHeartbeats 1000000 in
theorem rindex_any (n : Int) (v : Value) (zss : List (List Int)) (w : World) (hv : RowsAt w v zss) :
    Calls Tryz.prog 18 #[.int .i64 n, v] w fun e w' => IdxEnd n zss e ∧ Below w.heap.size w w' := by
  by_cases hn : n = 1 ∨ n = 2 ∨ n = 3
  · rcases hn with rfl | rfl | rfl
    · exact rindex1 v zss w hv
    · exact rindex2 v zss w hv
    · exact rindex3 v zss w hv
  · have HB : Hid (Calls Tryz.prog 14 #[.int .i64 n, v] w fun e w' => RBasisEnd n zss w' e ∧ Below w.heap.size w w') := rbasis_any n v zss w hv
    obtain ⟨a, cap, rfl⟩ := hv.slice
    clear hv
    go_enter Tryz.func18, Tryz.ntmps18
    go_wp2_with fail
    refine HB.out.mono ?_
    rintro e w1 ⟨⟨T, c, out, hg, rfl, hcase⟩, hb1⟩
    have HG := hide hg
    have HB1 := hide hb1
    have hc0 : c ≠ 0 := by
      rcases hg with ⟨_, h⟩ | ⟨h0, _⟩
      · exact h
      · have := given_ok h0; omega
    rcases hcase with ⟨hc, rfl⟩ | ⟨e0, _⟩
    · have hn : (c != 0) = true := by simpa using hc
      have HN := hide hc
      clear hg hc hb1 hc0
      go_wp2
      go_ret2
      exact ⟨idx_end HG.out (by rw [if_neg HN.out]), HB1.out⟩
    · exact absurd e0 hc0

end Go.Proofs.YtmlcblnndihjoaaGreat

namespace Go.Proofs.YtmlcblnndihjoaaGreat
open Go.RowKit

set_option maxHeartbeats 2000000 in
theorem rsame_refl (v v' : Value) (zss : List (List Int)) (w : World) (hv : RowsAt w v zss) (hv' : RowsAt w v' zss) (hl : zss.length ≤ 6) (hz : ∀ zs ∈ zss, 0 < zs.length ∧ zs.length ≤ 3) :
    Calls Tryz.prog 15 #[v, v'] w fun e w' => e = .returned (.bool true) ∧ Below w.heap.size w w' := by
  rcases hv with ⟨rfl, a, cap, rfl⟩ | ⟨h0, b, o, cap, rfl, hc⟩
  · obtain ⟨a', cap', rfl⟩ := hv'.slice
    clear hv'
    have hneq : (((0 : Nat) : Int) != ((0 : Nat) : Int)) = false := by simp
    go_enter Tryz.func15, Tryz.ntmps15
    go_wp2
    refine wp_loop_rounds 1 ?_
    rw [rounds_succ]
    go_wp2
    go_ret
    exact ⟨rfl, Below.refl _ _⟩
  · rcases hv' with ⟨rfl, _⟩ | ⟨_, b', o', cap', rfl, hc'⟩
    · simp at h0
    have HC : Hid (∀ i, i < zss.length → ∃ x, w.cell? ⟨b, o + i, none⟩ = some x ∧ IntsAt w x (zss.getD i [])) := hc
    have HC' : Hid (∀ i, i < zss.length → ∃ x, w.cell? ⟨b', o' + i, none⟩ = some x ∧ IntsAt w x (zss.getD i [])) := hc'
    have HZ : Hid (∀ zs ∈ zss, 0 < zs.length ∧ zs.length ≤ 3) := hz
    have hl3 : (zss.length : Int) ≤ 6 := by omega
    have hneq : ((zss.length : Int) != (zss.length : Int)) = false := by simp
    clear hc hc' hz
    go_enter Tryz.func15, Tryz.ntmps15
    go_wp2
    go_loopg [5] (zss.length) (fun mm i wr => ∃ k m : Nat, k + mm = zss.length ∧ i = .int .i64 k ∧ wr = w.drewN m)
    case atStart => exact ⟨0, 0, by omega, rfl, rfl⟩
    case round =>
      obtain ⟨k, m, hkk, rfl, rfl⟩ := hrel
      obtain ⟨mm, hmm⟩ : ∃ mm, mm = gk := ⟨_, rfl⟩
      by_cases hlt : k < zss.length
      · obtain ⟨x, hcell, hx⟩ := HC.out k hlt
        obtain ⟨x', hcell', hx'⟩ := HC'.out k hlt
        have hzl := HZ.out _ (getD_memR hlt)
        obtain ⟨zs, hzs⟩ : ∃ zs, zs = zss.getD k [] := ⟨_, rfl⟩
        rw [← hzs] at hx hx' hzl
        clear hzs
        obtain ⟨b1, o1, cap1, rfl, hc1⟩ := hx.cells hzl.1
        obtain ⟨b2, o2, cap2, rfl, hc2⟩ := hx'.cells hzl.1
        have HC1 : Hid (∀ i, i < zs.length → w.cell? ⟨b1, o1 + i, none⟩ = some (.int .i64 (zs.getD i 0))) := hc1
        have HC2 : Hid (∀ i, i < zs.length → w.cell? ⟨b2, o2 + i, none⟩ = some (.int .i64 (zs.getD i 0))) := hc2
        have hz3 : (zs.length : Int) ≤ 3 := by omega
        have hneq2 : ((zs.length : Int) != (zs.length : Int)) = false := by simp
        have hk0 : (0 : Int) ≤ (k : Int) := by omega
        have hkl : (k : Int) < (zss.length : Int) := by omega
        clear hx hx' hc1 hc2
        go_wp2
        go_quiet (fail)
        go_wp2
        go_loopg [6] (zs.length) (fun jj i wr => ∃ j m : Nat, j + jj = zs.length ∧ i = .int .i64 j ∧ wr = w.drewN m)
        case atStart => exact ⟨0, _, by omega, rfl, by first | rfl | (simp; rfl)⟩
        case round =>
          obtain ⟨j, m1, hjj, rfl, rfl⟩ := hrel
          by_cases hjl : j < zs.length
          · have c1 := HC1.out j hjl
            have c2 := HC2.out j hjl
            generalize zs.getD j 0 = z at *
            have hneq3 : (z != z) = false := by simp
            have hj0 : (0 : Int) ≤ (j : Int) := by omega
            have hjz : (j : Int) < (zs.length : Int) := by omega
            go_wp2
            go_quiet (fail)
            go_wp2
            go_roundg (gk - 1)
            case measure => omega
            case rel => exact ⟨j + 1, _, by omega, by go_num, by first | rfl | (simp; rfl)⟩
          · go_wp2
            go_roundg (mm - 1)
            case measure => omega
            case rel => exact ⟨k + 1, m1, by omega, by go_num, rfl⟩
      · go_wp2
        go_ret
        exact ⟨rfl, below_drewN (Below.refl _ _)⟩

end Go.Proofs.YtmlcblnndihjoaaGreat

namespace Go.Proofs.YtmlcblnndihjoaaGreat
open Go.RowKit

theorem take_eq_succ {α : Type} {l l' : List α} {k : Nat} {d : α} (h : l.take k = l'.take k) (h1 : k < l.length) (h2 : k < l'.length) (e : l.getD k d = l'.getD k d) : l.take (k + 1) = l'.take (k + 1) := by
  rw [List.take_succ_eq_append_getElem h1, List.take_succ_eq_append_getElem h2, h]
  rw [List.getD_eq_getElem?_getD, List.getD_eq_getElem?_getD, List.getElem?_eq_getElem h1, List.getElem?_eq_getElem h2] at e
  simp at e; rw [e]

theorem take_all_eq {α : Type} {l l' : List α} {k : Nat} (h : l.take k = l'.take k) (h1 : k = l.length) (h2 : l.length = l'.length) : l = l' := by
  subst h1
  rw [List.take_length] at h
  rw [h2, List.take_length] at h; exact h

/-- a bool whose meaning is known -/
def SameEnd (e : Ending) (p : Prop) : Prop := ∃ r : Bool, e = .returned (.bool r) ∧ (r = true ↔ p)

set_option maxHeartbeats 2000000 in
theorem rsame_any (v v' : Value) (zss zss' : List (List Int)) (w : World) (hv : RowsAt w v zss) (hv' : RowsAt w v' zss') (hl : zss.length ≤ 6) (hz : ∀ zs ∈ zss, 0 < zs.length ∧ zs.length ≤ 3) (hz' : ∀ zs ∈ zss', 0 < zs.length ∧ zs.length ≤ 3) :
    Calls Tryz.prog 15 #[v, v'] w fun e w' => SameEnd e (zss = zss') ∧ Below w.heap.size w w' := by
  by_cases hL : zss.length = zss'.length
  · rcases hv with ⟨rfl, a, cap, rfl⟩ | ⟨h0, b, o, cap, rfl, hc⟩
    · have e0 : zss' = [] := List.length_eq_zero_iff.1 hL.symm
      subst e0
      obtain ⟨a', cap', rfl⟩ := hv'.slice
      clear hv'
      have hneq : (((0 : Nat) : Int) != ((0 : Nat) : Int)) = false := by simp
      go_enter Tryz.func15, Tryz.ntmps15
      go_wp2
      refine wp_loop_rounds 1 ?_
      rw [rounds_succ]
      go_wp2
      go_ret
      exact ⟨⟨true, rfl, by simp⟩, Below.refl _ _⟩
    · rcases hv' with ⟨rfl, _⟩ | ⟨_, b', o', cap', rfl, hc'⟩
      · simp at hL; rw [hL] at h0; simp at h0
      rw [← hL] at hc' ⊢
      have HC : Hid (∀ i, i < zss.length → ∃ x, w.cell? ⟨b, o + i, none⟩ = some x ∧ IntsAt w x (zss.getD i [])) := hc
      have HC' : Hid (∀ i, i < zss.length → ∃ x, w.cell? ⟨b', o' + i, none⟩ = some x ∧ IntsAt w x (zss'.getD i [])) := hc'
      have HZ : Hid (∀ zs ∈ zss, 0 < zs.length ∧ zs.length ≤ 3) := hz
      have HZ' : Hid (∀ zs ∈ zss', 0 < zs.length ∧ zs.length ≤ 3) := hz'
      have HL := hide hL
      have hl3 : (zss.length : Int) ≤ 6 := by omega
      have hneq : ((zss.length : Int) != (zss.length : Int)) = false := by simp
      clear hc hc' hz hz' hL
      go_enter Tryz.func15, Tryz.ntmps15
      go_wp2
      go_loopg [5] (zss.length) (fun mm i wr => ∃ k m : Nat, k + mm = zss.length ∧ i = .int .i64 k ∧ wr = w.drewN m ∧ zss.take k = zss'.take k)
      case atStart => exact ⟨0, 0, by omega, rfl, rfl, by simp⟩
      case round =>
        obtain ⟨k, m, hkk, rfl, rfl, htk⟩ := hrel
        have HTK := hide htk
        clear htk
        obtain ⟨mm, hmm⟩ : ∃ mm, mm = gk := ⟨_, rfl⟩
        by_cases hlt : k < zss.length
        · obtain ⟨x, hcell, hx⟩ := HC.out k hlt
          obtain ⟨x', hcell', hx'⟩ := HC'.out k hlt
          have hzl := HZ.out _ (getD_memR hlt)
          have hzl' := HZ'.out (zss'.getD k []) (getD_memR (by rw [← HL.out]; exact hlt))
          obtain ⟨zs, hzs⟩ : ∃ zs, zs = zss.getD k [] := ⟨_, rfl⟩
          obtain ⟨zs', hzs'⟩ : ∃ zs', zs' = zss'.getD k [] := ⟨_, rfl⟩
          rw [← hzs] at hx hzl
          rw [← hzs'] at hx' hzl'
          have HZS := hide hzs
          have HZS' := hide hzs'
          clear hzs hzs'
          obtain ⟨b1, o1, cap1, rfl, hc1⟩ := hx.cells hzl.1
          obtain ⟨b2, o2, cap2, rfl, hc2⟩ := hx'.cells hzl'.1
          have HC1 : Hid (∀ i, i < zs.length → w.cell? ⟨b1, o1 + i, none⟩ = some (.int .i64 (zs.getD i 0))) := hc1
          have HC2 : Hid (∀ i, i < zs'.length → w.cell? ⟨b2, o2 + i, none⟩ = some (.int .i64 (zs'.getD i 0))) := hc2
          have hz3 : (zs.length : Int) ≤ 3 := by omega
          have hk0 : (0 : Int) ≤ (k : Int) := by omega
          have hkl : (k : Int) < (zss.length : Int) := by omega
          clear hx hx' hc1 hc2
          by_cases hrl : zs.length = zs'.length
          · have HRL := hide hrl
            have hneq2 : ((zs.length : Int) != (zs.length : Int)) = false := by simp
            rw [← hrl] at HC2 hcell'
            clear hrl hzl'
            go_wp2
            go_quiet (fail)
            go_wp2
            go_loopg [6] (zs.length) (fun jj i wr => ∃ j m : Nat, j + jj = zs.length ∧ i = .int .i64 j ∧ wr = w.drewN m ∧ zs.take j = zs'.take j)
            case atStart => exact ⟨0, _, by omega, rfl, by first | rfl | (simp; rfl), by simp⟩
            case round =>
              obtain ⟨j, m1, hjj, rfl, rfl, htj⟩ := hrel
              have HTJ := hide htj
              clear htj
              by_cases hjl : j < zs.length
              · have c1 := HC1.out j hjl
                have c2 := HC2.out j hjl
                obtain ⟨z, hz⟩ : ∃ z, z = zs.getD j 0 := ⟨_, rfl⟩
                obtain ⟨z', hz'⟩ : ∃ z', z' = zs'.getD j 0 := ⟨_, rfl⟩
                rw [← hz] at c1
                rw [← hz'] at c2
                have HZ1 := hide hz
                have HZ2 := hide hz'
                clear hz hz'
                have hj0 : (0 : Int) ≤ (j : Int) := by omega
                have hjz : (j : Int) < (zs.length : Int) := by omega
                by_cases hzz : z = z'
                · have HZZ := hide hzz
                  have hneq3 : (z != z') = false := by simpa using hzz
                  clear hzz
                  go_wp2
                  go_quiet (fail)
                  go_wp2
                  go_roundg (gk - 1)
                  case measure => omega
                  case rel => exact ⟨j + 1, _, by omega, by go_num, by first | rfl | (simp; rfl), take_eq_succ (d := 0) HTJ.out hjl (by rw [← HRL.out]; exact hjl) (by rw [← HZ1.out, ← HZ2.out]; exact HZZ.out)⟩
                · have HZZ := hide hzz
                  have hneq3 : (z != z') = true := by simpa using hzz
                  clear hzz
                  go_wp2
                  go_quiet (fail)
                  go_wp2
                  go_ret
                  refine ⟨⟨false, rfl, ?_⟩, (by first | exact below_drewN (Below.refl _ _) | exact below_drewN (below_drewN (Below.refl _ _)) | exact below_drewN (below_drewN (below_drewN (Below.refl _ _))))⟩
                  refine ⟨fun h => (by cases h), fun h => absurd ?_ HZZ.out⟩
                  rw [HZ1.out, HZ2.out, HZS.out, HZS'.out, h]
              · have HJ : Hid (zs = zs') := take_all_eq HTJ.out (by omega) HRL.out
                go_wp2
                go_roundg (mm - 1)
                case measure => omega
                case rel => exact ⟨k + 1, m1, by omega, by go_num, rfl, take_eq_succ (d := []) HTK.out hlt (by rw [← HL.out]; exact hlt) (by rw [← HZS.out, ← HZS'.out]; exact HJ.out)⟩
          · have HRL := hide hrl
            have hneq2 : ((zs.length : Int) != (zs'.length : Int)) = true := by
              simp; omega
            clear hrl
            go_wp2
            go_quiet (fail)
            go_wp2
            go_ret
            refine ⟨⟨false, rfl, ?_⟩, (by first | exact below_drewN (Below.refl _ _) | exact below_drewN (below_drewN (Below.refl _ _)) | exact below_drewN (below_drewN (below_drewN (Below.refl _ _))))⟩
            refine ⟨fun h => (by cases h), fun h => absurd ?_ HRL.out⟩
            rw [HZS.out, HZS'.out, h]
        · have HJ : Hid (zss = zss') := take_all_eq HTK.out (by omega) HL.out
          go_wp2
          go_ret
          exact ⟨⟨true, rfl, fun _ => HJ.out, fun _ => rfl⟩, (by first | exact below_drewN (Below.refl _ _) | exact below_drewN (below_drewN (Below.refl _ _)) | exact below_drewN (below_drewN (below_drewN (Below.refl _ _))))⟩
  · have hneq : ((zss.length : Int) != (zss'.length : Int)) = true := by
      simp; omega
    have HL := hide hL
    clear hL
    obtain ⟨a, cap, rfl⟩ := hv.slice
    obtain ⟨a', cap', rfl⟩ := hv'.slice
    clear hv hv'
    go_enter Tryz.func15, Tryz.ntmps15
    go_wp2
    go_ret
    refine ⟨⟨false, rfl, ?_⟩, Below.refl _ _⟩
    exact ⟨fun h => (by cases h), fun h => absurd (by rw [h]) HL.out⟩

end Go.Proofs.YtmlcblnndihjoaaGreat

namespace Go.Proofs.YtmlcblnndihjoaaGreat
open Go.RowKit

/-- the list so far: what it reads as, its cells in a block of its own -/
def WithSt (w : World) (zss : List (List Int)) (u : Value) (wr : World) : Prop :=
  ∃ L : List (Value × List Int), wr.ownsRow w.heap.size 23 1 u L.length (L.map (·.1)) ∧ (∀ p ∈ L, IntsAt w p.1 p.2) ∧ L.map (·.2) = zss ∧ Below w.heap.size w wr

set_option maxRecDepth 100000 in
set_option maxHeartbeats 4000000 in
theorem rwith_any (v v' : Value) (zss zss' : List (List Int)) (w : World) (hv : RowsAt w v zss) (hv' : RowsAt w v' zss') (hl : zss.length ≤ 6) (hl' : zss'.length ≤ 6) :
    Calls Tryz.prog 47 #[v, v'] w fun e w' => ∃ out, e = .returned out ∧ RowsAt w' out (zss ++ zss') ∧ Below w.heap.size w w' := by
  have HV := hide hv
  have HV' := hide hv'
  obtain ⟨i0, hi, hz0, hz1, hz2⟩ := info_parts Tryz.info23
  have HI : Hid (Tryz.prog.info? 23 = some i0 ∧ i0.zero = some (.slice none 0 0) ∧ i0.size = 1 ∧ i0.bytes = 24) := ⟨hi, hz0, hz1, hz2⟩
  clear hi hz0 hz1 hz2
  obtain ⟨a, cap, rfl⟩ := hv.slice
  obtain ⟨a', cap', rfl⟩ := hv'.slice
  clear hv hv'
  go_enter Tryz.func47, Tryz.ntmps47
  go_wp2
  go_loopg [5, 6] (zss.length) (fun mm u i wr => ∃ k : Nat, k + mm = zss.length ∧ i = .int .i64 k ∧ WithSt w (zss.take k) u wr)
  case atStart => exact ⟨0, by omega, rfl, [], World.ownsRow_nil _ _ _ _, by simp, by simp, Below.refl _ _⟩
  case round =>
    obtain ⟨k, hk, rfl, hst⟩ := hrel
    have HST := hide hst
    clear hst
    by_cases hlt : k < zss.length
    · obtain ⟨L, hown, hIn, hL, hB⟩ := HST.out
      rcases HV.out with ⟨e0, _⟩ | ⟨_, b, o, cap1, e1, hc⟩
      · rw [e0] at hlt; simp at hlt
      injection e1 with e2 e3 e4
      subst e2
      obtain ⟨x, hcell, hx⟩ := hc k hlt
      have hcw := cell_below hB hcell
      have HX := hide hx
      obtain ⟨xa, xcap, rfl⟩ := hx.slice
      generalize hlen : (zss.getD k []).length = xl at *
      have HLL := hide hL
      have HIN := hide hIn
      have hLl : L.length ≤ 12 := by
        have t := congrArg List.length hL
        simp at t; omega
      have hsz := hB.size
      obtain ⟨hi, hz0, hz1, hz2⟩ := HI.out
      have HBB := hide hB
      have hkz : (k : Int) < (zss.length : Int) := by omega
      clear hc hcell hx hL hIn e3 e4 hB
      go_wp2_with (at_builtin; refine wpList_append_lies _ rfl (.tmp 14) (.tmp 19) 33 rfl w.heap.size 23 i0 (.slice none 0 0) 1 24 Tryz.underlying33 hi hz0 hz1 hz2 rfl (by decide) _ _ _ rfl (hown.alloc _) ⟨wr.heap.size, 0, none⟩ 1 1 [.slice xa xl xcap] rfl rfl (World.news_of_block (cs := #[.slice xa xl xcap]) (t := 23) (fr := (0, 0)) (Blk.new _ _ _ rfl)) (by intro u hu; simp at hu; subst hu; rfl) (by omega) (by unfold maxLen; omega) (by omega) (by simp <;> omega) _ rfl ?_; intro g cap2 w2 hown1 hgrow hat hglt)
      go_roundg (gk - 1)
      case measure => omega
      case rel =>
        refine ⟨k + 1, by omega, by go_num, L ++ [(.slice xa xl xcap, zss.getD k [])], ?_, ?_, ?_, ?_⟩
        · rw [List.length_append, List.map_append]; exact hown1
        · intro p hp
          rcases List.mem_append.1 hp with hp | hp
          · exact HIN.out p hp
          · rw [List.mem_singleton] at hp; subst hp; exact HX.out
        · rw [List.map_append, HLL.out, take_snocR hlt]; rfl
        · exact (HBB.out.alloc (by omega) _).grown hgrow (by simp <;> omega) (fun j hj => by have := (hown.lt j hj).1; omega)
    · have HK : Hid (zss.take k = zss) := by show zss.take k = zss; rw [List.take_of_length_le (by omega)]
      have HST2 : Hid (WithSt w (zss ++ zss'.take 0) u5 wr) := by
        have t := HST.out; rw [HK.out] at t; show WithSt w (zss ++ zss'.take 0) u5 wr; simpa using t
      clear HST
      go_wp2
      go_loopg [5, 7] (zss'.length) (fun mm u i wr => ∃ k : Nat, k + mm = zss'.length ∧ i = .int .i64 k ∧ WithSt w (zss ++ zss'.take k) u wr)
      case atStart => exact ⟨0, by omega, rfl, HST2.out⟩
      case round =>
        obtain ⟨q, hq, rfl, hst⟩ := hrel
        have HST := hide hst
        clear hst HST2
        by_cases hlq : q < zss'.length
        · obtain ⟨L, hown, hIn, hL, hB⟩ := HST.out
          rcases HV'.out with ⟨e0, _⟩ | ⟨_, b, o, cap1, e1, hc⟩
          · rw [e0] at hlq; simp at hlq
          injection e1 with e2 e3 e4
          subst e2
          obtain ⟨x, hcell, hx⟩ := hc q hlq
          have hcw := cell_below hB hcell
          have HX := hide hx
          obtain ⟨xa, xcap, rfl⟩ := hx.slice
          generalize hlen : (zss'.getD q []).length = xl at *
          have HLL := hide hL
          have HIN := hide hIn
          have hLl : L.length ≤ 12 := by
            have t := congrArg List.length hL
            simp at t; omega
          have hsz := hB.size
          obtain ⟨hi, hz0, hz1, hz2⟩ := HI.out
          have HBB := hide hB
          have hkz : (q : Int) < (zss'.length : Int) := by omega
          clear hc hcell hx hL hIn e3 e4 hB
          go_wp2_with (at_builtin; refine wpList_append_lies _ rfl (.tmp 27) (.tmp 32) 33 rfl w.heap.size 23 i0 (.slice none 0 0) 1 24 Tryz.underlying33 hi hz0 hz1 hz2 rfl (by decide) _ _ _ rfl (hown.alloc _) ⟨wr.heap.size, 0, none⟩ 1 1 [.slice xa xl xcap] rfl rfl (World.news_of_block (cs := #[.slice xa xl xcap]) (t := 23) (fr := (0, 0)) (Blk.new _ _ _ rfl)) (by intro u hu; simp at hu; subst hu; rfl) (by omega) (by unfold maxLen; omega) (by omega) (by simp <;> omega) _ rfl ?_; intro g cap2 w2 hown1 hgrow hat hglt)
          go_roundg (gk - 1)
          case measure => omega
          case rel =>
            refine ⟨q + 1, by omega, by go_num, L ++ [(.slice xa xl xcap, zss'.getD q [])], ?_, ?_, ?_, ?_⟩
            · rw [List.length_append, List.map_append]; exact hown1
            · intro p hp
              rcases List.mem_append.1 hp with hp | hp
              · exact HIN.out p hp
              · rw [List.mem_singleton] at hp; subst hp; exact HX.out
            · rw [List.map_append, HLL.out, take_snocR hlq, ← List.append_assoc]; rfl
            · exact (HBB.out.alloc (by omega) _).grown hgrow (by simp <;> omega) (fun j hj => by have := (hown.lt j hj).1; omega)
        · have HQ : Hid (zss'.take q = zss') := by show zss'.take q = zss'; rw [List.take_of_length_le (by omega)]
          go_wp2
          go_ret
          obtain ⟨L, hown, hIn, hL, hB⟩ := HST.out
          rw [HQ.out] at hL
          refine ⟨_, rfl, ?_, hB⟩
          rw [← hL]
          exact rowsAt_pairs L hown (fun p hp => (hIn p hp).below hB)

end Go.Proofs.YtmlcblnndihjoaaGreat

namespace Go.Proofs.YtmlcblnndihjoaaGreat
open Go.RowKit

/-- a vector is in the lattice just if the basis stays the same with it -/
theorem basis_stays {n : Nat} {T S : Lat.St} {zs : List Int} (h0 : 0 < n) (h3 : n ≤ 3) (hT : Lat.Shape T) (hfT : Flat n T) (hfS : Flat n S) (hS : Lat.CanonOf S (vecs (basisRows n T ++ [zs]))) :
    basisRows n T = basisRows n S ↔ Lat.Mem T (vecOf zs) := by
  rw [vecs_snoc] at hS
  constructor
  · intro e
    have m : Lat.Mem S (vecOf zs) := (hS.span _).2 (Lat.InSpan.of_mem List.mem_cons_self)
    rw [← basis_span h0 h3 hS.shape hfS, ← e, basis_span h0 h3 hT hfT] at m
    exact m
  · intro m
    have : T = S := Lat.one_basis hT hS.shape (fun u => by
      rw [hS.span u, ← basis_span h0 h3 hT hfT]
      refine ⟨fun h => Lat.InSpan.more _ h, fun h => Lat.InSpan.sub_list (fun g hg => ?_) h⟩
      rcases List.mem_cons.1 hg with e | e
      · rw [e, basis_span h0 h3 hT hfT]; exact m
      · exact Lat.InSpan.of_mem e)
    rw [this]

/-- the reference's answer of Has -/
def RHasEnd (n : Int) (zss : List (List Int)) (zs : List Int) (e : Ending) : Prop :=
  ∃ (r : Bool) (c : Int), e = .returned (.tuple #[.bool r, .int .i64 c]) ∧
    ((givenE n zss ≠ 0 ∧ c = givenE n zss ∧ r = false) ∨ (givenE n zss = 0 ∧ goodB n zs = false ∧ c = 2 ∧ r = false) ∨
     (givenE n zss = 0 ∧ goodB n zs = true ∧ ∃ T, Gen n zss T c ∧ (c ≠ 0 → r = false) ∧ (c = 0 → (r = true ↔ Lat.Mem T (vecOf zs)))))

theorem rowsAt_one {w w' : World} {g : Nat} {x : Value} {zs : List Int} (h : w'.cell? ⟨g, 0, none⟩ = some x) (hx : IntsAt w' x zs) : RowsAt w' (.slice (some ⟨g, 0, none⟩) 1 1) [zs] :=
  Or.inr ⟨by simp, g, 0, 1, rfl, fun i hi => by
    have : i = 0 := by simp at hi; omega
    subst this
    exact ⟨x, h, hx⟩⟩

set_option maxHeartbeats 2000000 in
theorem rhas_any (n : Int) (v x : Value) (zss : List (List Int)) (zs : List Int) (w : World) (hv : RowsAt w v zss) (hx : IntsAt w x zs) :
    Calls Tryz.prog 23 #[.int .i64 n, v, x] w fun e w' => RHasEnd n zss zs e ∧ Below w.heap.size w w' := by
  have HG : Hid (∀ w0, w0 = w → Calls Tryz.prog 35 #[.int .i64 n, v] w0 fun e w' => e = .returned (.int .i64 (givenE n zss)) ∧ w' = w0) := fun w0 e => by
    rw [e]; exact rgiven_any n v zss w hv
  have HB : Hid (Calls Tryz.prog 14 #[.int .i64 n, v] w fun e w' => RBasisEnd n zss w' e ∧ Below w.heap.size w w') := rbasis_any n v zss w hv
  by_cases hz : givenE n zss = 0
  · obtain ⟨h1, h3, hl, hall⟩ := given_ok hz
    have HD : Hid (∀ w0, w0 = w → Calls Tryz.prog 46 #[.int .i64 n, x, .int .i64 511] w0 fun e w' => e = .returned (.bool (goodB n zs)) ∧ w' = w0) := fun w0 e => by
      rw [e]; exact rgood_any n x zs w hx h1 h3
    have HZ := hide hz
    have HX := hide hx
    have HALL := hide hall
    rw [hz] at HG
    obtain ⟨a, cap, rfl⟩ := hv.slice
    obtain ⟨xa, xcap, rfl⟩ := hx.slice
    clear hz hv hx hall
    cases hgb : goodB n zs
    · rw [hgb] at HD
      have HGB := hide hgb
      clear hgb
      go_enter Tryz.func23, Tryz.ntmps23
      go_wp2_with (first | (go_at_call 35; refine (HG.out _ rfl).mono ?_; rintro e w' ⟨rfl, hq'⟩; replace hq' := hq'.symm; subst hq') | (go_at_call 46; refine (HD.out _ rfl).mono ?_; rintro e w' ⟨rfl, hq'⟩; replace hq' := hq'.symm; subst hq'))
      go_ret2
      exact ⟨⟨false, 2, rfl, Or.inr (Or.inl ⟨HZ.out, HGB.out, rfl, rfl⟩)⟩, Below.refl _ _⟩
    · rw [hgb] at HD
      have HGB := hide hgb
      clear hgb
      go_enter Tryz.func23, Tryz.ntmps23
      go_wp2_with (first | (go_at_call 35; refine (HG.out _ rfl).mono ?_; rintro e w' ⟨rfl, hq'⟩; replace hq' := hq'.symm; subst hq') | (go_at_call 46; refine (HD.out _ rfl).mono ?_; rintro e w' ⟨rfl, hq'⟩; replace hq' := hq'.symm; subst hq'))
      refine HB.out.mono ?_
      rintro e w1 ⟨⟨T, c, out, hg, rfl, hcase⟩, hb1⟩
      have HGN := hide hg
      have HB1 := hide hb1
      rcases hcase with ⟨hc, rfl⟩ | ⟨rfl, hR⟩
      · have hn : (c != 0) = true := by simpa using hc
        have HN := hide hc
        clear hg hc hb1
        go_wp2
        go_ret2
        exact ⟨⟨false, c, rfl, Or.inr (Or.inr ⟨HZ.out, HGB.out, T, HGN.out, fun _ => rfl, fun h => absurd h HN.out⟩)⟩, HB1.out⟩
      · have hfl : Lat.Shape T ∧ FitsS T ∧ Flat n.toNat T := by
          rcases hg with ⟨_, h⟩ | ⟨g0, T', hT, h⟩
          · exact absurd rfl h
          · rcases h with ⟨h, _⟩ | ⟨_, e, hF⟩
            · cases h
            · subst e
              refine ⟨hT.shape, hF, flat_of hT (fun zs hm => ?_)⟩
              have hall := (given_ok g0).2.2.2
              rw [List.all_eq_true] at hall
              have := (good_le (hall zs hm)).2; omega
        obtain ⟨hsh, hF, hflat⟩ := hfl
        have HR := hide hR
        have hnn : ((n.toNat : Nat) : Int) = n := Int.toNat_of_nonneg (by omega)
        have hbg : (basisRows n.toNat T).all (goodB n) = true := by
          have t := (fits_iff (n := n.toNat) (by omega) (by omega) hsh hflat).2 hF
          rwa [hnn] at t
        have HALL2 : Hid ((basisRows n.toNat T ++ [zs]).all (goodB n) = true) := by
          show (basisRows n.toNat T ++ [zs]).all (goodB n) = true
          rw [List.all_append, hbg]; simp [HGB.out]
        have HQ : Hid (Lat.Shape T ∧ Flat n.toNat T) := ⟨hsh, hflat⟩
        have HNN := hide hnn
        have HLL := hide (basis_len n.toNat T)
        obtain ⟨oa, ocap, rfl⟩ := hR.slice
        clear hg hb1 hR hsh hF hflat hbg hnn
        go_wp2_with fail
        have hAl : Below w1.heap.size w1 (w1.alloc (Obj.cells #[Value.slice xa zs.length xcap] 23)) := (Below.refl _ _).alloc (Nat.le_refl _) _
        have HXA := (HX.out.below HB1.out).below hAl
        refine (rwith_any _ _ _ [zs] _ (HR.out.below hAl) (rowsAt_one (w := w1) ((Blk.new w1 #[Value.slice xa zs.length xcap] 23 rfl).cell 0) HXA) (by have := HLL.out; omega) (by simp)).mono ?_
        rintro e w2 ⟨one, rfl, hone, hb2⟩
        have h12 : Below w1.heap.size w1 w2 := hAl.trans (hb2.mono (by simp))
        have HC : Hid (Calls Tryz.prog 36 #[.int .i64 n, one] w2 fun e w' => CanonEnd n.toNat w2 (basisRows n.toNat T ++ [zs]) e w') :=
          rcanon_any n one _ w2 hone h1 h3 (by have := HLL.out; simp; omega) HALL2.out
        obtain ⟨na, ncap, rfl⟩ := hone.slice
        clear hone
        generalize (basisRows n.toNat T ++ [zs]).length = K at *
        have H12 := hide h12
        clear hb2 h12 hAl HXA
        go_wp2_with fail
        refine HC.out.mono ?_
        rintro e w3 ⟨S, cv, hS, rfl, hRc, hb3⟩
        replace hRc := hRc.now
        have h13 : Below w1.heap.size w1 w3 := H12.out.trans (hb3.mono H12.out.size)
        have hfS : Flat n.toNat S := flat_of hS (fun zs' hm => by
          have t := HALL2.out
          rw [List.all_eq_true] at t
          have := (good_le (t zs' hm)).2; omega)
        have lens : ∀ (S' : Lat.St), ∀ zs' ∈ basisRows n.toNat S', 0 < zs'.length ∧ zs'.length ≤ 3 := fun S' => basis_lens (by omega) (by omega)
        have HS : Hid (∀ w0, w0 = w3 → Calls Tryz.prog 15 #[.slice oa (basisRows n.toNat T).length ocap, cv] w0 fun e w' => SameEnd e (basisRows n.toNat T = basisRows n.toNat S) ∧ Below w0.heap.size w0 w') := fun w0 e => by
          rw [e]; exact rsame_any _ cv _ _ w3 (HR.out.below h13) hRc (by have := HLL.out; omega) (lens T) (lens S)
        have HST : Hid (basisRows n.toNat T = basisRows n.toNat S ↔ Lat.Mem T (vecOf zs)) := basis_stays (by omega) (by omega) HQ.out.1 HQ.out.2 hfS hS
        obtain ⟨ca, ccap, rfl⟩ := hRc.slice
        have H13 := hide h13
        clear hS hRc hb3 h13 hfS lens
        go_wp2_with fail
        refine (HS.out _ rfl).mono ?_
        rintro e w4 ⟨⟨r, rfl, hr⟩, hb4⟩
        have HRR := hide hr
        have H14 := hide (H13.out.trans (hb4.mono H13.out.size))
        clear hr hb4
        go_wp2
        go_ret2
        exact ⟨⟨r, 0, rfl, Or.inr (Or.inr ⟨HZ.out, HGB.out, T, HGN.out, fun h => absurd rfl h, fun _ => HRR.out.trans HST.out⟩)⟩, HB1.out.trans (H14.out.mono HB1.out.size)⟩
  · have hn : (givenE n zss != 0) = true := by simpa using hz
    have HQ : Hid (givenE n zss ≠ 0) := hz
    obtain ⟨c, hc⟩ : ∃ c, c = givenE n zss := ⟨_, rfl⟩
    have HCC := hide hc
    rw [← hc] at HG hn
    clear hz hc
    obtain ⟨a, cap, rfl⟩ := hv.slice
    obtain ⟨xa, xcap, rfl⟩ := hx.slice
    clear hv hx
    go_enter Tryz.func23, Tryz.ntmps23
    go_wp2_with (go_at_call 35; refine (HG.out _ rfl).mono ?_; rintro e w' ⟨rfl, hq'⟩; replace hq' := hq'.symm; subst hq')
    go_ret2
    exact ⟨⟨false, c, rfl, Or.inl ⟨HQ.out, HCC.out, rfl⟩⟩, Below.refl _ _⟩

end Go.Proofs.YtmlcblnndihjoaaGreat
