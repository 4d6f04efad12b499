import Derived.Test.YtmlcblnndihjoaaShape
namespace Go.Proofs.Ytmlcblnndihjoaa
open Go.RowKit

/-- what was handed in is in the basis -/
theorem has_true {n : Nat} {T : Lat.St} {zs : List Int} {e : Ending} (h : HasOut (n : Int) (basisRows n T) zs e) (h1 : 0 < n) (h3 : n ≤ 3) (hs : Lat.Shape T) (hf : Flat n T) (hF : FitsS T) (hg : goodB (n : Int) zs = true) (hm : Lat.Mem T (vecOf zs)) :
    e = .returned (.tuple #[.bool true, .int .i64 0]) := by
  obtain ⟨r, c, T2, rfl, h⟩ := h
  have hw : (decide (1 ≤ (n : Int)) && decide ((n : Int) ≤ 3)) = true := by simp; omega
  rcases h with ⟨h, _⟩ | ⟨_, h, _⟩ | ⟨_, _, hG, _, hr⟩
  · rw [hw] at h; cases h
  · rw [hg] at h; cases h
  · obtain ⟨rfl, rfl⟩ := basis_again h1 h3 hs hf hF hG
    have := (hr rfl).2 hm
    rw [this]

theorem given_good {n : Int} {zss : List (List Int)} (h : givenE n zss = 0) {zs : List Int} (hm : zs ∈ zss) : goodB n zs = true := by
  have := (given_ok h).2.2.2
  rw [List.all_eq_true] at this
  exact this zs hm

theorem vec_mem {zss : List (List Int)} {T : Lat.St} (hT : Lat.CanonOf T (vecs zss)) {zs : List Int} (hm : zs ∈ zss) : Lat.Mem T (vecOf zs) := by
  refine (hT.span _).2 (Lat.InSpan.of_mem ?_)
  simp only [vecs, List.mem_reverse, List.mem_map]
  exact ⟨zs, hm, rfl⟩

theorem fits_within {n : Nat} {T : Lat.St} (hF : FitsS T) : withinB 511 (basisRows n T) = true := by
  unfold withinB
  rw [List.all_eq_true]; intro zs hm
  rw [List.all_eq_true]; intro z hz
  have : -511 ≤ z ∧ z ≤ 511 := by
    rcases basis_mem hm with rfl | rfl | rfl
    · exact cutV_le hF.1 z hz
    · exact cutV_le hF.2.1 z hz
    · exact cutV_le hF.2.2 z hz
  simp [inB]; omega

theorem basis_lens {n : Nat} {T : Lat.St} (h1 : 0 < n) (h3 : n ≤ 3) : ∀ zs ∈ basisRows n T, 0 < zs.length ∧ zs.length ≤ 3 := by
  intro zs hm
  have : zs.length = n := by rcases basis_mem hm with rfl | rfl | rfl <;> exact cutV_length _ h3
  omega

set_option maxRecDepth 100000 in
set_option maxHeartbeats 2000000 in
theorem shaped1 (x : Int) (v : Value) (cells : List Int) (w : World) (hv : IntsAt w v cells) (hlen : cells.length ≤ maxLen)
    (hx : ∀ w0, Calls Try.prog 37 #[.int .i64 x, .int .i64 3] w0 fun e w' => e = .returned (.int .i64 0) ∧ w' = w0) :
    Calls Try.prog 11 #[.int .i64 x, v] w fun e w' => e = .returned (.bool true) ∧ Below w.heap.size w w' := by
  have HR : Hid (Calls Try.prog 38 #[.int .i64 1, .int .i64 6, .int .i64 511, v] w fun e w' => RowsEnd w.heap.size 1 6 511 w' e ∧ Below w.heap.size w w') :=
    rows1 6 511 v cells w hv hlen (by omega) (by omega) (by omega) (by omega)
  have HX : Hid (∀ w0, Calls Try.prog 37 #[.int .i64 x, .int .i64 3] w0 fun e w' => e = .returned (.int .i64 0) ∧ w' = w0) := hx
  obtain ⟨a, cap, rfl⟩ := hv.slice
  clear hv hx hlen
  go_enter Try.func11, Try.ntmps11
  go_wp2_with fail
  refine (HX.out _).mono ?_
  rintro e w' ⟨rfl, hq'⟩; replace hq' := hq'.symm; subst hq'
  go_wp2_with fail
  refine HR.out.mono ?_
  rintro e w1 ⟨⟨out, bs, zss, rfl, hO, hk, hz⟩, hb1⟩
  have HO : Hid (OwnRows w1 w.heap.size out bs zss 1) := hO
  have hln := hO.len
  have h6 : zss.length ≤ 6 := by omega
  have HG0 : Hid (givenE 1 zss = 0) := hO.given (by omega) (by omega) h6 hz
  have HRA : Hid (RowsAt w1 out zss) := hO.rowsAt (by omega)
  have HL3 : Hid (∀ zs ∈ zss, zs.length ≤ 3) := hO.len3 (by omega)
  have HLn : Hid (∀ zs ∈ zss, zs.length = 1) := fun zs hm => by
    have := (good_le (given_good HG0.out hm)).2; omega
  obtain ⟨a1, cap1, hout⟩ := hO.out
  clear hz HR HX hO
  subst hout
  go_wp2_with fail
  refine (basis_any 1 _ zss _ HRA.out).mono ?_
  rintro e w2 ⟨⟨T, c, bo, hG, rfl, hbo⟩, hb2⟩
  have HG : Hid (Gen 1 zss T c) := hG
  have hs1 := hb1.size
  have hs2 := hb2.size
  have hB2 : Below w.heap.size w w2 := hb1.trans (hb2.mono hs1)
  clear hG
  by_cases hc : c = 0
  · subst hc
    obtain ⟨hT, hF⟩ := gen_ok HG.out
    have hS := hT.shape
    have hfl : Flat 1 T := flat_of hT HLn.out
    obtain ⟨P, hP⟩ := basis_can (n := 1) (by omega) (by omega) hS hfl
    rcases hbo with ⟨h, _⟩ | ⟨_, hnn, vs, hOw⟩
    · exact absurd rfl h
    have HOw : Hid (RowsOwn w2 w1.heap.size bo vs (basisRows 1 T) 1) := hOw
    have HBA : Hid (∀ w0, Below w2.heap.size w2 w0 → RowsAt w0 bo (basisRows 1 T)) := fun w0 h0 => (hOw.below h0 (Nat.le_refl _)).rowsAt (by omega)
    have HCA : Hid (∀ w0, Below w2.heap.size w2 w0 → Calls Try.prog 40 #[.int .i64 1, bo] w0 fun e w' => e = .returned (.bool true) ∧ Below w0.heap.size w0 w') := fun w0 h0 =>
      canonical_any 1 bo (basisRows 1 T) P w0 (HBA.out w0 h0) (by omega) (by omega) (basis_len _ _) hP
    have HWI : Hid (∀ w0, Below w2.heap.size w2 w0 → Calls Try.prog 41 #[bo, .int .i64 511] w0 fun e w' => e = .returned (.bool true) ∧ w' = w0) := fun w0 h0 => by
      have h := within_any 511 bo (basisRows 1 T) w0 (HBA.out w0 h0) (by omega) (by omega) (by have := basis_len 1 T; omega) (fun zs hm => (basis_lens (by omega) (by omega) zs hm).2)
      rw [fits_within hF] at h; exact h
    have HHA : Hid (∀ k x w0, k < zss.length → Below w2.heap.size w2 w0 → IntsAt w0 x (zss.getD k []) → Calls Try.prog 25 #[.int .i64 1, bo, x] w0 fun e w' => e = .returned (.tuple #[.bool true, .int .i64 0]) ∧ Below w0.heap.size w0 w') := fun k x w0 hk h0 hx => by
      refine (has_any 1 bo x (basisRows 1 T) (zss.getD k []) w0 (HBA.out w0 h0) hx).mono ?_
      rintro e w' ⟨he, hb⟩
      exact ⟨has_true (n := 1) he (by omega) (by omega) hS hfl hF (given_good HG0.out (getD_memR hk)) (vec_mem hT (getD_memR hk)), hb⟩
    have HBB : Hid (∀ w0, Below w2.heap.size w2 w0 → Calls Try.prog 17 #[.int .i64 1, bo] w0 fun e w' => (∃ c', e = .returned (.tuple #[c', .int .i64 0]) ∧ RowsAt w' c' (basisRows 1 T)) ∧ Below w0.heap.size w0 w') := fun w0 h0 => by
      refine (basis_any 1 bo (basisRows 1 T) w0 (HBA.out w0 h0)).mono ?_
      rintro e w' ⟨⟨T2, c2, o2, hG2, rfl, ho2⟩, hb⟩
      obtain ⟨rfl, rfl⟩ := basis_again (n := 1) (by omega) (by omega) hS hfl hF hG2
      rcases ho2 with ⟨h, _⟩ | ⟨_, _, vs2, hO2⟩
      · exact absurd rfl h
      · exact ⟨⟨o2, rfl, hO2.rowsAt (by show 0 < 1; omega)⟩, hb⟩
    have HSA : Hid (∀ w0 c', Below w2.heap.size w2 w0 → RowsAt w0 c' (basisRows 1 T) → Calls Try.prog 42 #[bo, c'] w0 fun e w' => e = .returned (.bool true) ∧ Below w0.heap.size w0 w') := fun w0 c' h0 hc' =>
      same_refl bo c' _ w0 (HBA.out w0 h0) hc' (by have := basis_len 1 T; omega) (basis_lens (by omega) (by omega))
    clear hT hF hS hfl hP hOw hnn
    go_wp2_with fail
    refine (HCA.out _ (Below.refl _ _)).mono ?_
    rintro e w3 ⟨rfl, hb3⟩
    go_wp2_with fail
    refine (HWI.out _ hb3).mono ?_
    rintro e w' ⟨rfl, hq'⟩; replace hq' := hq'.symm; subst hq'
    have hs3 := hb3.size
    have hB3 : Below w.heap.size w w3 := hB2.trans (hb3.mono (by omega))
    have hln6 : (bs.length : Int) ≤ 6 := by omega
    go_wp2
    go_loopg [11] (bs.length) (fun mm i wr => ∃ k : Nat, k + mm = bs.length ∧ i = .int .i64 k ∧ Below w3.heap.size w3 wr)
    case atStart => exact ⟨0, by omega, rfl, Below.refl _ _⟩
    case round =>
      obtain ⟨k, hkk, rfl, hbr⟩ := hrel
      have hsr := hbr.size
      have hbr2 : Below w2.heap.size w2 wr := hb3.trans (hbr.mono (by omega))
      have hBr : Below w.heap.size w wr := hB3.trans (hbr.mono (by omega))
      by_cases hlt : k < bs.length
      · have hO := HO.out
        obtain ⟨g, cap2, hv2, _, hcell⟩ := hO.cell (by omega)
        injection hv2 with hv3 _ hv4
        subst hv3
        have hb12 : Below w1.heap.size w1 wr := hb2.trans (hbr2.mono (by omega))
        have hcw : wr.cell? ⟨g, k, none⟩ = some (.slice (some ⟨bs.getD k 0, 0, none⟩) 1 1) := cell_below hb12 (hcell k hlt)
        have hrow := hO.row k hlt
        have hxi : IntsAt wr (.slice (some ⟨bs.getD k 0, 0, none⟩) 1 1) (zss.getD k []) := by
          refine IntsAt.below (w := w1) ?_ hb12
          refine Or.inr ⟨by omega, _, 0, 1, by rw [hrow.2.1], fun j hj => ?_⟩
          rw [Nat.zero_add]; exact hO.entry hlt (by omega)
        have HH : Hid (Calls Try.prog 25 #[.int .i64 1, bo, .slice (some ⟨bs.getD k 0, 0, none⟩) 1 1] wr fun e w' => e = .returned (.tuple #[.bool true, .int .i64 0]) ∧ Below wr.heap.size wr w') := HHA.out k _ wr (by omega) hbr2 hxi
        clear hO hcell hrow hxi hv4
        generalize bs.getD k 0 = bk at *
        go_wp2_with fail
        refine HH.out.mono ?_
        rintro e w4 ⟨rfl, hb4⟩
        go_wp2
        go_roundg (gk - 1)
        case measure => omega
        case rel => exact ⟨k + 1, by omega, by go_num, hbr.trans (hb4.mono hsr)⟩
      · go_wp2_with fail
        refine (HBB.out _ hbr2).mono ?_
        rintro e w4 ⟨⟨c', rfl, hc'⟩, hb4⟩
        have hs4 := hb4.size
        have HS2 : Hid (Calls Try.prog 42 #[bo, c'] w4 fun e w' => e = .returned (.bool true) ∧ Below w4.heap.size w4 w') := HSA.out w4 c' (hbr2.trans (hb4.mono (by omega))) hc'
        clear hc'
        go_wp2_with fail
        refine HS2.out.mono ?_
        rintro e w5 ⟨rfl, hb5⟩
        have he0 : ((0 : Int) == 0) = true := by simp
        go_wp2
        go_ret
        exact ⟨rfl, (hBr.trans (hb4.mono (by omega))).trans (hb5.mono (by omega))⟩
  · have hrf := gen_refused HG.out HG0.out hc
    have HF2 : Hid (Calls Try.prog 39 #[.slice a1 bs.length cap1, .int .i64 c] w2 fun x w' => x = .returned (.bool true) ∧ w' = w2) := by
      have := refused_any _ zss c w2 (HRA.out.below hb2) h6 HL3.out; rw [hrf] at this; exact this
    have hcn : (c != 0) = true := by simpa using hc
    clear hrf hc hbo
    go_wp2_with fail
    refine HF2.out.mono ?_
    rintro e w3 ⟨rfl, hq'⟩; replace hq' := hq'.symm; subst hq'
    go_wp2
    go_ret
    exact ⟨rfl, hB2⟩

set_option maxRecDepth 100000 in
set_option maxHeartbeats 2000000 in
theorem shaped2 (x : Int) (v : Value) (cells : List Int) (w : World) (hv : IntsAt w v cells) (hlen : cells.length ≤ maxLen)
    (hx : ∀ w0, Calls Try.prog 37 #[.int .i64 x, .int .i64 3] w0 fun e w' => e = .returned (.int .i64 1) ∧ w' = w0) :
    Calls Try.prog 11 #[.int .i64 x, v] w fun e w' => e = .returned (.bool true) ∧ Below w.heap.size w w' := by
  have HR : Hid (Calls Try.prog 38 #[.int .i64 2, .int .i64 6, .int .i64 511, v] w fun e w' => RowsEnd w.heap.size 2 6 511 w' e ∧ Below w.heap.size w w') :=
    rows2 6 511 v cells w hv hlen (by omega) (by omega) (by omega) (by omega)
  have HX : Hid (∀ w0, Calls Try.prog 37 #[.int .i64 x, .int .i64 3] w0 fun e w' => e = .returned (.int .i64 1) ∧ w' = w0) := hx
  obtain ⟨a, cap, rfl⟩ := hv.slice
  clear hv hx hlen
  go_enter Try.func11, Try.ntmps11
  go_wp2_with fail
  refine (HX.out _).mono ?_
  rintro e w' ⟨rfl, hq'⟩; replace hq' := hq'.symm; subst hq'
  go_wp2_with fail
  refine HR.out.mono ?_
  rintro e w1 ⟨⟨out, bs, zss, rfl, hO, hk, hz⟩, hb1⟩
  have HO : Hid (OwnRows w1 w.heap.size out bs zss 2) := hO
  have hln := hO.len
  have h6 : zss.length ≤ 6 := by omega
  have HG0 : Hid (givenE 2 zss = 0) := hO.given (by omega) (by omega) h6 hz
  have HRA : Hid (RowsAt w1 out zss) := hO.rowsAt (by omega)
  have HL3 : Hid (∀ zs ∈ zss, zs.length ≤ 3) := hO.len3 (by omega)
  have HLn : Hid (∀ zs ∈ zss, zs.length = 2) := fun zs hm => by
    have := (good_le (given_good HG0.out hm)).2; omega
  obtain ⟨a1, cap1, hout⟩ := hO.out
  clear hz HR HX hO
  subst hout
  go_wp2_with fail
  refine (basis_any 2 _ zss _ HRA.out).mono ?_
  rintro e w2 ⟨⟨T, c, bo, hG, rfl, hbo⟩, hb2⟩
  have HG : Hid (Gen 2 zss T c) := hG
  have hs1 := hb1.size
  have hs2 := hb2.size
  have hB2 : Below w.heap.size w w2 := hb1.trans (hb2.mono hs1)
  clear hG
  by_cases hc : c = 0
  · subst hc
    obtain ⟨hT, hF⟩ := gen_ok HG.out
    have hS := hT.shape
    have hfl : Flat 2 T := flat_of hT HLn.out
    obtain ⟨P, hP⟩ := basis_can (n := 2) (by omega) (by omega) hS hfl
    rcases hbo with ⟨h, _⟩ | ⟨_, hnn, vs, hOw⟩
    · exact absurd rfl h
    have HOw : Hid (RowsOwn w2 w1.heap.size bo vs (basisRows 2 T) 2) := hOw
    have HBA : Hid (∀ w0, Below w2.heap.size w2 w0 → RowsAt w0 bo (basisRows 2 T)) := fun w0 h0 => (hOw.below h0 (Nat.le_refl _)).rowsAt (by omega)
    have HCA : Hid (∀ w0, Below w2.heap.size w2 w0 → Calls Try.prog 40 #[.int .i64 2, bo] w0 fun e w' => e = .returned (.bool true) ∧ Below w0.heap.size w0 w') := fun w0 h0 =>
      canonical_any 2 bo (basisRows 2 T) P w0 (HBA.out w0 h0) (by omega) (by omega) (basis_len _ _) hP
    have HWI : Hid (∀ w0, Below w2.heap.size w2 w0 → Calls Try.prog 41 #[bo, .int .i64 511] w0 fun e w' => e = .returned (.bool true) ∧ w' = w0) := fun w0 h0 => by
      have h := within_any 511 bo (basisRows 2 T) w0 (HBA.out w0 h0) (by omega) (by omega) (by have := basis_len 2 T; omega) (fun zs hm => (basis_lens (by omega) (by omega) zs hm).2)
      rw [fits_within hF] at h; exact h
    have HHA : Hid (∀ k x w0, k < zss.length → Below w2.heap.size w2 w0 → IntsAt w0 x (zss.getD k []) → Calls Try.prog 25 #[.int .i64 2, bo, x] w0 fun e w' => e = .returned (.tuple #[.bool true, .int .i64 0]) ∧ Below w0.heap.size w0 w') := fun k x w0 hk h0 hx => by
      refine (has_any 2 bo x (basisRows 2 T) (zss.getD k []) w0 (HBA.out w0 h0) hx).mono ?_
      rintro e w' ⟨he, hb⟩
      exact ⟨has_true (n := 2) he (by omega) (by omega) hS hfl hF (given_good HG0.out (getD_memR hk)) (vec_mem hT (getD_memR hk)), hb⟩
    have HBB : Hid (∀ w0, Below w2.heap.size w2 w0 → Calls Try.prog 17 #[.int .i64 2, bo] w0 fun e w' => (∃ c', e = .returned (.tuple #[c', .int .i64 0]) ∧ RowsAt w' c' (basisRows 2 T)) ∧ Below w0.heap.size w0 w') := fun w0 h0 => by
      refine (basis_any 2 bo (basisRows 2 T) w0 (HBA.out w0 h0)).mono ?_
      rintro e w' ⟨⟨T2, c2, o2, hG2, rfl, ho2⟩, hb⟩
      obtain ⟨rfl, rfl⟩ := basis_again (n := 2) (by omega) (by omega) hS hfl hF hG2
      rcases ho2 with ⟨h, _⟩ | ⟨_, _, vs2, hO2⟩
      · exact absurd rfl h
      · exact ⟨⟨o2, rfl, hO2.rowsAt (by show 0 < 2; omega)⟩, hb⟩
    have HSA : Hid (∀ w0 c', Below w2.heap.size w2 w0 → RowsAt w0 c' (basisRows 2 T) → Calls Try.prog 42 #[bo, c'] w0 fun e w' => e = .returned (.bool true) ∧ Below w0.heap.size w0 w') := fun w0 c' h0 hc' =>
      same_refl bo c' _ w0 (HBA.out w0 h0) hc' (by have := basis_len 2 T; omega) (basis_lens (by omega) (by omega))
    clear hT hF hS hfl hP hOw hnn
    go_wp2_with fail
    refine (HCA.out _ (Below.refl _ _)).mono ?_
    rintro e w3 ⟨rfl, hb3⟩
    go_wp2_with fail
    refine (HWI.out _ hb3).mono ?_
    rintro e w' ⟨rfl, hq'⟩; replace hq' := hq'.symm; subst hq'
    have hs3 := hb3.size
    have hB3 : Below w.heap.size w w3 := hB2.trans (hb3.mono (by omega))
    have hln6 : (bs.length : Int) ≤ 6 := by omega
    go_wp2
    go_loopg [11] (bs.length) (fun mm i wr => ∃ k : Nat, k + mm = bs.length ∧ i = .int .i64 k ∧ Below w3.heap.size w3 wr)
    case atStart => exact ⟨0, by omega, rfl, Below.refl _ _⟩
    case round =>
      obtain ⟨k, hkk, rfl, hbr⟩ := hrel
      have hsr := hbr.size
      have hbr2 : Below w2.heap.size w2 wr := hb3.trans (hbr.mono (by omega))
      have hBr : Below w.heap.size w wr := hB3.trans (hbr.mono (by omega))
      by_cases hlt : k < bs.length
      · have hO := HO.out
        obtain ⟨g, cap2, hv2, _, hcell⟩ := hO.cell (by omega)
        injection hv2 with hv3 _ hv4
        subst hv3
        have hb12 : Below w1.heap.size w1 wr := hb2.trans (hbr2.mono (by omega))
        have hcw : wr.cell? ⟨g, k, none⟩ = some (.slice (some ⟨bs.getD k 0, 0, none⟩) 2 2) := cell_below hb12 (hcell k hlt)
        have hrow := hO.row k hlt
        have hxi : IntsAt wr (.slice (some ⟨bs.getD k 0, 0, none⟩) 2 2) (zss.getD k []) := by
          refine IntsAt.below (w := w1) ?_ hb12
          refine Or.inr ⟨by omega, _, 0, 2, by rw [hrow.2.1], fun j hj => ?_⟩
          rw [Nat.zero_add]; exact hO.entry hlt (by omega)
        have HH : Hid (Calls Try.prog 25 #[.int .i64 2, bo, .slice (some ⟨bs.getD k 0, 0, none⟩) 2 2] wr fun e w' => e = .returned (.tuple #[.bool true, .int .i64 0]) ∧ Below wr.heap.size wr w') := HHA.out k _ wr (by omega) hbr2 hxi
        clear hO hcell hrow hxi hv4
        generalize bs.getD k 0 = bk at *
        go_wp2_with fail
        refine HH.out.mono ?_
        rintro e w4 ⟨rfl, hb4⟩
        go_wp2
        go_roundg (gk - 1)
        case measure => omega
        case rel => exact ⟨k + 1, by omega, by go_num, hbr.trans (hb4.mono hsr)⟩
      · go_wp2_with fail
        refine (HBB.out _ hbr2).mono ?_
        rintro e w4 ⟨⟨c', rfl, hc'⟩, hb4⟩
        have hs4 := hb4.size
        have HS2 : Hid (Calls Try.prog 42 #[bo, c'] w4 fun e w' => e = .returned (.bool true) ∧ Below w4.heap.size w4 w') := HSA.out w4 c' (hbr2.trans (hb4.mono (by omega))) hc'
        clear hc'
        go_wp2_with fail
        refine HS2.out.mono ?_
        rintro e w5 ⟨rfl, hb5⟩
        have he0 : ((0 : Int) == 0) = true := by simp
        go_wp2
        go_ret
        exact ⟨rfl, (hBr.trans (hb4.mono (by omega))).trans (hb5.mono (by omega))⟩
  · have hrf := gen_refused HG.out HG0.out hc
    have HF2 : Hid (Calls Try.prog 39 #[.slice a1 bs.length cap1, .int .i64 c] w2 fun x w' => x = .returned (.bool true) ∧ w' = w2) := by
      have := refused_any _ zss c w2 (HRA.out.below hb2) h6 HL3.out; rw [hrf] at this; exact this
    have hcn : (c != 0) = true := by simpa using hc
    clear hrf hc hbo
    go_wp2_with fail
    refine HF2.out.mono ?_
    rintro e w3 ⟨rfl, hq'⟩; replace hq' := hq'.symm; subst hq'
    go_wp2
    go_ret
    exact ⟨rfl, hB2⟩

set_option maxRecDepth 100000 in
set_option maxHeartbeats 2000000 in
theorem shaped3 (x : Int) (v : Value) (cells : List Int) (w : World) (hv : IntsAt w v cells) (hlen : cells.length ≤ maxLen)
    (hx : ∀ w0, Calls Try.prog 37 #[.int .i64 x, .int .i64 3] w0 fun e w' => e = .returned (.int .i64 2) ∧ w' = w0) :
    Calls Try.prog 11 #[.int .i64 x, v] w fun e w' => e = .returned (.bool true) ∧ Below w.heap.size w w' := by
  have HR : Hid (Calls Try.prog 38 #[.int .i64 3, .int .i64 6, .int .i64 511, v] w fun e w' => RowsEnd w.heap.size 3 6 511 w' e ∧ Below w.heap.size w w') :=
    rows3 6 511 v cells w hv hlen (by omega) (by omega) (by omega) (by omega)
  have HX : Hid (∀ w0, Calls Try.prog 37 #[.int .i64 x, .int .i64 3] w0 fun e w' => e = .returned (.int .i64 2) ∧ w' = w0) := hx
  obtain ⟨a, cap, rfl⟩ := hv.slice
  clear hv hx hlen
  go_enter Try.func11, Try.ntmps11
  go_wp2_with fail
  refine (HX.out _).mono ?_
  rintro e w' ⟨rfl, hq'⟩; replace hq' := hq'.symm; subst hq'
  go_wp2_with fail
  refine HR.out.mono ?_
  rintro e w1 ⟨⟨out, bs, zss, rfl, hO, hk, hz⟩, hb1⟩
  have HO : Hid (OwnRows w1 w.heap.size out bs zss 3) := hO
  have hln := hO.len
  have h6 : zss.length ≤ 6 := by omega
  have HG0 : Hid (givenE 3 zss = 0) := hO.given (by omega) (by omega) h6 hz
  have HRA : Hid (RowsAt w1 out zss) := hO.rowsAt (by omega)
  have HL3 : Hid (∀ zs ∈ zss, zs.length ≤ 3) := hO.len3 (by omega)
  have HLn : Hid (∀ zs ∈ zss, zs.length = 3) := fun zs hm => by
    have := (good_le (given_good HG0.out hm)).2; omega
  obtain ⟨a1, cap1, hout⟩ := hO.out
  clear hz HR HX hO
  subst hout
  go_wp2_with fail
  refine (basis_any 3 _ zss _ HRA.out).mono ?_
  rintro e w2 ⟨⟨T, c, bo, hG, rfl, hbo⟩, hb2⟩
  have HG : Hid (Gen 3 zss T c) := hG
  have hs1 := hb1.size
  have hs2 := hb2.size
  have hB2 : Below w.heap.size w w2 := hb1.trans (hb2.mono hs1)
  clear hG
  by_cases hc : c = 0
  · subst hc
    obtain ⟨hT, hF⟩ := gen_ok HG.out
    have hS := hT.shape
    have hfl : Flat 3 T := flat_of hT HLn.out
    obtain ⟨P, hP⟩ := basis_can (n := 3) (by omega) (by omega) hS hfl
    rcases hbo with ⟨h, _⟩ | ⟨_, hnn, vs, hOw⟩
    · exact absurd rfl h
    have HOw : Hid (RowsOwn w2 w1.heap.size bo vs (basisRows 3 T) 3) := hOw
    have HBA : Hid (∀ w0, Below w2.heap.size w2 w0 → RowsAt w0 bo (basisRows 3 T)) := fun w0 h0 => (hOw.below h0 (Nat.le_refl _)).rowsAt (by omega)
    have HCA : Hid (∀ w0, Below w2.heap.size w2 w0 → Calls Try.prog 40 #[.int .i64 3, bo] w0 fun e w' => e = .returned (.bool true) ∧ Below w0.heap.size w0 w') := fun w0 h0 =>
      canonical_any 3 bo (basisRows 3 T) P w0 (HBA.out w0 h0) (by omega) (by omega) (basis_len _ _) hP
    have HWI : Hid (∀ w0, Below w2.heap.size w2 w0 → Calls Try.prog 41 #[bo, .int .i64 511] w0 fun e w' => e = .returned (.bool true) ∧ w' = w0) := fun w0 h0 => by
      have h := within_any 511 bo (basisRows 3 T) w0 (HBA.out w0 h0) (by omega) (by omega) (by have := basis_len 3 T; omega) (fun zs hm => (basis_lens (by omega) (by omega) zs hm).2)
      rw [fits_within hF] at h; exact h
    have HHA : Hid (∀ k x w0, k < zss.length → Below w2.heap.size w2 w0 → IntsAt w0 x (zss.getD k []) → Calls Try.prog 25 #[.int .i64 3, bo, x] w0 fun e w' => e = .returned (.tuple #[.bool true, .int .i64 0]) ∧ Below w0.heap.size w0 w') := fun k x w0 hk h0 hx => by
      refine (has_any 3 bo x (basisRows 3 T) (zss.getD k []) w0 (HBA.out w0 h0) hx).mono ?_
      rintro e w' ⟨he, hb⟩
      exact ⟨has_true (n := 3) he (by omega) (by omega) hS hfl hF (given_good HG0.out (getD_memR hk)) (vec_mem hT (getD_memR hk)), hb⟩
    have HBB : Hid (∀ w0, Below w2.heap.size w2 w0 → Calls Try.prog 17 #[.int .i64 3, bo] w0 fun e w' => (∃ c', e = .returned (.tuple #[c', .int .i64 0]) ∧ RowsAt w' c' (basisRows 3 T)) ∧ Below w0.heap.size w0 w') := fun w0 h0 => by
      refine (basis_any 3 bo (basisRows 3 T) w0 (HBA.out w0 h0)).mono ?_
      rintro e w' ⟨⟨T2, c2, o2, hG2, rfl, ho2⟩, hb⟩
      obtain ⟨rfl, rfl⟩ := basis_again (n := 3) (by omega) (by omega) hS hfl hF hG2
      rcases ho2 with ⟨h, _⟩ | ⟨_, _, vs2, hO2⟩
      · exact absurd rfl h
      · exact ⟨⟨o2, rfl, hO2.rowsAt (by show 0 < 3; omega)⟩, hb⟩
    have HSA : Hid (∀ w0 c', Below w2.heap.size w2 w0 → RowsAt w0 c' (basisRows 3 T) → Calls Try.prog 42 #[bo, c'] w0 fun e w' => e = .returned (.bool true) ∧ Below w0.heap.size w0 w') := fun w0 c' h0 hc' =>
      same_refl bo c' _ w0 (HBA.out w0 h0) hc' (by have := basis_len 3 T; omega) (basis_lens (by omega) (by omega))
    clear hT hF hS hfl hP hOw hnn
    go_wp2_with fail
    refine (HCA.out _ (Below.refl _ _)).mono ?_
    rintro e w3 ⟨rfl, hb3⟩
    go_wp2_with fail
    refine (HWI.out _ hb3).mono ?_
    rintro e w' ⟨rfl, hq'⟩; replace hq' := hq'.symm; subst hq'
    have hs3 := hb3.size
    have hB3 : Below w.heap.size w w3 := hB2.trans (hb3.mono (by omega))
    have hln6 : (bs.length : Int) ≤ 6 := by omega
    go_wp2
    go_loopg [11] (bs.length) (fun mm i wr => ∃ k : Nat, k + mm = bs.length ∧ i = .int .i64 k ∧ Below w3.heap.size w3 wr)
    case atStart => exact ⟨0, by omega, rfl, Below.refl _ _⟩
    case round =>
      obtain ⟨k, hkk, rfl, hbr⟩ := hrel
      have hsr := hbr.size
      have hbr2 : Below w2.heap.size w2 wr := hb3.trans (hbr.mono (by omega))
      have hBr : Below w.heap.size w wr := hB3.trans (hbr.mono (by omega))
      by_cases hlt : k < bs.length
      · have hO := HO.out
        obtain ⟨g, cap2, hv2, _, hcell⟩ := hO.cell (by omega)
        injection hv2 with hv3 _ hv4
        subst hv3
        have hb12 : Below w1.heap.size w1 wr := hb2.trans (hbr2.mono (by omega))
        have hcw : wr.cell? ⟨g, k, none⟩ = some (.slice (some ⟨bs.getD k 0, 0, none⟩) 3 3) := cell_below hb12 (hcell k hlt)
        have hrow := hO.row k hlt
        have hxi : IntsAt wr (.slice (some ⟨bs.getD k 0, 0, none⟩) 3 3) (zss.getD k []) := by
          refine IntsAt.below (w := w1) ?_ hb12
          refine Or.inr ⟨by omega, _, 0, 3, by rw [hrow.2.1], fun j hj => ?_⟩
          rw [Nat.zero_add]; exact hO.entry hlt (by omega)
        have HH : Hid (Calls Try.prog 25 #[.int .i64 3, bo, .slice (some ⟨bs.getD k 0, 0, none⟩) 3 3] wr fun e w' => e = .returned (.tuple #[.bool true, .int .i64 0]) ∧ Below wr.heap.size wr w') := HHA.out k _ wr (by omega) hbr2 hxi
        clear hO hcell hrow hxi hv4
        generalize bs.getD k 0 = bk at *
        go_wp2_with fail
        refine HH.out.mono ?_
        rintro e w4 ⟨rfl, hb4⟩
        go_wp2
        go_roundg (gk - 1)
        case measure => omega
        case rel => exact ⟨k + 1, by omega, by go_num, hbr.trans (hb4.mono hsr)⟩
      · go_wp2_with fail
        refine (HBB.out _ hbr2).mono ?_
        rintro e w4 ⟨⟨c', rfl, hc'⟩, hb4⟩
        have hs4 := hb4.size
        have HS2 : Hid (Calls Try.prog 42 #[bo, c'] w4 fun e w' => e = .returned (.bool true) ∧ Below w4.heap.size w4 w') := HSA.out w4 c' (hbr2.trans (hb4.mono (by omega))) hc'
        clear hc'
        go_wp2_with fail
        refine HS2.out.mono ?_
        rintro e w5 ⟨rfl, hb5⟩
        have he0 : ((0 : Int) == 0) = true := by simp
        go_wp2
        go_ret
        exact ⟨rfl, (hBr.trans (hb4.mono (by omega))).trans (hb5.mono (by omega))⟩
  · have hrf := gen_refused HG.out HG0.out hc
    have HF2 : Hid (Calls Try.prog 39 #[.slice a1 bs.length cap1, .int .i64 c] w2 fun x w' => x = .returned (.bool true) ∧ w' = w2) := by
      have := refused_any _ zss c w2 (HRA.out.below hb2) h6 HL3.out; rw [hrf] at this; exact this
    have hcn : (c != 0) = true := by simpa using hc
    clear hrf hc hbo
    go_wp2_with fail
    refine HF2.out.mono ?_
    rintro e w3 ⟨rfl, hq'⟩; replace hq' := hq'.symm; subst hq'
    go_wp2
    go_ret
    exact ⟨rfl, hB2⟩

end Go.Proofs.Ytmlcblnndihjoaa
