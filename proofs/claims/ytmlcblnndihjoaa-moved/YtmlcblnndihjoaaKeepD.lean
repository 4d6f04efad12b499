import Derived.Test.YtmlcblnndihjoaaKeepC
namespace Go.Proofs.Ytmlcblnndihjoaa
open Go.RowKit

theorem OwnRows.out {w : World} {B : Nat} {v : Value} {bs : List Nat} {zss : List (List Int)} {n : Nat} (h : OwnRows w B v bs zss n) : ∃ a cap, v = .slice a bs.length cap := by
  rcases h.own.2 with ⟨h1, h2⟩ | ⟨g, cap, cur, h1, _⟩
  · exact ⟨none, 0, by rw [h1, h2]⟩
  · exact ⟨_, cap, h1⟩

theorem OwnRows.cell {w : World} {B : Nat} {v : Value} {bs : List Nat} {zss : List (List Int)} {n : Nat} (h : OwnRows w B v bs zss n) (h0 : 0 < bs.length) :
    ∃ g cap, v = .slice (some ⟨g, 0, none⟩) bs.length cap ∧ B ≤ g ∧ ∀ i, i < bs.length → w.cell? ⟨g, i, none⟩ = some (.slice (some ⟨bs.getD i 0, 0, none⟩) n n) := by
  rcases h.own.2 with ⟨h1, h2⟩ | ⟨g, cap, cur, h1, h2, h3, h4, h5, h6, h7⟩
  · omega
  · refine ⟨g, cap, h1, h2, fun i hi => ?_⟩
    have e : cur.toList[i]? = some (Value.slice (some ⟨bs.getD i 0, 0, none⟩) n n) := by
      have := congrArg (fun l => l[i]?) h7
      simp only [List.getElem?_take] at this
      rw [if_pos (by omega)] at this
      rw [this, List.getElem?_map, List.getElem?_eq_getElem hi]
      simp [List.getD_eq_getElem?_getD, List.getElem?_eq_getElem hi]
    rw [← e]
    simp [World.cell?, h3]

theorem OwnRows.entry {w : World} {B : Nat} {v : Value} {bs : List Nat} {zss : List (List Int)} {n : Nat} (h : OwnRows w B v bs zss n) {i j : Nat} (hi : i < bs.length) (hj : j < n) :
    w.cell? ⟨bs.getD i 0, j, none⟩ = some (.int .i64 ((zss.getD i []).getD j 0)) := by
  obtain ⟨r1, r2, _⟩ := h.row i hi
  rw [r1.cell j]
  have hj' : j < (zss.getD i []).length := by omega
  rw [List.getElem?_toArray, List.getElem?_map, List.getElem?_eq_getElem hj', List.getD_eq_getElem?_getD (l := zss.getD i []), List.getElem?_eq_getElem hj']
  rfl

theorem OwnRows.rowsAt {w : World} {B : Nat} {v : Value} {bs : List Nat} {zss : List (List Int)} {n : Nat} (h : OwnRows w B v bs zss n) (hn : 0 < n) : RowsAt w v zss := by
  have hl := h.len
  by_cases h0 : 0 < bs.length
  · obtain ⟨g, cap, rfl, _, hc⟩ := h.cell h0
    refine Or.inr ⟨by omega, g, 0, cap, by rw [hl], fun i hi => ⟨_, by rw [Nat.zero_add]; exact hc i (by omega), ?_⟩⟩
    have hr := h.row i (by omega)
    refine Or.inr ⟨by omega, _, 0, n, by rw [hr.2.1], fun j hj => ?_⟩
    rw [Nat.zero_add]
    exact h.entry (by omega) (by omega)
  · obtain ⟨a, cap, hv⟩ := h.out
    have e : bs.length = 0 := by omega
    rw [e] at hv
    exact Or.inl ⟨List.length_eq_zero_iff.1 (by omega), a, cap, hv⟩

/-- rows of the width, no entry beyond 511: nothing to refuse ahead of the basis -/
theorem OwnRows.given {w : World} {B : Nat} {v : Value} {bs : List Nat} {zss : List (List Int)} {n : Nat} (h : OwnRows w B v bs zss n) (h1 : 1 ≤ n) (h3 : n ≤ 3) (h6 : zss.length ≤ 6)
    (hz : ∀ zs ∈ zss, ∀ z ∈ zs, -511 ≤ z ∧ z ≤ 511) : givenE (n : Int) zss = 0 := by
  have hg : givenB (n : Int) zss = true := by
    unfold givenB
    rw [decide_eq_true h6, Bool.true_and, List.all_eq_true]
    intro zs hm
    obtain ⟨i, hi, rfl⟩ := List.getElem_of_mem hm
    have hr := h.row i (by have := h.len; omega)
    have e : zss.getD i [] = zss[i] := by simp [List.getD_eq_getElem?_getD, List.getElem?_eq_getElem hi]
    rw [e] at hr
    unfold goodB
    rw [hr.2.1, decide_eq_true rfl, Bool.true_and, List.all_eq_true]
    intro z hzm
    have := hz _ hm z hzm
    simp; omega
  unfold givenE
  rw [hg, if_pos (by simp; omega)]; rfl

theorem OwnRows.len3 {w : World} {B : Nat} {v : Value} {bs : List Nat} {zss : List (List Int)} {n : Nat} (h : OwnRows w B v bs zss n) (h3 : n ≤ 3) : ∀ zs ∈ zss, zs.length ≤ 3 := by
  intro zs hm
  obtain ⟨i, hi, rfl⟩ := List.getElem_of_mem hm
  have hr := h.row i (by have := h.len; omega)
  have e : zss.getD i [] = zss[i] := by simp [List.getD_eq_getElem?_getD, List.getElem?_eq_getElem hi]
  rw [e] at hr
  omega

theorem within_le {most : Int} {zss : List (List Int)} (h : withinB most zss = true) (m0 : 0 ≤ most) : ∀ g ∈ vecs zss, Lat.Le most g := by
  intro g hg
  simp only [vecs, List.mem_reverse, List.mem_map] at hg
  obtain ⟨zs, hz, rfl⟩ := hg
  unfold withinB at h
  rw [List.all_eq_true] at h
  have h2 := h zs hz
  have e : ∀ k, -most ≤ zs.getD k 0 ∧ zs.getD k 0 ≤ most := fun k => by
    have := getD_mem (k := k) h2 (by simp [inB]; omega)
    simp [inB] at this; simpa using this
  exact ⟨e 0, e 1, e 2⟩

/-- what is refused for its size is not light -/
theorem gen_refused {n : Int} {zss : List (List Int)} {T : Lat.St} {c : Int} (h : Gen n zss T c) (hg : givenE n zss = 0) (hc : c ≠ 0) : refB zss c = true := by
  rcases h with ⟨h1, _⟩ | ⟨_, T', hT, ⟨h3, hf⟩ | ⟨h0, _⟩⟩
  · rw [hg] at h1; exact absurd h1 hc
  · cases hw : withinB 4 zss
    · simp [refB, h3, hw]
    · exact absurd (Lat.light_fits hT (within_le hw (by omega))) hf
  · exact absurd h0 hc

/-- without an error there is the canonical basis, and it fits -/
theorem gen_ok {n : Int} {zss : List (List Int)} {T : Lat.St} (h : Gen n zss T 0) : Lat.CanonOf T (vecs zss) ∧ FitsS T := by
  rcases h with ⟨_, h1⟩ | ⟨_, T', hT, ⟨h3, _⟩ | ⟨_, rfl, hf⟩⟩
  · exact absurd rfl h1
  · omega
  · exact ⟨hT, hf⟩


/-- 1 rows of width 1: their index is their determinant's size -/
theorem vol_of1 {zss : List (List Int)} {T : Lat.St} (hl : zss.length = 1) (h : Lat.CanonOf T (vecs zss)) : vecs zss = [vecOf (zss.getD 0 [])] ∧ (idxOf 1 T = (vecOf (zss.getD 0 [])).x ∨ idxOf 1 T = -((vecOf (zss.getD 0 [])).x)) := by
  have e : vecs zss = [vecOf (zss.getD 0 [])] := by
    rcases zss with _ | ⟨z0, _ | ⟨z1, _ | ⟨z2, _ | ⟨z3, zs⟩⟩⟩⟩ <;> simp [vecs] at hl ⊢
  refine ⟨e, ?_⟩
  rw [e] at h
  exact Lat.vol1 h

set_option maxHeartbeats 1000000 in
/-- behind 'rows': the rest of Volumes, the vectors being there, at width 1 -/
theorem volumes1 (x : Int) (v : Value) (cells : List Int) (w : World) (hv : IntsAt w v cells) (hlen : cells.length ≤ maxLen)
    (hx : ∀ w0, Calls Try.prog 37 #[.int .i64 x, .int .i64 3] w0 fun e w' => e = .returned (.int .i64 0) ∧ w' = w0) :
    Calls Try.prog 13 #[.int .i64 x, v] w fun e w' => e = .returned (.bool true) ∧ Below w.heap.size w w' := by
  have HR : Hid (Calls Try.prog 38 #[.int .i64 1, .int .i64 1, .int .i64 511, v] w fun e w' => RowsEnd w.heap.size 1 1 511 w' e ∧ Below w.heap.size w w') :=
    rows1 1 511 v cells w hv hlen (by omega) (by omega) (by omega) (by omega)
  have HX : Hid (∀ w0, Calls Try.prog 37 #[.int .i64 x, .int .i64 3] w0 fun e w' => e = .returned (.int .i64 0) ∧ w' = w0) := hx
  obtain ⟨a, cap, rfl⟩ := hv.slice
  clear hv hx hlen
  go_enter Try.func13, Try.ntmps13
  go_wp2_with fail
  refine (HX.out _).mono ?_
  rintro e w' ⟨rfl, hq'⟩; replace hq' := hq'.symm; subst hq'
  go_wp2_with fail
  refine HR.out.mono ?_
  rintro e w1 ⟨⟨out, bs, zss, rfl, hO, hk, hz⟩, hb1⟩
  have HO : Hid (OwnRows w1 w.heap.size out bs zss 1) := hO
  have HZ : Hid (∀ zs ∈ zss, ∀ z ∈ zs, -511 ≤ z ∧ z ≤ 511) := hz
  have hln := hO.len
  clear hz HR HX
  by_cases hsh : bs.length < 1
  · obtain ⟨a1, cap1, rfl⟩ := hO.out
    clear hO hln
    have hsh' : (bs.length : Int) < 1 := by omega
    go_wp2
    go_ret
    exact ⟨rfl, hb1⟩
  · have hbl : bs.length = 1 := by omega
    obtain ⟨g, cap1, hout, hgB, hcell⟩ := hO.cell (by omega)
    rw [hbl] at hout
    have hg0 : givenE 1 zss = 0 := hO.given (by omega) (by omega) (by omega) HZ.out
    have HI : Hid (∀ w0, Below w1.heap.size w1 w0 → Calls Try.prog 21 #[.int .i64 1, out] w0 fun e w' => IdxEnd 1 zss e ∧ Below w0.heap.size w0 w') := fun w0 h0 =>
      index_any 1 out zss w0 ((hO.below h0 (Nat.le_refl _)).rowsAt (by omega))
    have HF : Hid (∀ w0 c, Below w1.heap.size w1 w0 → Calls Try.prog 39 #[out, .int .i64 c] w0 fun x w' => x = .returned (.bool (refB zss c)) ∧ w' = w0) := fun w0 c h0 =>
      refused_any out zss c w0 ((hO.below h0 (Nat.le_refl _)).rowsAt (by omega)) (by omega) (hO.len3 (by omega))
    have HD : Hid (∀ (T : Lat.St) w0, Below w1.heap.size w1 w0 → Lat.CanonOf T (vecs zss) → ∃ d, (idxOf 1 T = d ∨ idxOf 1 T = -d) ∧ -1000000000 ≤ d ∧ d ≤ 1000000000 ∧ Calls Try.prog 43 #[.int .i64 1, out] w0 fun e w' => e = .returned (.int .i64 d) ∧ Below w0.heap.size w0 w') := fun T w0 h0 hT => by
      have hO := hO.below h0 (Nat.le_refl _)
      obtain ⟨g, cap1, hout, hgB, hcell⟩ := hO.cell (by omega)
      rw [hbl] at hout
      obtain ⟨hvs, hvol⟩ := vol_of1 (by omega) hT
      have hle : ∀ u ∈ vecs zss, Lat.Le 511 u := by
        refine within_le (most := 511) ?_ (by omega)
        unfold withinB
        rw [List.all_eq_true]; intro zs hm
        rw [List.all_eq_true]; intro z hzm
        have := HZ.out zs hm z hzm
        simp [inB]; omega
      refine ⟨_, hvol, ?_, ?_, ?_⟩
      · have := (hle (vecOf (zss.getD 0 [])) (by rw [hvs]; simp)).1; omega
      · have := (hle (vecOf (zss.getD 0 [])) (by rw [hvs]; simp)).1; omega
      · rw [hout]
        exact det1_any g cap1 (bs.getD 0 0) (vecOf (zss.getD 0 [])) w0 (hcell 0 (by omega)) (hO.entry (i := 0) (j := 0) (by omega) (by omega))
    subst hout
    clear hO hcell
    go_wp2_with fail
    refine (HI.out _ (Below.refl _ _)).mono ?_
    rintro e w2 ⟨⟨T, c, hG, rfl⟩, hb2⟩
    have HG : Hid (Gen 1 zss T c) := hG
    clear hG
    have hbb : Below w.heap.size w w2 := hb1.trans (hb2.mono hb1.size)
    by_cases hc : c = 0
    · subst hc
      obtain ⟨hT, hF⟩ := gen_ok HG.out
      obtain ⟨d, hd, hd1, hd2, hcall⟩ := HD.out T w2 hb2 hT
      have HC : Hid (Calls Try.prog 43 #[.int .i64 1, .slice (some ⟨g, 0, none⟩) 1 cap1] w2 fun e w' => e = .returned (.int .i64 d) ∧ Below w2.heap.size w2 w') := hcall
      clear hT hF hcall
      rw [if_pos rfl]
      generalize idxOf 1 T = m at *
      rcases hd with rfl | hd
      · go_wp2_with fail
        refine HC.out.mono ?_
        rintro e w3 ⟨rfl, hb3⟩
        have hee : (m == m) = true := by simp
        go_wp2
        go_ret
        exact ⟨rfl, hbb.trans (hb3.mono hbb.size)⟩
      · by_cases hz0 : d = 0
        · have hm0 : m = 0 := by omega
          have hee : (m == d) = true := by simp [hm0, hz0]
          clear hd hm0 hz0
          go_wp2_with fail
          refine HC.out.mono ?_
          rintro e w3 ⟨rfl, hb3⟩
          go_wp2
          go_ret
          exact ⟨rfl, hbb.trans (hb3.mono hbb.size)⟩
        · have hee : (m == d) = false := by simp; omega
          have hee2 : (m == -d) = true := by simp [hd]
          clear hd hz0
          go_wp2_with fail
          refine HC.out.mono ?_
          rintro e w3 ⟨rfl, hb3⟩
          go_wp2
          go_ret
          exact ⟨rfl, hbb.trans (hb3.mono hbb.size)⟩
    · have hrf := gen_refused HG.out hg0 hc
      have HF2 : Hid (Calls Try.prog 39 #[.slice (some ⟨g, 0, none⟩) 1 cap1, .int .i64 c] w2 fun x w' => x = .returned (.bool true) ∧ w' = w2) := by
        have := HF.out w2 c hb2; rw [hrf] at this; exact this
      have hcn : (c != 0) = true := by simpa using hc
      rw [if_neg hc]
      clear hrf hc
      go_wp2_with fail
      refine HF2.out.mono ?_
      rintro e w3 ⟨rfl, hq'⟩; replace hq' := hq'.symm; subst hq'
      go_wp2
      go_ret
      exact ⟨rfl, hbb⟩

/-- 2 rows of width 2: their index is their determinant's size -/
theorem vol_of2 {zss : List (List Int)} {T : Lat.St} (hl : zss.length = 2) (h : Lat.CanonOf T (vecs zss)) : vecs zss = [vecOf (zss.getD 1 []), vecOf (zss.getD 0 [])] ∧ (idxOf 2 T = Lat.mxy (vecOf (zss.getD 0 [])) (vecOf (zss.getD 1 [])) ∨ idxOf 2 T = -(Lat.mxy (vecOf (zss.getD 0 [])) (vecOf (zss.getD 1 [])))) := by
  have e : vecs zss = [vecOf (zss.getD 1 []), vecOf (zss.getD 0 [])] := by
    rcases zss with _ | ⟨z0, _ | ⟨z1, _ | ⟨z2, _ | ⟨z3, zs⟩⟩⟩⟩ <;> simp [vecs] at hl ⊢
  refine ⟨e, ?_⟩
  rw [e] at h
  exact Lat.vol2 h

set_option maxHeartbeats 1000000 in
/-- behind 'rows': the rest of Volumes, the vectors being there, at width 2 -/
theorem volumes2 (x : Int) (v : Value) (cells : List Int) (w : World) (hv : IntsAt w v cells) (hlen : cells.length ≤ maxLen)
    (hx : ∀ w0, Calls Try.prog 37 #[.int .i64 x, .int .i64 3] w0 fun e w' => e = .returned (.int .i64 1) ∧ w' = w0) :
    Calls Try.prog 13 #[.int .i64 x, v] w fun e w' => e = .returned (.bool true) ∧ Below w.heap.size w w' := by
  have HR : Hid (Calls Try.prog 38 #[.int .i64 2, .int .i64 2, .int .i64 511, v] w fun e w' => RowsEnd w.heap.size 2 2 511 w' e ∧ Below w.heap.size w w') :=
    rows2 2 511 v cells w hv hlen (by omega) (by omega) (by omega) (by omega)
  have HX : Hid (∀ w0, Calls Try.prog 37 #[.int .i64 x, .int .i64 3] w0 fun e w' => e = .returned (.int .i64 1) ∧ w' = w0) := hx
  obtain ⟨a, cap, rfl⟩ := hv.slice
  clear hv hx hlen
  go_enter Try.func13, Try.ntmps13
  go_wp2_with fail
  refine (HX.out _).mono ?_
  rintro e w' ⟨rfl, hq'⟩; replace hq' := hq'.symm; subst hq'
  go_wp2_with fail
  refine HR.out.mono ?_
  rintro e w1 ⟨⟨out, bs, zss, rfl, hO, hk, hz⟩, hb1⟩
  have HO : Hid (OwnRows w1 w.heap.size out bs zss 2) := hO
  have HZ : Hid (∀ zs ∈ zss, ∀ z ∈ zs, -511 ≤ z ∧ z ≤ 511) := hz
  have hln := hO.len
  clear hz HR HX
  by_cases hsh : bs.length < 2
  · obtain ⟨a1, cap1, rfl⟩ := hO.out
    clear hO hln
    have hsh' : (bs.length : Int) < 2 := by omega
    go_wp2
    go_ret
    exact ⟨rfl, hb1⟩
  · have hbl : bs.length = 2 := by omega
    obtain ⟨g, cap1, hout, hgB, hcell⟩ := hO.cell (by omega)
    rw [hbl] at hout
    have hg0 : givenE 2 zss = 0 := hO.given (by omega) (by omega) (by omega) HZ.out
    have HI : Hid (∀ w0, Below w1.heap.size w1 w0 → Calls Try.prog 21 #[.int .i64 2, out] w0 fun e w' => IdxEnd 2 zss e ∧ Below w0.heap.size w0 w') := fun w0 h0 =>
      index_any 2 out zss w0 ((hO.below h0 (Nat.le_refl _)).rowsAt (by omega))
    have HF : Hid (∀ w0 c, Below w1.heap.size w1 w0 → Calls Try.prog 39 #[out, .int .i64 c] w0 fun x w' => x = .returned (.bool (refB zss c)) ∧ w' = w0) := fun w0 c h0 =>
      refused_any out zss c w0 ((hO.below h0 (Nat.le_refl _)).rowsAt (by omega)) (by omega) (hO.len3 (by omega))
    have HD : Hid (∀ (T : Lat.St) w0, Below w1.heap.size w1 w0 → Lat.CanonOf T (vecs zss) → ∃ d, (idxOf 2 T = d ∨ idxOf 2 T = -d) ∧ -1000000000 ≤ d ∧ d ≤ 1000000000 ∧ Calls Try.prog 43 #[.int .i64 2, out] w0 fun e w' => e = .returned (.int .i64 d) ∧ Below w0.heap.size w0 w') := fun T w0 h0 hT => by
      have hO := hO.below h0 (Nat.le_refl _)
      obtain ⟨g, cap1, hout, hgB, hcell⟩ := hO.cell (by omega)
      rw [hbl] at hout
      obtain ⟨hvs, hvol⟩ := vol_of2 (by omega) hT
      have hle : ∀ u ∈ vecs zss, Lat.Le 511 u := by
        refine within_le (most := 511) ?_ (by omega)
        unfold withinB
        rw [List.all_eq_true]; intro zs hm
        rw [List.all_eq_true]; intro z hzm
        have := HZ.out zs hm z hzm
        simp [inB]; omega
      refine ⟨_, hvol, ?_, ?_, ?_⟩
      · have b := Lat.two_mul_le (hle (vecOf (zss.getD 0 [])) (by rw [hvs]; simp)).1 (hle (vecOf (zss.getD 1 [])) (by rw [hvs]; simp)).2.1 (hle (vecOf (zss.getD 0 [])) (by rw [hvs]; simp)).2.1 (hle (vecOf (zss.getD 1 [])) (by rw [hvs]; simp)).1; unfold Lat.mxy; omega
      · have b := Lat.two_mul_le (hle (vecOf (zss.getD 0 [])) (by rw [hvs]; simp)).1 (hle (vecOf (zss.getD 1 [])) (by rw [hvs]; simp)).2.1 (hle (vecOf (zss.getD 0 [])) (by rw [hvs]; simp)).2.1 (hle (vecOf (zss.getD 1 [])) (by rw [hvs]; simp)).1; unfold Lat.mxy; omega
      · rw [hout]
        exact det2_any g cap1 (bs.getD 0 0) (bs.getD 1 0) (vecOf (zss.getD 0 [])) (vecOf (zss.getD 1 [])) w0 (hcell 0 (by omega)) (hO.entry (i := 0) (j := 0) (by omega) (by omega)) (hO.entry (i := 0) (j := 1) (by omega) (by omega)) (hcell 1 (by omega)) (hO.entry (i := 1) (j := 0) (by omega) (by omega)) (hO.entry (i := 1) (j := 1) (by omega) (by omega)) (hle (vecOf (zss.getD 0 [])) (by rw [hvs]; simp)) (hle (vecOf (zss.getD 1 [])) (by rw [hvs]; simp))
    subst hout
    clear hO hcell
    go_wp2_with fail
    refine (HI.out _ (Below.refl _ _)).mono ?_
    rintro e w2 ⟨⟨T, c, hG, rfl⟩, hb2⟩
    have HG : Hid (Gen 2 zss T c) := hG
    clear hG
    have hbb : Below w.heap.size w w2 := hb1.trans (hb2.mono hb1.size)
    by_cases hc : c = 0
    · subst hc
      obtain ⟨hT, hF⟩ := gen_ok HG.out
      obtain ⟨d, hd, hd1, hd2, hcall⟩ := HD.out T w2 hb2 hT
      have HC : Hid (Calls Try.prog 43 #[.int .i64 2, .slice (some ⟨g, 0, none⟩) 2 cap1] w2 fun e w' => e = .returned (.int .i64 d) ∧ Below w2.heap.size w2 w') := hcall
      clear hT hF hcall
      rw [if_pos rfl]
      generalize idxOf 2 T = m at *
      rcases hd with rfl | hd
      · go_wp2_with fail
        refine HC.out.mono ?_
        rintro e w3 ⟨rfl, hb3⟩
        have hee : (m == m) = true := by simp
        go_wp2
        go_ret
        exact ⟨rfl, hbb.trans (hb3.mono hbb.size)⟩
      · by_cases hz0 : d = 0
        · have hm0 : m = 0 := by omega
          have hee : (m == d) = true := by simp [hm0, hz0]
          clear hd hm0 hz0
          go_wp2_with fail
          refine HC.out.mono ?_
          rintro e w3 ⟨rfl, hb3⟩
          go_wp2
          go_ret
          exact ⟨rfl, hbb.trans (hb3.mono hbb.size)⟩
        · have hee : (m == d) = false := by simp; omega
          have hee2 : (m == -d) = true := by simp [hd]
          clear hd hz0
          go_wp2_with fail
          refine HC.out.mono ?_
          rintro e w3 ⟨rfl, hb3⟩
          go_wp2
          go_ret
          exact ⟨rfl, hbb.trans (hb3.mono hbb.size)⟩
    · have hrf := gen_refused HG.out hg0 hc
      have HF2 : Hid (Calls Try.prog 39 #[.slice (some ⟨g, 0, none⟩) 2 cap1, .int .i64 c] w2 fun x w' => x = .returned (.bool true) ∧ w' = w2) := by
        have := HF.out w2 c hb2; rw [hrf] at this; exact this
      have hcn : (c != 0) = true := by simpa using hc
      rw [if_neg hc]
      clear hrf hc
      go_wp2_with fail
      refine HF2.out.mono ?_
      rintro e w3 ⟨rfl, hq'⟩; replace hq' := hq'.symm; subst hq'
      go_wp2
      go_ret
      exact ⟨rfl, hbb⟩

/-- 3 rows of width 3: their index is their determinant's size -/
theorem vol_of3 {zss : List (List Int)} {T : Lat.St} (hl : zss.length = 3) (h : Lat.CanonOf T (vecs zss)) : vecs zss = [vecOf (zss.getD 2 []), vecOf (zss.getD 1 []), vecOf (zss.getD 0 [])] ∧ (idxOf 3 T = Lat.det (vecOf (zss.getD 0 [])) (vecOf (zss.getD 1 [])) (vecOf (zss.getD 2 [])) ∨ idxOf 3 T = -(Lat.det (vecOf (zss.getD 0 [])) (vecOf (zss.getD 1 [])) (vecOf (zss.getD 2 [])))) := by
  have e : vecs zss = [vecOf (zss.getD 2 []), vecOf (zss.getD 1 []), vecOf (zss.getD 0 [])] := by
    rcases zss with _ | ⟨z0, _ | ⟨z1, _ | ⟨z2, _ | ⟨z3, zs⟩⟩⟩⟩ <;> simp [vecs] at hl ⊢
  refine ⟨e, ?_⟩
  rw [e] at h
  exact Lat.vol3 h

set_option maxHeartbeats 1000000 in
/-- behind 'rows': the rest of Volumes, the vectors being there, at width 3 -/
theorem volumes3 (x : Int) (v : Value) (cells : List Int) (w : World) (hv : IntsAt w v cells) (hlen : cells.length ≤ maxLen)
    (hx : ∀ w0, Calls Try.prog 37 #[.int .i64 x, .int .i64 3] w0 fun e w' => e = .returned (.int .i64 2) ∧ w' = w0) :
    Calls Try.prog 13 #[.int .i64 x, v] w fun e w' => e = .returned (.bool true) ∧ Below w.heap.size w w' := by
  have HR : Hid (Calls Try.prog 38 #[.int .i64 3, .int .i64 3, .int .i64 511, v] w fun e w' => RowsEnd w.heap.size 3 3 511 w' e ∧ Below w.heap.size w w') :=
    rows3 3 511 v cells w hv hlen (by omega) (by omega) (by omega) (by omega)
  have HX : Hid (∀ w0, Calls Try.prog 37 #[.int .i64 x, .int .i64 3] w0 fun e w' => e = .returned (.int .i64 2) ∧ w' = w0) := hx
  obtain ⟨a, cap, rfl⟩ := hv.slice
  clear hv hx hlen
  go_enter Try.func13, Try.ntmps13
  go_wp2_with fail
  refine (HX.out _).mono ?_
  rintro e w' ⟨rfl, hq'⟩; replace hq' := hq'.symm; subst hq'
  go_wp2_with fail
  refine HR.out.mono ?_
  rintro e w1 ⟨⟨out, bs, zss, rfl, hO, hk, hz⟩, hb1⟩
  have HO : Hid (OwnRows w1 w.heap.size out bs zss 3) := hO
  have HZ : Hid (∀ zs ∈ zss, ∀ z ∈ zs, -511 ≤ z ∧ z ≤ 511) := hz
  have hln := hO.len
  clear hz HR HX
  by_cases hsh : bs.length < 3
  · obtain ⟨a1, cap1, rfl⟩ := hO.out
    clear hO hln
    have hsh' : (bs.length : Int) < 3 := by omega
    go_wp2
    go_ret
    exact ⟨rfl, hb1⟩
  · have hbl : bs.length = 3 := by omega
    obtain ⟨g, cap1, hout, hgB, hcell⟩ := hO.cell (by omega)
    rw [hbl] at hout
    have hg0 : givenE 3 zss = 0 := hO.given (by omega) (by omega) (by omega) HZ.out
    have HI : Hid (∀ w0, Below w1.heap.size w1 w0 → Calls Try.prog 21 #[.int .i64 3, out] w0 fun e w' => IdxEnd 3 zss e ∧ Below w0.heap.size w0 w') := fun w0 h0 =>
      index_any 3 out zss w0 ((hO.below h0 (Nat.le_refl _)).rowsAt (by omega))
    have HF : Hid (∀ w0 c, Below w1.heap.size w1 w0 → Calls Try.prog 39 #[out, .int .i64 c] w0 fun x w' => x = .returned (.bool (refB zss c)) ∧ w' = w0) := fun w0 c h0 =>
      refused_any out zss c w0 ((hO.below h0 (Nat.le_refl _)).rowsAt (by omega)) (by omega) (hO.len3 (by omega))
    have HD : Hid (∀ (T : Lat.St) w0, Below w1.heap.size w1 w0 → Lat.CanonOf T (vecs zss) → ∃ d, (idxOf 3 T = d ∨ idxOf 3 T = -d) ∧ -1000000000 ≤ d ∧ d ≤ 1000000000 ∧ Calls Try.prog 43 #[.int .i64 3, out] w0 fun e w' => e = .returned (.int .i64 d) ∧ Below w0.heap.size w0 w') := fun T w0 h0 hT => by
      have hO := hO.below h0 (Nat.le_refl _)
      obtain ⟨g, cap1, hout, hgB, hcell⟩ := hO.cell (by omega)
      rw [hbl] at hout
      obtain ⟨hvs, hvol⟩ := vol_of3 (by omega) hT
      have hle : ∀ u ∈ vecs zss, Lat.Le 511 u := by
        refine within_le (most := 511) ?_ (by omega)
        unfold withinB
        rw [List.all_eq_true]; intro zs hm
        rw [List.all_eq_true]; intro z hzm
        have := HZ.out zs hm z hzm
        simp [inB]; omega
      refine ⟨_, hvol, ?_, ?_, ?_⟩
      · have b := Lat.det_le (hle (vecOf (zss.getD 0 [])) (by rw [hvs]; simp)) (hle (vecOf (zss.getD 1 [])) (by rw [hvs]; simp)) (hle (vecOf (zss.getD 2 [])) (by rw [hvs]; simp)); omega
      · have b := Lat.det_le (hle (vecOf (zss.getD 0 [])) (by rw [hvs]; simp)) (hle (vecOf (zss.getD 1 [])) (by rw [hvs]; simp)) (hle (vecOf (zss.getD 2 [])) (by rw [hvs]; simp)); omega
      · rw [hout]
        exact det3_any g cap1 (bs.getD 0 0) (bs.getD 1 0) (bs.getD 2 0) (vecOf (zss.getD 0 [])) (vecOf (zss.getD 1 [])) (vecOf (zss.getD 2 [])) w0 (hcell 0 (by omega)) (hO.entry (i := 0) (j := 0) (by omega) (by omega)) (hO.entry (i := 0) (j := 1) (by omega) (by omega)) (hO.entry (i := 0) (j := 2) (by omega) (by omega)) (hcell 1 (by omega)) (hO.entry (i := 1) (j := 0) (by omega) (by omega)) (hO.entry (i := 1) (j := 1) (by omega) (by omega)) (hO.entry (i := 1) (j := 2) (by omega) (by omega)) (hcell 2 (by omega)) (hO.entry (i := 2) (j := 0) (by omega) (by omega)) (hO.entry (i := 2) (j := 1) (by omega) (by omega)) (hO.entry (i := 2) (j := 2) (by omega) (by omega)) (hle (vecOf (zss.getD 0 [])) (by rw [hvs]; simp)) (hle (vecOf (zss.getD 1 [])) (by rw [hvs]; simp)) (hle (vecOf (zss.getD 2 [])) (by rw [hvs]; simp))
    subst hout
    clear hO hcell
    go_wp2_with fail
    refine (HI.out _ (Below.refl _ _)).mono ?_
    rintro e w2 ⟨⟨T, c, hG, rfl⟩, hb2⟩
    have HG : Hid (Gen 3 zss T c) := hG
    clear hG
    have hbb : Below w.heap.size w w2 := hb1.trans (hb2.mono hb1.size)
    by_cases hc : c = 0
    · subst hc
      obtain ⟨hT, hF⟩ := gen_ok HG.out
      obtain ⟨d, hd, hd1, hd2, hcall⟩ := HD.out T w2 hb2 hT
      have HC : Hid (Calls Try.prog 43 #[.int .i64 3, .slice (some ⟨g, 0, none⟩) 3 cap1] w2 fun e w' => e = .returned (.int .i64 d) ∧ Below w2.heap.size w2 w') := hcall
      clear hT hF hcall
      rw [if_pos rfl]
      generalize idxOf 3 T = m at *
      rcases hd with rfl | hd
      · go_wp2_with fail
        refine HC.out.mono ?_
        rintro e w3 ⟨rfl, hb3⟩
        have hee : (m == m) = true := by simp
        go_wp2
        go_ret
        exact ⟨rfl, hbb.trans (hb3.mono hbb.size)⟩
      · by_cases hz0 : d = 0
        · have hm0 : m = 0 := by omega
          have hee : (m == d) = true := by simp [hm0, hz0]
          clear hd hm0 hz0
          go_wp2_with fail
          refine HC.out.mono ?_
          rintro e w3 ⟨rfl, hb3⟩
          go_wp2
          go_ret
          exact ⟨rfl, hbb.trans (hb3.mono hbb.size)⟩
        · have hee : (m == d) = false := by simp; omega
          have hee2 : (m == -d) = true := by simp [hd]
          clear hd hz0
          go_wp2_with fail
          refine HC.out.mono ?_
          rintro e w3 ⟨rfl, hb3⟩
          go_wp2
          go_ret
          exact ⟨rfl, hbb.trans (hb3.mono hbb.size)⟩
    · have hrf := gen_refused HG.out hg0 hc
      have HF2 : Hid (Calls Try.prog 39 #[.slice (some ⟨g, 0, none⟩) 3 cap1, .int .i64 c] w2 fun x w' => x = .returned (.bool true) ∧ w' = w2) := by
        have := HF.out w2 c hb2; rw [hrf] at this; exact this
      have hcn : (c != 0) = true := by simpa using hc
      rw [if_neg hc]
      clear hrf hc
      go_wp2_with fail
      refine HF2.out.mono ?_
      rintro e w3 ⟨rfl, hq'⟩; replace hq' := hq'.symm; subst hq'
      go_wp2
      go_ret
      exact ⟨rfl, hbb⟩

end Go.Proofs.Ytmlcblnndihjoaa
