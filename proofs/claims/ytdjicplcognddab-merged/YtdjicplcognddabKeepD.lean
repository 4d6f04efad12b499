import Derived.Test.YtdjicplcognddabKeepC
namespace Go.Proofs.Ytdjicplcognddab
open Go.RowKit

theorem OwnRows.out {w : World} {B : Nat} {v : Value} {bs : List Nat} {zss : List (List Int)} {n : Nat} (h : OwnRows w B v bs zss n) : ∃ a cap, v = .slice a bs.length cap := by
  rcases h.own.2 with ⟨h1, h2⟩ | ⟨g, cap, cur, h1, _⟩
  · exact ⟨none, 0, by rw [h1, h2]⟩
  · exact ⟨_, cap, h1⟩

theorem OwnRows.cell {w : World} {B : Nat} {v : Value} {bs : List Nat} {zss : List (List Int)} {n : Nat} (h : OwnRows w B v bs zss n) (h0 : 0 < bs.length) :
    ∃ g cap, v = .slice (some ⟨g, 0, none⟩) bs.length cap ∧ B ≤ g ∧ ∀ i, i < bs.length → w.cell? ⟨g, i, none⟩ = some (.slice (some ⟨bs.getD i 0, 0, none⟩) n n) := by
  rcases h.own.2 with ⟨h1, h2⟩ | ⟨g, cap, cur, h1, h2, h3, h4, h5, h6, h7⟩
  · omega
  · refine ⟨g, cap, h1, h2, fun i hi => ?_⟩
    have e : cur.toList[i]? = some (Value.slice (some ⟨bs.getD i 0, 0, none⟩) n n) := by
      have := congrArg (fun l => l[i]?) h7
      simp only [List.getElem?_take] at this
      rw [if_pos (by omega)] at this
      rw [this, List.getElem?_map, List.getElem?_eq_getElem hi]
      simp [List.getD_eq_getElem?_getD, List.getElem?_eq_getElem hi]
    rw [← e]
    simp [World.cell?, h3]

theorem OwnRows.entry {w : World} {B : Nat} {v : Value} {bs : List Nat} {zss : List (List Int)} {n : Nat} (h : OwnRows w B v bs zss n) {i j : Nat} (hi : i < bs.length) (hj : j < n) :
    w.cell? ⟨bs.getD i 0, j, none⟩ = some (.int .i64 ((zss.getD i []).getD j 0)) := by
  obtain ⟨r1, r2, _⟩ := h.row i hi
  rw [r1.cell j]
  have hj' : j < (zss.getD i []).length := by omega
  rw [List.getElem?_toArray, List.getElem?_map, List.getElem?_eq_getElem hj', List.getD_eq_getElem?_getD (l := zss.getD i []), List.getElem?_eq_getElem hj']
  rfl

theorem OwnRows.rowsAt {w : World} {B : Nat} {v : Value} {bs : List Nat} {zss : List (List Int)} {n : Nat} (h : OwnRows w B v bs zss n) (hn : 0 < n) : RowsAt w v zss := by
  have hl := h.len
  by_cases h0 : 0 < bs.length
  · obtain ⟨g, cap, rfl, _, hc⟩ := h.cell h0
    refine Or.inr ⟨by omega, g, 0, cap, by rw [hl], fun i hi => ⟨_, by rw [Nat.zero_add]; exact hc i (by omega), ?_⟩⟩
    have hr := h.row i (by omega)
    refine Or.inr ⟨by omega, _, 0, n, by rw [hr.2.1], fun j hj => ?_⟩
    rw [Nat.zero_add]
    exact h.entry (by omega) (by omega)
  · obtain ⟨a, cap, hv⟩ := h.out
    have e : bs.length = 0 := by omega
    rw [e] at hv
    exact Or.inl ⟨List.length_eq_zero_iff.1 (by omega), a, cap, hv⟩

/-- rows of the width, no entry beyond 511: nothing to refuse ahead of the basis -/
theorem OwnRows.given {w : World} {B : Nat} {v : Value} {bs : List Nat} {zss : List (List Int)} {n : Nat} (h : OwnRows w B v bs zss n) (h1 : 1 ≤ n) (h3 : n ≤ 3) (h6 : zss.length ≤ 6)
    (hz : ∀ zs ∈ zss, ∀ z ∈ zs, -511 ≤ z ∧ z ≤ 511) : givenE (n : Int) zss = 0 := by
  have hg : givenB (n : Int) zss = true := by
    unfold givenB
    rw [decide_eq_true h6, Bool.true_and, List.all_eq_true]
    intro zs hm
    obtain ⟨i, hi, rfl⟩ := List.getElem_of_mem hm
    have hr := h.row i (by have := h.len; omega)
    have e : zss.getD i [] = zss[i] := by simp [List.getD_eq_getElem?_getD, List.getElem?_eq_getElem hi]
    rw [e] at hr
    unfold goodB
    rw [hr.2.1, decide_eq_true rfl, Bool.true_and, List.all_eq_true]
    intro z hzm
    have := hz _ hm z hzm
    simp; omega
  unfold givenE
  rw [hg, if_pos (by simp; omega)]; rfl

theorem OwnRows.len3 {w : World} {B : Nat} {v : Value} {bs : List Nat} {zss : List (List Int)} {n : Nat} (h : OwnRows w B v bs zss n) (h3 : n ≤ 3) : ∀ zs ∈ zss, zs.length ≤ 3 := by
  intro zs hm
  obtain ⟨i, hi, rfl⟩ := List.getElem_of_mem hm
  have hr := h.row i (by have := h.len; omega)
  have e : zss.getD i [] = zss[i] := by simp [List.getD_eq_getElem?_getD, List.getElem?_eq_getElem hi]
  rw [e] at hr
  omega

theorem within_le {most : Int} {zss : List (List Int)} (h : withinB most zss = true) (m0 : 0 ≤ most) : ∀ g ∈ vecs zss, Lat.Le most g := by
  intro g hg
  simp only [vecs, List.mem_reverse, List.mem_map] at hg
  obtain ⟨zs, hz, rfl⟩ := hg
  unfold withinB at h
  rw [List.all_eq_true] at h
  have h2 := h zs hz
  have e : ∀ k, -most ≤ zs.getD k 0 ∧ zs.getD k 0 ≤ most := fun k => by
    have := getD_mem (k := k) h2 (by simp [inB]; omega)
    simp [inB] at this; simpa using this
  exact ⟨e 0, e 1, e 2⟩

/-- what is refused for its size is not light -/
theorem gen_refused {n : Int} {zss : List (List Int)} {T : Lat.St} {c : Int} (h : Gen n zss T c) (hg : givenE n zss = 0) (hc : c ≠ 0) : refB zss c = true := by
  rcases h with ⟨h1, _⟩ | ⟨_, T', hT, ⟨h3, hf⟩ | ⟨h0, _⟩⟩
  · rw [hg] at h1; exact absurd h1 hc
  · cases hw : withinB 4 zss
    · simp [refB, h3, hw]
    · exact absurd (Lat.light_fits hT (within_le hw (by omega))) hf
  · exact absurd h0 hc

/-- without an error there is the canonical basis, and it fits -/
theorem gen_ok {n : Int} {zss : List (List Int)} {T : Lat.St} (h : Gen n zss T 0) : Lat.CanonOf T (vecs zss) ∧ FitsS T := by
  rcases h with ⟨_, h1⟩ | ⟨_, T', hT, ⟨h3, _⟩ | ⟨_, rfl, hf⟩⟩
  · exact absurd rfl h1
  · omega
  · exact ⟨hT, hf⟩


/-- 1 rows of width 1: their index is their determinant's size -/
theorem vol_of1 {zss : List (List Int)} {T : Lat.St} (hl : zss.length = 1) (h : Lat.CanonOf T (vecs zss)) : vecs zss = [vecOf (zss.getD 0 [])] ∧ (idxOf 1 T = (vecOf (zss.getD 0 [])).x ∨ idxOf 1 T = -((vecOf (zss.getD 0 [])).x)) := by
  have e : vecs zss = [vecOf (zss.getD 0 [])] := by
    rcases zss with _ | ⟨z0, _ | ⟨z1, _ | ⟨z2, _ | ⟨z3, zs⟩⟩⟩⟩ <;> simp [vecs] at hl ⊢
  refine ⟨e, ?_⟩
  rw [e] at h
  exact Lat.vol1 h

/-- 2 rows of width 2: their index is their determinant's size -/
theorem vol_of2 {zss : List (List Int)} {T : Lat.St} (hl : zss.length = 2) (h : Lat.CanonOf T (vecs zss)) : vecs zss = [vecOf (zss.getD 1 []), vecOf (zss.getD 0 [])] ∧ (idxOf 2 T = Lat.mxy (vecOf (zss.getD 0 [])) (vecOf (zss.getD 1 [])) ∨ idxOf 2 T = -(Lat.mxy (vecOf (zss.getD 0 [])) (vecOf (zss.getD 1 [])))) := by
  have e : vecs zss = [vecOf (zss.getD 1 []), vecOf (zss.getD 0 [])] := by
    rcases zss with _ | ⟨z0, _ | ⟨z1, _ | ⟨z2, _ | ⟨z3, zs⟩⟩⟩⟩ <;> simp [vecs] at hl ⊢
  refine ⟨e, ?_⟩
  rw [e] at h
  exact Lat.vol2 h

/-- 3 rows of width 3: their index is their determinant's size -/
theorem vol_of3 {zss : List (List Int)} {T : Lat.St} (hl : zss.length = 3) (h : Lat.CanonOf T (vecs zss)) : vecs zss = [vecOf (zss.getD 2 []), vecOf (zss.getD 1 []), vecOf (zss.getD 0 [])] ∧ (idxOf 3 T = Lat.det (vecOf (zss.getD 0 [])) (vecOf (zss.getD 1 [])) (vecOf (zss.getD 2 [])) ∨ idxOf 3 T = -(Lat.det (vecOf (zss.getD 0 [])) (vecOf (zss.getD 1 [])) (vecOf (zss.getD 2 [])))) := by
  have e : vecs zss = [vecOf (zss.getD 2 []), vecOf (zss.getD 1 []), vecOf (zss.getD 0 [])] := by
    rcases zss with _ | ⟨z0, _ | ⟨z1, _ | ⟨z2, _ | ⟨z3, zs⟩⟩⟩⟩ <;> simp [vecs] at hl ⊢
  refine ⟨e, ?_⟩
  rw [e] at h
  exact Lat.vol3 h

end Go.Proofs.Ytdjicplcognddab
