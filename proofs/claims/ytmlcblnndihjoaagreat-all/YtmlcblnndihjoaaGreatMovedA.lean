import Derived.Test.YtmlcblnndihjoaaGreatShapedW
namespace Go.Proofs.YtmlcblnndihjoaaGreat
open Go.RowKit

theorem cell_set_same {w : World} {b o : Nat} {u : Value} (h : w.cell? ⟨b, o, none⟩ = some u) (v : Value) : (w.setCell ⟨b, o, none⟩ v).cell? ⟨b, o, none⟩ = some v := by
  unfold World.cell? at h
  split at h
  · rename_i c e f hb
    simp at h
    have hlt : o < c.size := by
      rcases Nat.lt_or_ge o c.size with h1 | h1
      · exact h1
      · rw [Array.getElem?_eq_none h1] at h; cases h
    simp [World.cell?, World.setCell, Array.getElem?_modify, hb, hlt]
  · cases h

theorem cell_set_off {w : World} {b o o' : Nat} (hne : o' ≠ o) (v : Value) : (w.setCell ⟨b, o, none⟩ v).cell? ⟨b, o', none⟩ = w.cell? ⟨b, o', none⟩ := by
  simp only [World.cell?, World.setCell, Array.getElem?_modify, if_true]
  cases h : w.heap[b]? with
  | none => simp
  | some ob =>
    cases ob <;> simp
    rw [Array.getElem?_setIfInBounds, if_neg (fun e => hne e.symm)]

/-- two places of the list of rows have changed -/
structure Swapped (w wo wx : World) (g x y : Nat) (vx vy : Value) : Prop where
  cx : wx.cell? ⟨g, x, none⟩ = some vx
  cy : wx.cell? ⟨g, y, none⟩ = some vy
  rest : ∀ o, o ≠ x → o ≠ y → wx.cell? ⟨g, o, none⟩ = wo.cell? ⟨g, o, none⟩
  keep : ∀ m, m ≠ g → wx.heap[m]? = wo.heap[m]?
  size : wx.heap.size = wo.heap.size
  below : Below w.heap.size w wx

theorem Swapped.mk' {w wo : World} {g x y : Nat} {ux uy : Value} (hx : wo.cell? ⟨g, x, none⟩ = some ux) (hy : wo.cell? ⟨g, y, none⟩ = some uy) (hne : x ≠ y) (hg : w.heap.size ≤ g) (hB : Below w.heap.size w wo) (vx vy : Value) :
    Swapped w wo ((wo.setCell ⟨g, x, none⟩ vx).setCell ⟨g, y, none⟩ vy) g x y vx vy := by
  refine ⟨?_, ?_, fun o h1 h2 => ?_, fun m hm => ?_, ?_, (hB.setCell (p := ⟨g, x, none⟩) hg vx).setCell (p := ⟨g, y, none⟩) hg vy⟩
  · rw [cell_set_off hne]; exact cell_set_same hx vx
  · exact cell_set_same (u := uy) (by rw [cell_set_off (fun e => hne e.symm)]; exact hy) vy
  · rw [cell_set_off h2, cell_set_off h1]
  · rw [Below.heap_setCell _ _ _ _ hm, Below.heap_setCell _ _ _ _ hm]
  · simp [World.setCell]

/-! the vectors behind the move generate what they did -/

def negL (zs : List Int) : List Int := zs.map (fun z => -z)
def addL (n : Nat) (t : Int) (ps qs : List Int) : List Int := (List.range n).map (fun j => ps.getD j 0 + t * qs.getD j 0)

theorem vec_neg (zs : List Int) : vecOf (negL zs) = Lat.comb (-1) (vecOf zs) 0 (vecOf zs) := by
  have h : ∀ j, (negL zs).getD j 0 = -(zs.getD j 0) := fun j => by
    simp only [negL, List.getD_eq_getElem?_getD, List.getElem?_map]
    cases zs[j]? <;> simp
  simp only [vecOf, Lat.comb, h]
  refine Lat.V.same ?_ ?_ ?_ <;> simp only <;> omega

theorem vec_add {n : Nat} (_h3 : n ≤ 3) (t : Int) {ps qs : List Int} (hp : ps.length = n) (hq : qs.length = n) : vecOf (addL n t ps qs) = Lat.comb 1 (vecOf ps) t (vecOf qs) := by
  have h : ∀ j, (addL n t ps qs).getD j 0 = ps.getD j 0 + t * qs.getD j 0 := fun j => by
    by_cases hj : j < n
    · simp [addL, List.getD_eq_getElem?_getD, hj]
    · have e1 : (addL n t ps qs).getD j 0 = 0 := by rw [List.getD_eq_getElem?_getD, List.getElem?_eq_none (by simp [addL]; omega)]; rfl
      have e2 : ps.getD j 0 = 0 := by rw [List.getD_eq_getElem?_getD, List.getElem?_eq_none (by omega)]; rfl
      have e3 : qs.getD j 0 = 0 := by rw [List.getD_eq_getElem?_getD, List.getElem?_eq_none (by omega)]; rfl
      rw [e1, e2, e3]; simp
  simp only [vecOf, Lat.comb, h]
  refine Lat.V.same ?_ ?_ ?_ <;> simp only <;> omega

theorem getD_set_eq {α : Type} {l : List α} {i : Nat} (h : i < l.length) (a d : α) : (l.set i a).getD i d = a := by
  simp [List.getD_eq_getElem?_getD, h]

theorem getD_set_ne {α : Type} {l : List α} {i j : Nat} (h : i ≠ j) (a d : α) : (l.set i a).getD j d = l.getD j d := by
  simp [List.getD_eq_getElem?_getD, List.getElem?_set_ne h]

/-- the rows behind the move -/
def movedL (n : Nat) (t : Int) (x y : Nat) (zss : List (List Int)) : List (List Int) :=
  (zss.set x (negL (zss.getD y []))).set y (addL n t (zss.getD x []) (zss.getD y []))

theorem movedL_length (n : Nat) (t : Int) (x y : Nat) (zss : List (List Int)) : (movedL n t x y zss).length = zss.length := by simp [movedL]

theorem movedL_x {n : Nat} {t : Int} {x y : Nat} {zss : List (List Int)} (hx : x < zss.length) (hne : x ≠ y) : (movedL n t x y zss).getD x [] = negL (zss.getD y []) := by
  unfold movedL; rw [getD_set_ne (fun e => hne e.symm), getD_set_eq hx]

theorem movedL_y {n : Nat} {t : Int} {x y : Nat} {zss : List (List Int)} (hy : y < zss.length) : (movedL n t x y zss).getD y [] = addL n t (zss.getD x []) (zss.getD y []) := by
  unfold movedL; rw [getD_set_eq (by simp; exact hy)]

theorem movedL_o {n : Nat} {t : Int} {x y i : Nat} {zss : List (List Int)} (hx : i ≠ x) (hy : i ≠ y) : (movedL n t x y zss).getD i [] = zss.getD i [] := by
  unfold movedL; rw [getD_set_ne (fun e => hy e.symm), getD_set_ne (fun e => hx e.symm)]

theorem mem_vecs {zss : List (List Int)} {i : Nat} (h : i < zss.length) : vecOf (zss.getD i []) ∈ vecs zss := by
  simp only [vecs, List.mem_reverse, List.mem_map]
  exact ⟨_, getD_memR h, rfl⟩

theorem vecs_get {zss : List (List Int)} {g : Lat.V} (h : g ∈ vecs zss) : ∃ i, i < zss.length ∧ g = vecOf (zss.getD i []) := by
  simp only [vecs, List.mem_reverse, List.mem_map] at h
  obtain ⟨zs, hz, rfl⟩ := h
  obtain ⟨i, hi, rfl⟩ := List.getElem_of_mem hz
  exact ⟨i, hi, by simp [List.getD_eq_getElem?_getD, List.getElem?_eq_getElem hi]⟩

theorem comb_span {G : List Lat.V} {u v : Lat.V} (hu : Lat.InSpan G u) (hv : Lat.InSpan G v) (p q : Int) : Lat.InSpan G (Lat.comb p u q v) := hu.comb hv p q

theorem moved_span {n : Nat} (h3 : n ≤ 3) {t : Int} {x y : Nat} {zss : List (List Int)} (hx : x < zss.length) (hy : y < zss.length) (hne : x ≠ y) (hl : ∀ i, i < zss.length → (zss.getD i []).length = n) (u : Lat.V) :
    Lat.InSpan (vecs (movedL n t x y zss)) u ↔ Lat.InSpan (vecs zss) u := by
  have eL := movedL_length n t x y zss
  have ey := vec_add h3 t (hl x hx) (hl y hy)
  have ex := vec_neg (zss.getD y [])
  constructor
  · refine Lat.InSpan.sub_list (fun g hg => ?_)
    obtain ⟨i, hi, rfl⟩ := vecs_get hg
    by_cases e1 : i = x
    · rw [e1, movedL_x hx hne, ex]
      exact comb_span (Lat.InSpan.of_mem (mem_vecs hy)) (Lat.InSpan.of_mem (mem_vecs hy)) _ _
    · by_cases e2 : i = y
      · rw [e2, movedL_y hy, ey]
        exact comb_span (Lat.InSpan.of_mem (mem_vecs hx)) (Lat.InSpan.of_mem (mem_vecs hy)) _ _
      · rw [movedL_o e1 e2]
        exact Lat.InSpan.of_mem (mem_vecs (by omega))
  · have mx : Lat.InSpan (vecs (movedL n t x y zss)) (Lat.comb (-1) (vecOf (zss.getD y [])) 0 (vecOf (zss.getD y []))) := by
      rw [← ex, ← movedL_x (n := n) (t := t) hx hne]; exact Lat.InSpan.of_mem (mem_vecs (by omega))
    have my : Lat.InSpan (vecs (movedL n t x y zss)) (Lat.comb 1 (vecOf (zss.getD x [])) t (vecOf (zss.getD y []))) := by
      rw [← ey, ← movedL_y (n := n) (t := t) (x := x) hy]; exact Lat.InSpan.of_mem (mem_vecs (by omega))
    have qy : Lat.InSpan (vecs (movedL n t x y zss)) (vecOf (zss.getD y [])) := by
      have := comb_span mx mx (-1) 0
      have e : Lat.comb (-1) (Lat.comb (-1) (vecOf (zss.getD y [])) 0 (vecOf (zss.getD y []))) 0 (Lat.comb (-1) (vecOf (zss.getD y [])) 0 (vecOf (zss.getD y []))) = vecOf (zss.getD y []) := by
        unfold Lat.comb; refine Lat.V.same ?_ ?_ ?_ <;> simp only <;> omega
      rwa [e] at this
    have qx : Lat.InSpan (vecs (movedL n t x y zss)) (vecOf (zss.getD x [])) := by
      have := comb_span my qy 1 (-t)
      have e : Lat.comb 1 (Lat.comb 1 (vecOf (zss.getD x [])) t (vecOf (zss.getD y []))) (-t) (vecOf (zss.getD y [])) = vecOf (zss.getD x []) := by
        unfold Lat.comb; refine Lat.V.same ?_ ?_ ?_ <;> simp only <;> grind
      rwa [e] at this
    refine Lat.InSpan.sub_list (fun g hg => ?_)
    obtain ⟨i, hi, rfl⟩ := vecs_get hg
    by_cases e1 : i = x
    · rw [e1]; exact qx
    · by_cases e2 : i = y
      · rw [e2]; exact qy
      · rw [← movedL_o (n := n) (t := t) e1 e2]; exact Lat.InSpan.of_mem (mem_vecs (by omega))

/-- what two lists that generate the same come to is the same -/
theorem gen_same {n : Int} {zss zss' : List (List Int)} {T T' : Lat.St} {c c' : Int} (h : Gen n zss T c) (h' : Gen n zss' T' c') (hg : givenE n zss = 0) (hg' : givenE n zss' = 0) (hs : ∀ u, Lat.InSpan (vecs zss') u ↔ Lat.InSpan (vecs zss) u) :
    c' = c ∧ (c = 0 → T' = T) := by
  rcases h with ⟨e, h0⟩ | ⟨_, S, hS, h⟩
  · rw [hg] at e; exact absurd e h0
  · rcases h' with ⟨e, h0⟩ | ⟨_, S', hS', h'⟩
    · rw [hg'] at e; exact absurd e h0
    · have e : S' = S := Lat.one_basis hS'.shape hS.shape (fun v => (hS'.span v).trans ((hs v).trans (hS.span v).symm))
      subst e
      rcases h with ⟨e1, e2⟩ | ⟨e1, e2, e3⟩
      · rcases h' with ⟨f1, f2⟩ | ⟨f1, f2, f3⟩
        · exact ⟨by omega, fun h => by omega⟩
        · exact absurd f3 e2
      · rcases h' with ⟨f1, f2⟩ | ⟨f1, f2, f3⟩
        · exact absurd e3 f2
        · exact ⟨by omega, fun _ => by rw [e2, f2]⟩

/-- entries within, rows of the width: nothing to refuse -/
theorem given_within {n : Nat} {zss : List (List Int)} (h1 : 0 < n) (h3 : n ≤ 3) (h6 : zss.length ≤ 6) (hl : ∀ i, i < zss.length → (zss.getD i []).length = n) (hw : withinB 511 zss = true) : givenE (n : Int) zss = 0 := by
  have hg : givenB (n : Int) zss = true := by
    unfold givenB
    rw [decide_eq_true h6, Bool.true_and, List.all_eq_true]
    intro zs hm
    unfold withinB at hw
    rw [List.all_eq_true] at hw
    have h := hw zs hm
    rw [List.all_eq_true] at h
    obtain ⟨i, hi, rfl⟩ := List.getElem_of_mem hm
    have hr := hl i hi
    have e : zss.getD i [] = zss[i] := by simp [List.getD_eq_getElem?_getD, List.getElem?_eq_getElem hi]
    rw [e] at hr
    unfold goodB
    rw [hr, decide_eq_true rfl, Bool.true_and, List.all_eq_true]
    intro z hz
    have := h z hz
    simp [inB] at this
    simp; omega
  unfold givenE
  rw [hg, if_pos (by simp; omega)]; rfl

end Go.Proofs.YtmlcblnndihjoaaGreat
