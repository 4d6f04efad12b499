import Derived.Test.YtmlcblnndihjoaaGreatTextD
set_option linter.unusedSimpArgs false
set_option linter.unusedVariables false
namespace Go.Proofs.YtmlcblnndihjoaaGreat
open Go.RowKit

def rdE (xs : List Int) (k : Nat) : Int := 256 * xs.getD k 0 + xs.getD (k + 1) 0 - 512
def rdRow (xs : List Int) (n i : Nat) : List Int := (List.range n).map fun j => rdE xs (2 + 2 * (n * i + j))
def rdRows (xs : List Int) (n r : Nat) : List (List Int) := (List.range r).map (rdRow xs n)

/-- a string has the shape of a text -/
structure Shp (xs : List Int) (n r : Nat) : Prop where
  n1 : 1 ≤ n
  n3 : n ≤ 3
  rn : r ≤ n
  w : xs.getD 0 0 = n
  c : xs.getD 1 0 = r
  len : xs.length = 3 + 2 * (n * r)

/-- s is the text of the lattice T of width n -/
structure DecOK (s : ByteArray) (n : Nat) (T : Lat.St) : Prop where
  n1 : 1 ≤ n
  n3 : n ≤ 3
  shape : Lat.Shape T
  flat : Flat n T
  fits : FitsS T
  str : s = txt n T

theorem getD_app_left {l l' : List Int} {i : Nat} (h : i < l.length) : (l ++ l').getD i 0 = l.getD i 0 := by
  simp [List.getD_eq_getElem?_getD, List.getElem?_append_left h]
theorem getD_app_right {l l' : List Int} {i : Nat} (h : l.length ≤ i) : (l ++ l').getD i 0 = l'.getD (i - l.length) 0 := by
  simp [List.getD_eq_getElem?_getD, List.getElem?_append_right h]

theorem flat_getD {α : Type} (l : List α) (f : α → List Int) (K : Nat) (h : ∀ x ∈ l, (f x).length = K) (d : α) : ∀ (i j : Nat), i < l.length → j < K → (l.flatMap f).getD (K * i + j) 0 = (f (l.getD i d)).getD j 0 := by
  induction l with
  | nil => intro i j hi; simp at hi
  | cons x l ih =>
    intro i j hi hj
    have hx := h x (by simp)
    rw [List.flatMap_cons]
    cases i with
    | zero => rw [Nat.mul_zero, Nat.zero_add, getD_app_left (by omega)]; rfl
    | succ i =>
      rw [getD_app_right (by rw [hx, Nat.mul_succ]; omega), hx]
      have e : K * (i + 1) + j - K = K * i + j := by rw [Nat.mul_succ]; omega
      rw [e, ih (fun y hy => h y (by simp [hy])) i j (by simpa using hi) hj]
      rfl

theorem flat_length {α : Type} (l : List α) (f : α → List Int) (K : Nat) (h : ∀ x ∈ l, (f x).length = K) : (l.flatMap f).length = K * l.length := by
  induction l with
  | nil => simp
  | cons x l ih =>
    rw [List.flatMap_cons, List.length_append, h x (by simp), ih (fun y hy => h y (by simp [hy])), List.length_cons, Nat.mul_succ]; omega

theorem Fine.rowLen {n : Nat} {zss : List (List Int)} (h : Fine n zss) : ∀ zs ∈ zss, (rowN zs).length = 2 * n := fun zs hz => by
  unfold rowN; rw [flat_length zs entN 2 (fun _ _ => rfl), h.each zs hz]

theorem Fine.flatLen {n : Nat} {zss : List (List Int)} (h : Fine n zss) : (zss.flatMap rowN).length = 2 * (n * zss.length) := by
  rw [flat_length zss rowN (2 * n) h.rowLen, Nat.mul_assoc]

theorem Fine.textLen {n : Nat} {zss : List (List Int)} (h : Fine n zss) : (textN n zss).length = 3 + 2 * (n * zss.length) := by
  unfold textN bodyN
  simp only [List.length_append, List.length_cons, List.length_nil, h.flatLen]
  omega

theorem Fine.textRange {n : Nat} {zss : List (List Int)} (h : Fine n zss) : ∀ x ∈ textN n zss, 0 ≤ x ∧ x ≤ 255 := by
  intro x hx
  unfold textN at hx
  rw [List.mem_append] at hx
  rcases hx with hx | hx
  · exact h.body_range x hx
  · simp at hx; subst hx; have := checkN_range (bodyN n zss); omega

theorem Fine.textAt {n : Nat} {zss : List (List Int)} (h : Fine n zss) {i j b : Nat} (hi : i < zss.length) (hj : j < n) (hb : b < 2) : (textN n zss).getD (2 + 2 * (n * i + j) + b) 0 = (entN ((zss.getD i []).getD j 0)).getD b 0 := by
  have hfl := h.flatLen
  have hlt : n * i + j < n * zss.length := by
    have : n * i + n ≤ n * zss.length := by rw [← Nat.mul_succ]; exact Nat.mul_le_mul_left n (by omega)
    omega
  have e1 : (textN n zss).getD (2 + 2 * (n * i + j) + b) 0 = (zss.flatMap rowN).getD (2 * (n * i + j) + b) 0 := by
    unfold textN bodyN
    rw [getD_app_left (by simp only [List.length_append, List.length_cons, List.length_nil, hfl]; omega), getD_app_right (by simp only [List.length_cons, List.length_nil]; omega)]
    congr 1
    simp only [List.length_cons, List.length_nil]; omega
  rw [e1]
  have e2 : 2 * (n * i + j) + b = (2 * n) * i + (2 * j + b) := by rw [Nat.mul_add, Nat.mul_assoc]; omega
  rw [e2, flat_getD zss rowN (2 * n) h.rowLen [] i (2 * j + b) hi (by omega)]
  have hr := (h.row hi).1
  unfold rowN
  rw [flat_getD (zss.getD i []) entN 2 (fun _ _ => rfl) 0 j b (by omega) hb]

theorem Fine.rd {n : Nat} {zss : List (List Int)} (h : Fine n zss) : rdRows (textN n zss) n zss.length = zss := by
  apply List.ext_getElem?
  intro i
  by_cases hi : i < zss.length
  · have hr := (h.row hi).1
    have e : zss[i]? = some (zss.getD i []) := by simp [List.getD_eq_getElem?_getD, hi]
    rw [e]
    simp only [rdRows, List.getElem?_map, List.getElem?_range hi, Option.map_some]
    congr 1
    apply List.ext_getElem?
    intro j
    by_cases hj : j < n
    · have hen := h.entry hi hj
      have ej : (zss.getD i [])[j]? = some ((zss.getD i []).getD j 0) := by
        generalize zss.getD i [] = zs at *
        have : j < zs.length := by omega
        simp [List.getD_eq_getElem?_getD, this]
      rw [ej]
      simp only [rdRow, List.getElem?_map, List.getElem?_range hj, Option.map_some]
      congr 1
      unfold rdE
      have a0 := h.textAt hi hj (b := 0) (by omega)
      have a1 := h.textAt hi hj (b := 1) (by omega)
      rw [Nat.add_zero] at a0
      rw [a0, a1]
      generalize (zss.getD i []).getD j 0 = z at *
      show 256 * ((z + 512) / 256) + (z + 512) % 256 - 512 = z
      omega
    · have l1 : (rdRow (textN n zss) n i).length = n := by simp [rdRow]
      rw [List.getElem?_eq_none (by rw [l1]; omega), List.getElem?_eq_none (by rw [hr]; omega)]
  · have l1 : (rdRows (textN n zss) n zss.length).length = zss.length := by simp [rdRows]
    rw [List.getElem?_eq_none (by rw [l1]; omega), List.getElem?_eq_none (by omega)]

theorem Fine.shp {n : Nat} {zss : List (List Int)} (h : Fine n zss) (hr : zss.length ≤ n) : Shp (textN n zss) n zss.length :=
  ⟨h.n1, h.n3, hr, rfl, rfl, h.textLen⟩

theorem basisRows_le {n : Nat} {T : Lat.St} (h1 : 0 < n) (hs : Lat.Shape T) (hf : Flat n T) : (basisRows n T).length ≤ n := by
  have hz := hf.z
  have hy := hf.y
  unfold basisRows
  by_cases n3 : n = 1
  · have a := hz (by omega); have b := hy (by omega)
    simp [a, b]
    split <;> simp <;> omega
  · by_cases n2 : n = 2
    · have a := hz (by omega)
      simp [a]
      split <;> split <;> simp <;> omega
    · split <;> split <;> split <;> simp <;> omega

theorem DecOK.nums {s : ByteArray} {n : Nat} {T : Lat.St} (h : DecOK s n T) : nums s = textN n (basisRows n T) := by
  rw [h.str]; unfold txt
  rw [Int.toNat_natCast]
  exact nums_str _ (Fine.of h.n1 h.n3 h.fits).textRange

theorem DecOK.shp {s : ByteArray} {n : Nat} {T : Lat.St} (h : DecOK s n T) : Shp (Go.Proofs.YtmlcblnndihjoaaGreat.nums s) n (basisRows n T).length := by
  rw [h.nums]; exact (Fine.of h.n1 h.n3 h.fits).shp (basisRows_le h.n1 h.shape h.flat)

theorem DecOK.rows {s : ByteArray} {n : Nat} {T : Lat.St} (h : DecOK s n T) : rdRows (Go.Proofs.YtmlcblnndihjoaaGreat.nums s) n (basisRows n T).length = basisRows n T := by
  rw [h.nums]; exact (Fine.of h.n1 h.n3 h.fits).rd

theorem Shp.one {xs : List Int} {n r n' r' : Nat} (h : Shp xs n r) (h' : Shp xs n' r') : n = n' ∧ r = r' := by
  have a := h.w; have b := h'.w; have c := h.c; have d := h'.c
  constructor <;> omega

theorem DecOK.canon {s : ByteArray} {n : Nat} {T : Lat.St} (h : DecOK s n T) : Lat.CanonOf T (vecs (basisRows n T)) :=
  ⟨h.shape, fun v => (basis_span h.n1 h.n3 h.shape h.flat v).symm⟩

theorem DecOK.one {s : ByteArray} {n n' : Nat} {T T' : Lat.St} (h : DecOK s n T) (h' : DecOK s n' T') : n = n' ∧ T = T' := by
  obtain ⟨rfl, hr⟩ := h.shp.one h'.shp
  refine ⟨rfl, ?_⟩
  have e : basisRows n T = basisRows n T' := by rw [← h.rows, ← h'.rows, hr]
  have c := h.canon
  rw [e] at c
  exact c.one h'.canon (fun v => Iff.rfl)

/-- what is read under the right shape is a text just if it is written so again -/
theorem dec_mk {s : ByteArray} {n r : Nat} {T : Lat.St} (h : Shp (nums s) n r) (hc : Lat.CanonOf T (vecs (rdRows (nums s) n r))) (hf : FitsS T) (hs : s = txt n T) : DecOK s n T :=
  ⟨h.n1, h.n3, hc.shape, flat_of hc (fun zs hz => by
    simp only [rdRows, List.mem_map] at hz
    obtain ⟨i, _, rfl⟩ := hz
    simp [rdRow]), hf, hs⟩

theorem dec_rd {s : ByteArray} {n r n' : Nat} {T' : Lat.St} (h : Shp (nums s) n r) (hd : DecOK s n' T') : n' = n ∧ rdRows (nums s) n r = basisRows n T' ∧ (rdRows (nums s) n r).all (goodB n) = true := by
  obtain ⟨rfl, e2⟩ := hd.shp.one h
  have hr := hd.rows
  rw [e2] at hr
  refine ⟨rfl, hr, ?_⟩
  have hF := Fine.of hd.n1 hd.n3 hd.fits
  rw [hr, List.all_eq_true]
  intro zs hz
  unfold goodB
  rw [Bool.and_eq_true, decide_eq_true_eq, List.all_eq_true]
  refine ⟨by rw [hF.each zs hz], fun z hz' => ?_⟩
  have := hF.ents zs hz z hz'
  rw [Bool.and_eq_true, decide_eq_true_eq, decide_eq_true_eq]; omega

theorem dec_same {s : ByteArray} {n r n' : Nat} {T T' : Lat.St} (h : Shp (nums s) n r) (hd : DecOK s n' T') (hc : Lat.CanonOf T (vecs (rdRows (nums s) n r))) : n' = n ∧ T = T' := by
  obtain ⟨rfl, e, _⟩ := dec_rd h hd
  rw [e] at hc
  exact ⟨rfl, hc.one hd.canon (fun v => Iff.rfl)⟩

end Go.Proofs.YtmlcblnndihjoaaGreat
