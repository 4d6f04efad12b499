import Derived.Test.YtmlcblnndihjoaaGreatTabA
import Derived.Laws.BytesArg
import Derived.Test.YtmlcblnndihjoaaGreatBasis
set_option linter.unusedSimpArgs false
set_option linter.unusedVariables false
namespace Go.Proofs.YtmlcblnndihjoaaGreat
open Go.RowKit

/-- the bytes of a string, as numbers -/
def nums (s : ByteArray) : List Int := s.data.toList.map fun b => (b.toNat : Int)

theorem nums_length (s : ByteArray) : (nums s).length = s.size := by rw [nums, List.length_map]; rfl

theorem str_nums (s : ByteArray) : strOfNums (nums s) = s := by
  cases s with
  | mk d =>
    unfold strOfNums nums
    rw [List.map_map]
    have : (List.map ((fun n : Int => UInt8.ofNat n.toNat) ∘ fun b : UInt8 => (b.toNat : Int)) d.toList) = d.toList := by
      conv => rhs; rw [← List.map_id d.toList]
      apply List.map_congr_left
      intro b _
      simp
    rw [this]

theorem nums_range (s : ByteArray) : ∀ z ∈ nums s, 0 ≤ z ∧ z ≤ 255 := by
  intro z hz
  simp only [nums, List.mem_map] at hz
  obtain ⟨b, _, rfl⟩ := hz
  have := b.toNat_lt
  omega

theorem nums_str (xs : List Int) (h : ∀ z ∈ xs, 0 ≤ z ∧ z ≤ 255) : nums (strOfNums xs) = xs := by
  simp only [nums, strOfNums, List.map_map]
  conv => rhs; rw [← List.map_id xs]
  apply List.map_congr_left
  intro z hz
  have := h z hz
  simp only [Function.comp, id]
  have e : (UInt8.ofNat z.toNat).toNat = z.toNat := by rw [UInt8.toNat_ofNat']; omega
  rw [e]; omega

theorem str_append (xs ys : List Int) : strOfNums xs ++ strOfNums ys = strOfNums (xs ++ ys) := by
  apply ByteArray.ext
  simp [strOfNums]

theorem nums_getD (s : ByteArray) (k : Nat) (h : k < s.size) : 0 ≤ (nums s).getD k 0 ∧ (nums s).getD k 0 ≤ 255 := by
  have hl : k < (nums s).length := by rw [nums_length]; exact h
  rw [List.getD_eq_getElem?_getD, List.getElem?_eq_getElem hl]
  exact nums_range s _ (List.getElem_mem hl)

theorem index_str (s : ByteArray) (k : Nat) (h : k < s.size) (w : World) : (Instr.index 9 (.string s) (.int .i64 k)).run Tryz.prog w = .ok (.int .u8 ((nums s).getD k 0)) w := by
  rw [run_index_string w 9 s .i64 k (by kernel_rfl), dif_pos ⟨by omega, by omega⟩]
  have hl : k < (nums s).length := by rw [nums_length]; exact h
  rw [List.getD_eq_getElem?_getD, List.getElem?_eq_getElem hl]
  simp [nums]
  rfl

def sumN (xs : List Int) : Nat → Int
  | 0 => 7
  | k + 1 => sumN xs k + ((k : Int) + 1) * xs.getD k 0
def checkN (xs : List Int) : Int := sumN xs xs.length % 251

theorem sumN_le (xs : List Int) (h : ∀ z ∈ xs, 0 ≤ z ∧ z ≤ 255) (k : Nat) (hk : k ≤ 1000) : 7 ≤ sumN xs k ∧ sumN xs k ≤ 7 + 255 * (k : Int) * 1000 := by
  induction k with
  | zero => simp [sumN]
  | succ k ih =>
    have ih := ih (by omega)
    have hz : 0 ≤ xs.getD k 0 ∧ xs.getD k 0 ≤ 255 := by
      by_cases hl : k < xs.length
      · rw [List.getD_eq_getElem?_getD, List.getElem?_eq_getElem hl]; exact h _ (List.getElem_mem hl)
      · rw [List.getD_eq_getElem?_getD, List.getElem?_eq_none (by omega)]; simp
    simp only [sumN]
    generalize xs.getD k 0 = z at *
    have h1 : 0 ≤ ((k : Int) + 1) * z := Int.mul_nonneg (by omega) hz.1
    have h2 : ((k : Int) + 1) * z ≤ 1000 * 255 := by
      have a1 : ((k : Int) + 1) * z ≤ ((k : Int) + 1) * 255 := Int.mul_le_mul_of_nonneg_left hz.2 (by omega)
      omega
    omega

theorem sumN_take {xs ys : List Int} {k : Nat} (h : ∀ j, j < k → xs.getD j 0 = ys.getD j 0) : sumN xs k = sumN ys k := by
  induction k with
  | zero => rfl
  | succ k ih => simp only [sumN]; rw [ih (fun j hj => h j (by omega)), h k (by omega)]

theorem checkN_range (xs : List Int) : 0 ≤ checkN xs ∧ checkN xs ≤ 250 := by unfold checkN; omega

set_option maxRecDepth 100000 in
set_option maxHeartbeats 1000000 in
theorem check_any (s : ByteArray) (w : World) (h : s.size ≤ 1000) :
    Calls Tryz.prog 75 #[.string s] w fun e w' => e = .returned (.int .i64 (checkN (nums s))) ∧ w = w' := by
  have HX : Hid (∀ k, k < s.size → ∀ w, (Instr.index 9 (.string s) (.int .i64 k)).run Tryz.prog w = .ok (.int .u8 ((nums s).getD k 0)) w) := fun k hk w => index_str s k hk w
  have HZ : Hid (∀ k, k < s.size → 0 ≤ (nums s).getD k 0 ∧ (nums s).getD k 0 ≤ 255) := fun k hk => nums_getD s k hk
  have HL : Hid (∀ k, k ≤ 1000 → 7 ≤ sumN (nums s) k ∧ sumN (nums s) k ≤ 7 + 255 * (k : Int) * 1000) := fun k hk => sumN_le _ (nums_range s) k hk
  have HE : Hid (checkN (nums s) = sumN (nums s) s.size % 251) := by show checkN (nums s) = _; unfold checkN; rw [nums_length]
  generalize nums s = xs at *
  go_enter Tryz.func75, Tryz.ntmps75
  go_wp2
  go_loopg [3, 4] (s.size) (fun m t i wr => ∃ k : Nat, i = .int .i64 k ∧ k + m = s.size ∧ t = .int .i64 (sumN xs k) ∧ w = wr)
  case atStart => exact ⟨0, rfl, by omega, rfl, rfl⟩
  case round =>
    obtain ⟨k, rfl, hk, rfl, hw⟩ := hrel
    subst hw
    have hl := HL.out k (by omega)
    by_cases hlt : k < s.size
    · have hlt' : (k : Int) < (s.size : Int) := by omega
      have hx := HX.out k hlt
      have hz := HZ.out k hlt
      have HS : Hid (sumN xs (k + 1) = sumN xs k + ((k : Int) + 1) * xs.getD k 0) := rfl
      generalize xs.getD k 0 = z at *
      generalize sumN xs k = t at *
      have h1 : 0 ≤ ((k : Int) + 1) * z := Int.mul_nonneg (by omega) hz.1
      have h2 : ((k : Int) + 1) * z ≤ 1000 * 255 := by
        have a1 : ((k : Int) + 1) * z ≤ ((k : Int) + 1) * 255 := Int.mul_le_mul_of_nonneg_left hz.2 (by omega)
        omega
      obtain ⟨hz0, hz1⟩ := hz
      obtain ⟨hl0, hl1⟩ := hl
      have hw1 : wrap64 (((k : Int) + 1) * z) = ((k : Int) + 1) * z := IntWalk.wrap64_in _ (by omega)
      have hw2 : wrap64 (t + ((k : Int) + 1) * z) = t + ((k : Int) + 1) * z := IntWalk.wrap64_in _ (by omega)
      go_wp2
      go_roundg (gk - 1)
      case measure => omega
      case rel => exact ⟨k + 1, by go_num, by omega, by rw [HS.out], rfl⟩
    · have hke : k = s.size := by omega
      have hd : decide ((k : Int) < (s.size : Int)) = false := by simp; omega
      rw [← hke] at HE
      generalize sumN xs k = t at *
      have HT : Hid (7 ≤ t ∧ t ≤ 7 + 255 * (k : Int) * 1000) := hl
      clear hke hk HL
      go_wp2
      go_ret
      refine ⟨?_, rfl⟩
      rw [HE.out]
      have := HT.out
      refine congrArg (fun z => Ending.returned (Value.int IntKind.i64 z)) ?_
      rfl

set_option maxRecDepth 100000 in
set_option maxHeartbeats 1000000 in
theorem two_any (v : Int) (w : World) (h0 : 0 ≤ v) (h1 : v ≤ 65535) :
    Calls Tryz.prog 74 #[.int .i64 v] w fun e w' => e = .returned (.string (strOfNums [v / 256, v % 256])) ∧ Below w.heap.size w w' := by
  have hcv : ∀ (w0 : World) (x y : Int), (convert 111 9 (.slice (some ⟨w0.heap.size, 0, none⟩) 2 2)).run Tryz.prog (w0.alloc (.cells #[.int .u8 x, .int .u8 y] 5)) = .ok (.string (strOfNums [x, y])) (w0.alloc (.cells #[.int .u8 x, .int .u8 y] 5)) := fun w0 x y =>
    run_convert_bytes_arg (P := Tryz.prog) _ 111 5 (by kernel_rfl) (by kernel_rfl) w0.heap.size 0 2 2 [x, y] rfl (fun i hi => by
      rw [(Blk.new w0 #[Value.int .u8 x, .int .u8 y] 5 rfl).cell]
      have : i = 0 ∨ i = 1 := by omega
      rcases this with rfl | rfl <;> rfl) 9 (by kernel_rfl)
  go_enter Tryz.func74, Tryz.ntmps74
  go_wp2
  go_ret
  exact ⟨rfl, by go_grown⟩

end Go.Proofs.YtmlcblnndihjoaaGreat

namespace Go.Proofs.YtmlcblnndihjoaaGreat
open Go.RowKit

def entN (z : Int) : List Int := [(z + 512) / 256, (z + 512) % 256]
def rowN (zs : List Int) : List Int := zs.flatMap entN
def bodyN (n : Nat) (zss : List (List Int)) : List Int := [(n : Int), (zss.length : Int)] ++ zss.flatMap rowN
def textN (n : Nat) (zss : List (List Int)) : List Int := bodyN n zss ++ [checkN (bodyN n zss)]
def partN (n : Nat) (zss : List (List Int)) (i j : Nat) : List Int := [(n : Int), (zss.length : Int)] ++ (zss.take i).flatMap rowN ++ ((zss.getD i []).take j).flatMap entN

theorem partN_zero (n : Nat) (zss : List (List Int)) : partN n zss 0 0 = [(n : Int), (zss.length : Int)] := by simp [partN]

theorem partN_step (n : Nat) (zss : List (List Int)) (i j : Nat) (h : j < (zss.getD i []).length) : partN n zss i (j + 1) = partN n zss i j ++ entN ((zss.getD i []).getD j 0) := by
  unfold partN
  generalize zss.getD i [] = zs at *
  rw [List.take_succ_eq_append_getElem h, List.flatMap_append, ← List.append_assoc]
  congr 1
  simp [List.getD_eq_getElem?_getD, List.getElem?_eq_getElem h]

theorem partN_row (n : Nat) (zss : List (List Int)) (i : Nat) (h : i < zss.length) : partN n zss i (zss.getD i []).length = partN n zss (i + 1) 0 := by
  unfold partN
  rw [List.take_length, List.take_zero, List.take_succ_eq_append_getElem h, List.flatMap_append]
  have : zss.getD i [] = zss[i] := by simp [List.getD_eq_getElem?_getD, h]
  rw [this]
  simp [rowN]

theorem partN_all (n : Nat) (zss : List (List Int)) : partN n zss zss.length 0 = bodyN n zss := by
  unfold partN bodyN; simp

theorem flat_len {α : Type} (l : List α) (f : α → List Int) (k : Nat) (h : ∀ x ∈ l, (f x).length ≤ k) : (l.flatMap f).length ≤ l.length * k := by
  induction l with
  | nil => simp
  | cons x l ih =>
    simp only [List.flatMap_cons, List.length_append, List.length_cons]
    have h1 := h x (by simp)
    have h2 := ih (fun y hy => h y (by simp [hy]))
    rw [Nat.succ_mul]; omega

theorem rowN_len (zs : List Int) : (rowN zs).length ≤ zs.length * 2 := flat_len zs entN 2 (fun x _ => by simp [entN])

/-- rows such as a text is made of -/
structure Fine (n : Nat) (zss : List (List Int)) : Prop where
  n1 : 1 ≤ n
  n3 : n ≤ 3
  len : zss.length ≤ 6
  each : ∀ zs ∈ zss, zs.length = n
  ents : ∀ zs ∈ zss, ∀ z ∈ zs, -511 ≤ z ∧ z ≤ 511

theorem Fine.body_len {n : Nat} {zss : List (List Int)} (h : Fine n zss) : (bodyN n zss).length ≤ 100 := by
  have := flat_len zss rowN 6 (fun zs hz => by have := rowN_len zs; have := h.each zs hz; have := h.n3; omega)
  have hl := h.len
  unfold bodyN
  simp only [List.length_append, List.length_cons, List.length_nil]
  omega

theorem entN_range {z : Int} (h : -511 ≤ z ∧ z ≤ 511) : ∀ x ∈ entN z, 0 ≤ x ∧ x ≤ 255 := by
  intro x hx
  simp only [entN, List.mem_cons, List.not_mem_nil, or_false] at hx
  rcases hx with rfl | rfl <;> omega

theorem Fine.body_range {n : Nat} {zss : List (List Int)} (h : Fine n zss) : ∀ x ∈ bodyN n zss, 0 ≤ x ∧ x ≤ 255 := by
  intro x hx
  unfold bodyN at hx
  rw [List.mem_append] at hx
  rcases hx with hx | hx
  · have := h.n3; have := h.len
    simp only [List.mem_cons, List.not_mem_nil, or_false] at hx
    rcases hx with rfl | rfl <;> omega
  · rw [List.mem_flatMap] at hx
    obtain ⟨zs, hz, hx⟩ := hx
    unfold rowN at hx
    rw [List.mem_flatMap] at hx
    obtain ⟨z, hz', hx⟩ := hx
    exact entN_range (h.ents zs hz z hz') x hx

theorem Fine.row {n : Nat} {zss : List (List Int)} (h : Fine n zss) {i : Nat} (hi : i < zss.length) : (zss.getD i []).length = n ∧ ∀ z ∈ zss.getD i [], -511 ≤ z ∧ z ≤ 511 := by
  have e : zss.getD i [] = zss[i] := by simp [List.getD_eq_getElem?_getD, hi]
  rw [e]
  exact ⟨h.each _ (List.getElem_mem hi), h.ents _ (List.getElem_mem hi)⟩

theorem Fine.entry {n : Nat} {zss : List (List Int)} (h : Fine n zss) {i j : Nat} (hi : i < zss.length) (hj : j < n) : -511 ≤ (zss.getD i []).getD j 0 ∧ (zss.getD i []).getD j 0 ≤ 511 := by
  have hr := h.row hi
  generalize zss.getD i [] = zs at *
  have hj' : j < zs.length := by omega
  rw [List.getD_eq_getElem?_getD, List.getElem?_eq_getElem hj']
  exact hr.2 _ (List.getElem_mem hj')

theorem RowsAt.cellAt {w : World} {a : Option Addr} {m cap : Nat} {zss : List (List Int)} (h : RowsAt w (.slice a m cap) zss) {i : Nat} (hi : i < zss.length) :
    ∃ b o x, a = some ⟨b, o, none⟩ ∧ w.cell? ⟨b, o + i, none⟩ = some x ∧ IntsAt w x (zss.getD i []) := by
  rcases h with ⟨rfl, _⟩ | ⟨_, b, o, cap', e, hc⟩
  · simp at hi
  · injection e with e1 e2 e3
    obtain ⟨x, h1, h2⟩ := hc i hi
    exact ⟨b, o, x, e1, h1, h2⟩

theorem conv2 (w0 : World) (x y : Int) : (convert 111 9 (.slice (some ⟨w0.heap.size, 0, none⟩) 2 2)).run Tryz.prog (w0.alloc (.cells #[.int .u8 x, .int .u8 y] 5)) = .ok (.string (strOfNums [x, y])) (w0.alloc (.cells #[.int .u8 x, .int .u8 y] 5)) :=
  run_convert_bytes_arg (P := Tryz.prog) _ 111 5 (by kernel_rfl) (by kernel_rfl) w0.heap.size 0 2 2 [x, y] rfl (fun i hi => by
    rw [(Blk.new w0 #[Value.int .u8 x, .int .u8 y] 5 rfl).cell]
    have : i = 0 ∨ i = 1 := by omega
    rcases this with rfl | rfl <;> rfl) 9 (by kernel_rfl)
theorem conv1 (w0 : World) (x : Int) : (convert 111 9 (.slice (some ⟨w0.heap.size, 0, none⟩) 1 1)).run Tryz.prog (w0.alloc (.cells #[.int .u8 x] 5)) = .ok (.string (strOfNums [x])) (w0.alloc (.cells #[.int .u8 x] 5)) :=
  run_convert_bytes_arg (P := Tryz.prog) _ 111 5 (by kernel_rfl) (by kernel_rfl) w0.heap.size 0 1 1 [x] rfl (fun i hi => by
    rw [(Blk.new w0 #[Value.int .u8 x] 5 rfl).cell]
    have : i = 0 := by omega
    subst this; rfl) 9 (by kernel_rfl)

theorem strAdd (xs ys : List Int) (h : xs.length + ys.length ≤ 1000) (w : World) : (binOp .add 9 (.string (strOfNums xs)) (.string (strOfNums ys))).run Tryz.prog w = .ok (.string (strOfNums (xs ++ ys))) w := by
  rw [binOp_string_add, ← str_append]
  have h1 := strOfNums_size xs
  have h2 := strOfNums_size ys
  have h3 : ((strOfNums xs).size : Int) + ((strOfNums ys).size : Int) ≤ 9223372036854775807 := by omega
  simp [Op.stringOp, h1, h2]
  omega

theorem partN_len {n : Nat} {zss : List (List Int)} (h : Fine n zss) {i j : Nat} (hi : i < zss.length) : (partN n zss i j).length ≤ 100 := by
  have h1 := flat_len (zss.take i) rowN 6 (fun zs hz => by have := rowN_len zs; have := h.each zs (List.mem_of_mem_take hz); have := h.n3; omega)
  have h2 := flat_len ((zss.getD i []).take j) entN 2 (fun x _ => by simp [entN])
  have h3 := (h.row hi).1
  have h4 := h.n3
  have h5 := h.len
  have h6 : (zss.take i).length ≤ 6 := by rw [List.length_take]; omega
  have h7 : ((zss.getD i []).take j).length ≤ 3 := by rw [List.length_take]; omega
  unfold partN
  simp only [List.length_append, List.length_cons, List.length_nil]
  omega

set_option maxRecDepth 100000 in
set_option maxHeartbeats 2000000 in
theorem rtext_any (n : Nat) (v : Value) (zss : List (List Int)) (w : World) (hv : RowsAt w v zss) (hf : Fine n zss) :
    Calls Tryz.prog 50 #[.int .i64 n, v] w fun e w' => e = .returned (.string (strOfNums (textN n zss))) ∧ Below w.heap.size w w' := by
  have HV := hide0 hv
  have HF := hide0 hf
  obtain ⟨a, cap, rfl⟩ := hv.slice
  have hn1 := hf.n1
  have hn3 := hf.n3
  have hl6 := hf.len
  clear hv hf
  generalize hr : zss.length = r at *
  have HR := hide0 hr
  have H0 : Hid (partN n zss 0 0 = [(n : Int), (r : Int)]) := by rw [← hr]; exact partN_zero n zss
  clear hr
  have hc2 := conv2
  have hc1 := conv1
  have hnb : (n : Int) ≤ 3 := by omega
  have hrb : (r : Int) ≤ 6 := by omega
  go_enter Tryz.func50, Tryz.ntmps50
  go_wp2
  go_loopg [5, 6, 7, 8] (r) (fun mm s i u7 u8 wr => ∃ k : Nat, i = .int .i64 k ∧ k + mm = r ∧ s = .string (strOfNums (partN n zss k 0)) ∧ Below w.heap.size w wr)
  case atStart => exact ⟨0, rfl, by omega, by rw [H0.out], by go_grown⟩
  case round =>
    obtain ⟨k, rfl, hk, rfl, hB⟩ := hrel
    have HB := hide0 hB
    have hsB := hB.size
    clear hB
    by_cases hlt : k < r
    · have hlt' : (k : Int) < (r : Int) := by omega
      obtain ⟨g0, hg0⟩ : ∃ g0, g0 = gk := ⟨_, rfl⟩
      have HP : Hid (partN n zss k n = partN n zss (k + 1) 0) := by
        have := partN_row n zss k (by rw [HR.out]; exact hlt)
        rw [(HF.out.row (by rw [HR.out]; exact hlt)).1] at this
        exact this
      go_wp2
      go_loopg [5, 7, 8] (n) (fun mm s j u8 wr => ∃ q : Nat, j = .int .i64 q ∧ q + mm = n ∧ s = .string (strOfNums (partN n zss k q)) ∧ Below w.heap.size w wr)
      case atStart => exact ⟨0, rfl, by omega, rfl, HB.out⟩
      case round =>
      clear HB
      obtain ⟨q, rfl, hq, rfl, hB⟩ := hrel
      have HB := hide0 hB
      have hsB2 := hB.size
      by_cases hql : q < n
      · have hql' : (q : Int) < (n : Int) := by omega
        obtain ⟨b, o, x, rfl, h1, h2⟩ := (HV.out.below hB).cellAt (i := k) (by rw [HR.out]; exact hlt)
        have hrow := (HF.out.row (i := k) (by rw [HR.out]; exact hlt)).1
        obtain ⟨a2, c2, rfl⟩ := h2.slice
        rw [hrow] at h1
        obtain ⟨b2, o2, ea, h3⟩ := IntsAt.cellAt (m := _) (cap := _) h2 (i := q) (by rw [hrow]; exact hql)
        subst ea
        have hst := partN_step n zss k q (by rw [hrow]; exact hql)
        have hen := HF.out.entry (i := k) (j := q) (by rw [HR.out]; exact hlt) hql
        generalize (zss.getD k []).getD q 0 = z at *
        have HST := hide0 hst
        obtain ⟨he0, he1⟩ := hen
        have hpl := partN_len HF.out (i := k) (j := q) (by rw [HR.out]; exact hlt)
        generalize partN n zss k q = xs at *
        have hsx : (strOfNums xs).size ≤ 100 := by rw [strOfNums_size]; exact hpl
        have hse : (strOfNums (entN z)).size = 2 := by rw [strOfNums_size]; rfl
        have hgt : ¬ (strOfNums xs).size + (strOfNums (entN z)).size > 9223372036854775807 := by omega
        clear hst hB h2
        have HTW := hide0 (fun w0 => two_any (z + 511 + 1) w0 (by omega) (by omega))
        have hen2 : [(z + 511 + 1) / 256, (z + 511 + 1) % 256] = entN z := by rw [show z + 511 + 1 = z + 512 by omega]; rfl
        rw [hen2] at HTW
        clear hen2
        generalize entN z = es at *
        go_wp2_with fail
        refine (HTW.out _).mono ?_
        rintro e w1 ⟨rfl, hb1⟩
        have HB1 := hide0 (HB.out.trans (hb1.mono hsB2))
        clear hb1
        go_wp2
        go_roundg (gk - 1)
        case measure => omega
        case rel => exact ⟨q + 1, by go_num, by omega, by rw [HST.out, str_append], HB1.out⟩
      · have hd2 : decide ((q : Int) < (n : Int)) = false := by simp; omega
        have hqe : q = n := by omega
        rw [hqe, HP.out]
        clear hB hqe
        go_wp2
        go_roundg (g0 - 1)
        case measure => omega
        case rel => exact ⟨k + 1, by go_num, by omega, rfl, HB.out⟩
    · have hd : decide ((k : Int) < (r : Int)) = false := by simp; omega
      have hke : k = r := by omega
      have hall := partN_all n zss
      rw [HR.out] at hall
      rw [hke, hall]
      have hbl := HF.out.body_len
      have HBR := hide0 (nums_str _ HF.out.body_range)
      have HCK := hide0 (fun w0 => check_any (strOfNums (bodyN n zss)) w0 (by rw [strOfNums_size]; omega))
      have HTX : Hid (textN n zss = bodyN n zss ++ [checkN (bodyN n zss)]) := rfl
      have hcr := checkN_range (bodyN n zss)
      clear hall hke hk
      generalize bodyN n zss = xs at *
      rw [HBR.out] at HCK
      go_wp2_with fail
      refine (HCK.out _).mono ?_
      rintro e w' ⟨rfl, hq'⟩; subst hq'
      generalize checkN xs = cc at *
      obtain ⟨hc0, hc250⟩ := hcr
      have hsx : (strOfNums xs).size ≤ 100 := by rw [strOfNums_size]; exact hbl
      have hse : (strOfNums [cc]).size = 1 := by rw [strOfNums_size]; rfl
      have hgt : ¬ (strOfNums xs).size + (strOfNums [cc]).size > 9223372036854775807 := by omega
      have HST := hide0 (str_append xs [cc])
      go_wp2
      go_ret
      exact ⟨by rw [HTX.out, ← HST.out]; rfl, HB.out.alloc hsB _⟩

end Go.Proofs.YtmlcblnndihjoaaGreat

namespace Go.Proofs.YtmlcblnndihjoaaGreat
open Go.RowKit

theorem tinfo5 : (Tryz.prog.info? 5).map (fun i => (i.zero, i.size, i.bytes)) = some (some (.int .u8 0), 1, 1) := by kernel_rfl

/-- a list of bytes of the call's own -/
def BytesOwn (w : World) (B : Nat) (v : Value) (xs : List Int) : Prop := w.ownsRow B 5 1 v xs.length (xs.map (Value.int .u8))

theorem BytesOwn.cells {w : World} {B : Nat} {v : Value} {xs : List Int} (h : BytesOwn w B v xs) (h0 : 0 < xs.length) :
    ∃ g cap, v = .slice (some ⟨g, 0, none⟩) xs.length cap ∧ B ≤ g ∧ g < w.heap.size ∧ ∀ i, i < xs.length → w.cell? ⟨g, i, none⟩ = some (.int .u8 (xs.getD i 0)) := by
  obtain ⟨g, cap, h1, h2, h3⟩ := ownsRow_cell h h0
  refine ⟨g, cap, h1, h2, (h.lt g (by rw [h1]; rfl)).2, fun i hi => ?_⟩
  rw [h3 i hi, List.getElem?_map, List.getElem?_eq_getElem hi, List.getD_eq_getElem?_getD, List.getElem?_eq_getElem hi]
  rfl

theorem BytesOwn.conv {w : World} {B : Nat} {v : Value} {xs : List Int} (h : BytesOwn w B v xs) (h0 : 0 < xs.length) : (convert 111 9 v).run Tryz.prog w = .ok (.string (strOfNums xs)) w := by
  obtain ⟨g, cap, rfl, _, _, hc⟩ := h.cells h0
  exact run_convert_bytes_arg (P := Tryz.prog) _ 111 5 (by kernel_rfl) (by kernel_rfl) g 0 _ cap xs rfl (fun i hi => by rw [Nat.zero_add]; exact hc i hi) 9 (by kernel_rfl)

theorem conv_end {w : World} {B : Nat} {v : Value} {xs : List Int} {cc : Int} (h : w.ownsRow B 5 1 v (xs.length + 1) (xs.map (Value.int .u8) ++ [Value.int .u8 cc])) : (convert 111 9 v).run Tryz.prog w = .ok (.string (strOfNums (xs ++ [cc]))) w := by
  have : BytesOwn w B v (xs ++ [cc]) := by
    unfold BytesOwn
    rw [List.length_append, List.map_append]; exact h
  exact this.conv (by simp)

theorem BytesOwn.below {w w' : World} {B : Nat} {v : Value} {xs : List Int} (h : BytesOwn w B v xs) (hb : Below w.heap.size w w') : BytesOwn w' B v xs := ownsRow_below h hb (Nat.le_refl _)

set_option maxRecDepth 100000 in
set_option maxHeartbeats 1000000 in
theorem checkOf_any (v : Value) (B : Nat) (xs : List Int) (w : World) (hv : BytesOwn w B v xs) (hl : xs.length ≤ 1000) (hr : ∀ z ∈ xs, 0 ≤ z ∧ z ≤ 255) (h0 : 0 < xs.length) :
    Calls Tryz.prog 73 #[v] w fun e w' => e = .returned (.int .u8 (checkN xs)) ∧ w = w' := by
  obtain ⟨g, cap, rfl, hB, hg, hc⟩ := hv.cells h0
  have HC := hide0 hc
  have HZ : Hid (∀ k, k < xs.length → 0 ≤ xs.getD k 0 ∧ xs.getD k 0 ≤ 255) := fun k hk => by
    rw [List.getD_eq_getElem?_getD, List.getElem?_eq_getElem hk]; exact hr _ (List.getElem_mem hk)
  have HL : Hid (∀ k, k ≤ 1000 → 7 ≤ sumN xs k ∧ sumN xs k ≤ 7 + 255 * (k : Int) * 1000) := fun k hk => sumN_le _ hr k hk
  have HE : Hid (checkN xs = sumN xs xs.length % 251) := rfl
  clear hv hr hc
  generalize hn : xs.length = n at *
  clear hn
  go_enter Tryz.func73, Tryz.ntmps73
  go_wp2
  go_loopg [3, 4] (n) (fun m t i wr => ∃ k : Nat, i = .int .i64 k ∧ k + m = n ∧ t = .int .i64 (sumN xs k) ∧ w = wr)
  case atStart => exact ⟨0, rfl, by omega, rfl, rfl⟩
  case round =>
    obtain ⟨k, rfl, hk, rfl, hw⟩ := hrel
    subst hw
    have hl' := HL.out k (by omega)
    by_cases hlt : k < n
    · have hlt' : (k : Int) < (n : Int) := by omega
      have hx := HC.out k hlt
      have hz := HZ.out k hlt
      have HS : Hid (sumN xs (k + 1) = sumN xs k + ((k : Int) + 1) * xs.getD k 0) := rfl
      generalize xs.getD k 0 = z at *
      generalize sumN xs k = t at *
      have h1 : 0 ≤ ((k : Int) + 1) * z := Int.mul_nonneg (by omega) hz.1
      have h2 : ((k : Int) + 1) * z ≤ 1000 * 255 := by
        have a1 : ((k : Int) + 1) * z ≤ ((k : Int) + 1) * 255 := Int.mul_le_mul_of_nonneg_left hz.2 (by omega)
        omega
      obtain ⟨hz0, hz1⟩ := hz
      obtain ⟨hl0, hl1⟩ := hl'
      have hw1 : wrap64 (((k : Int) + 1) * z) = ((k : Int) + 1) * z := IntWalk.wrap64_in _ (by omega)
      have hw2 : wrap64 (t + ((k : Int) + 1) * z) = t + ((k : Int) + 1) * z := IntWalk.wrap64_in _ (by omega)
      go_wp2
      go_roundg (gk - 1)
      case measure => omega
      case rel => exact ⟨k + 1, by go_num, by omega, by rw [HS.out], rfl⟩
    · have hke : k = n := by omega
      have hd : decide ((k : Int) < (n : Int)) = false := by simp; omega
      rw [← hke] at HE
      generalize sumN xs k = t at *
      have hm1 : 0 ≤ t % 251 := by omega
      have hm2 : t % 251 ≤ 250 := by omega
      clear hke hk HL
      go_wp2
      go_ret
      refine ⟨?_, rfl⟩
      rw [HE.out]
      rfl

theorem Fine.of {n : Nat} {S : Lat.St} (h1 : 1 ≤ n) (h3 : n ≤ 3) (hf : FitsS S) : Fine n (basisRows n S) := by
  refine ⟨h1, h3, ?_, ?_, ?_⟩
  · unfold basisRows; repeat' split
    all_goals simp
  · intro zs hz
    unfold basisRows at hz
    simp only [List.mem_append] at hz
    rcases hz with (hz | hz) | hz <;> (split at hz <;> simp at hz <;> (subst hz; exact cutV_length _ h3))
  · intro zs hz z hz'
    have hh : ∀ v : Lat.V, Lat.Le 511 v → z ∈ cutV n v → -511 ≤ z ∧ z ≤ 511 := fun v hv hm => by
      have hm' := List.mem_of_mem_take hm
      obtain ⟨a, b, c⟩ : (-511 ≤ v.x ∧ v.x ≤ 511) ∧ (-511 ≤ v.y ∧ v.y ≤ 511) ∧ (-511 ≤ v.z ∧ v.z ≤ 511) := hv
      simp only [List.mem_cons, List.not_mem_nil, or_false] at hm'
      rcases hm' with rfl | rfl | rfl
      · exact a
      · exact b
      · exact c
    obtain ⟨fa, fb, fc⟩ := hf
    unfold basisRows at hz
    simp only [List.mem_append] at hz
    rcases hz with (hz | hz) | hz <;> (split at hz <;> simp at hz <;> subst hz)
    · exact hh _ fa hz'
    · exact hh _ fb hz'
    · exact hh _ fc hz'

set_option maxRecDepth 100000 in
set_option maxHeartbeats 4000000 in
theorem textOf_any (S : Lat.St) (n : Nat) (w : World) (h1 : 1 ≤ n) (h3 : n ≤ 3) (hf : FitsS S) :
    Calls Tryz.prog 49 #[.int .i64 n, .agg #[.int .i64 S.a.x, .int .i64 S.a.y, .int .i64 S.a.z, .int .i64 S.b.x, .int .i64 S.b.y, .int .i64 S.b.z, .int .i64 S.c.x, .int .i64 S.c.y, .int .i64 S.c.z]] w
      fun e w' => e = .returned (.string (strOfNums (textN n (basisRows n S)))) ∧ Below w.heap.size w w' := by
  have HF := hide0 (Fine.of h1 h3 hf)
  have HR : Hid (∀ w0, Calls Tryz.prog 34 #[.agg #[.int .i64 S.a.x, .int .i64 S.a.y, .int .i64 S.a.z, .int .i64 S.b.x, .int .i64 S.b.y, .int .i64 S.b.z, .int .i64 S.c.x, .int .i64 S.c.y, .int .i64 S.c.z], .int .i64 n] w0 fun e w' => (∃ out, e = .returned out ∧ RowsAt w' out (basisRows n S)) ∧ Below w0.heap.size w0 w') := fun w0 =>
    (spanRows_any S n w0 h1 h3).mono fun e w' ⟨⟨out, vs, e1, hO, _⟩, hb⟩ => ⟨⟨out, e1, hO.rowsAt (by omega)⟩, hb⟩
  obtain ⟨i0, hi, hz0, hz1, hz2⟩ := info_parts tinfo5
  have HI : Hid (Tryz.prog.info? 5 = some i0 ∧ i0.zero = some (.int .u8 0) ∧ i0.size = 1 ∧ i0.bytes = 1) := ⟨hi, hz0, hz1, hz2⟩
  clear hi hz0 hz1 hz2 hf
  generalize basisRows n S = zss at *
  go_enter Tryz.func49, Tryz.ntmps49
  go_wp2_with fail
  refine (HR.out _).mono ?_
  rintro e w1 ⟨⟨out, rfl, hrows⟩, hb1⟩
  have HV := hide0 hrows
  obtain ⟨a, cap, rfl⟩ := hrows.slice
  have hl6 := HF.out.len
  clear hrows HR
  generalize hr : zss.length = r at *
  have HRL := hide0 hr
  have H0 : Hid (partN n zss 0 0 = [(n : Int), (r : Int)]) := by rw [← hr]; exact partN_zero n zss
  clear hr
  have hnb : (n : Int) ≤ 3 := by omega
  have hrb : (r : Int) ≤ 6 := by omega
  have hs1 := hb1.size
  simp at hs1
  have HB1 : Hid (Below w.heap.size w w1) := (Below.alloc (Below.refl _ _) (Nat.le_refl _) _).trans (hb1.mono (by simp))
  clear hb1
  go_wp2
  go_loopg [6, 7, 8, 9] (r) (fun mm made i u8 u9 wr => ∃ k : Nat, i = .int .i64 k ∧ k + mm = r ∧ BytesOwn wr w1.heap.size made (partN n zss k 0) ∧ Below w1.heap.size w1 wr)
  case atStart =>
    refine ⟨0, rfl, by omega, ?_, by go_grown⟩
    rw [H0.out]
    have := World.ownsRow_lit (base := w1.heap.size) (e := 5) (size := 1) w1 #[.int .u8 n, .int .u8 r] 2 (Nat.le_refl _) (by simp [maxLen]) rfl
    exact this
  case round =>
    obtain ⟨k, rfl, hk, hM, hB⟩ := hrel
    have HB := hide0 hB
    have HM := hide0 hM
    clear hB hM
    by_cases hlt : k < r
    · have hlt' : (k : Int) < (r : Int) := by omega
      obtain ⟨g0, hg0⟩ : ∃ g0, g0 = gk := ⟨_, rfl⟩
      have HP : Hid (partN n zss k n = partN n zss (k + 1) 0) := by
        have := partN_row n zss k (by rw [HRL.out]; exact hlt)
        rw [(HF.out.row (by rw [HRL.out]; exact hlt)).1] at this
        exact this
      go_wp2
      go_loopg [6, 8, 9] (n) (fun mm made j u9 wr => ∃ q : Nat, j = .int .i64 q ∧ q + mm = n ∧ BytesOwn wr w1.heap.size made (partN n zss k q) ∧ Below w1.heap.size w1 wr)
      case atStart => exact ⟨0, rfl, by omega, HM.out, HB.out⟩
      case round =>
      clear HB HM
      obtain ⟨q, rfl, hq, hM, hB⟩ := hrel
      have HB := hide0 hB
      have HM := hide0 hM
      have hsB2 := hB.size
      obtain ⟨b, o, x, rfl, c1, c2⟩ := (HV.out.below hB).cellAt (i := k) (by rw [HRL.out]; exact hlt)
      have hrow := (HF.out.row (i := k) (by rw [HRL.out]; exact hlt)).1
      obtain ⟨a2, cp2, rfl⟩ := c2.slice
      rw [hrow] at c1
      by_cases hql : q < n
      · have hql' : (q : Int) < (n : Int) := by omega
        obtain ⟨b2, o2, ea, c3⟩ := IntsAt.cellAt (m := _) (cap := _) c2 (i := q) (by rw [hrow]; exact hql)
        subst ea
        have hst := partN_step n zss k q (by rw [hrow]; exact hql)
        have hen := HF.out.entry (i := k) (j := q) (by rw [HRL.out]; exact hlt) hql
        generalize (zss.getD k []).getD q 0 = z at *
        have HST := hide0 hst
        obtain ⟨he0, he1⟩ := hen
        have hpl := partN_len HF.out (i := k) (j := q) (by rw [HRL.out]; exact hlt)
        obtain ⟨hi, hz0, hz1, hz2⟩ := HI.out
        unfold BytesOwn at hM
        generalize partN n zss k q = xs at *
        clear hst hB c2
        go_wp2_with (at_builtin; refine wpList_append_lies _ rfl (.tmp 43) (.tmp 50) 111 rfl w1.heap.size 5 i0 (.int .u8 0) 1 1 Tryz.underlying111 hi hz0 hz1 hz2 rfl (by decide) _ _ _ rfl (World.ownsRow.alloc hM _) ⟨wr.heap.size, 0, none⟩ 2 2 [.int .u8 ((z + 512) / 256), .int .u8 ((z + 512) % 256)] rfl rfl (World.news_of_block (cs := #[.int .u8 ((z + 512) / 256), .int .u8 ((z + 512) % 256)]) (t := 5) (fr := (0, 0)) (Blk.new _ _ _ rfl)) (by intro u hu; simp at hu; rcases hu with rfl | rfl <;> rfl) (by omega) (by unfold maxLen; omega) (by omega) (by simp; omega) _ rfl ?_; intro g cap1 w2 hown1 hgrow hat hglt)
        go_roundg (gk - 1)
        case measure => omega
        case rel =>
          refine ⟨q + 1, by go_num, by omega, ?_, ((HB.out).alloc (by omega) _).grown hgrow (by simp; omega) (fun j hj => by have := (HM.out.lt j hj).1; omega)⟩
          rw [HST.out]
          unfold BytesOwn
          rw [List.length_append, List.map_append]
          exact hown1
      · have hd2 : decide ((q : Int) < (n : Int)) = false := by simp; omega
        have hqe : q = n := by omega
        have HQ := hide0 hqe
        clear hB hqe hM
        go_wp2
        go_roundg (g0 - 1)
        case measure => omega
        case rel =>
          refine ⟨k + 1, by go_num, by omega, ?_, HB.out⟩
          have := HM.out
          rw [HQ.out, HP.out] at this
          exact this
    · have hd : decide ((k : Int) < (r : Int)) = false := by simp; omega
      have hke : k = r := by omega
      have hall := partN_all n zss
      rw [HRL.out] at hall
      have hM := HM.out
      rw [hke, hall] at hM
      clear HM
      have HM := hide0 hM
      have hbl := HF.out.body_len
      have hbp : 0 < (bodyN n zss).length := by unfold bodyN; simp
      have hCK := checkOf_any _ _ _ wr hM (by omega) HF.out.body_range hbp
      have HCK := hide0 hCK
      have HTX : Hid (textN n zss = bodyN n zss ++ [checkN (bodyN n zss)]) := rfl
      have hcr := checkN_range (bodyN n zss)
      clear hall hke hk hM hCK
      generalize bodyN n zss = xs at *
      go_wp2_with fail
      refine HCK.out.mono ?_
      rintro e w' ⟨rfl, hq'⟩; subst hq'
      generalize checkN xs = cc at *
      obtain ⟨hc0, hc250⟩ := hcr
      obtain ⟨hi, hz0, hz1, hz2⟩ := HI.out
      have hM := HM.out
      have hsB := HB.out.size
      unfold BytesOwn at hM
      go_wp2_with (at_builtin; refine wpList_append_lies _ rfl (.tmp 54) (.tmp 56) 111 rfl w1.heap.size 5 i0 (.int .u8 0) 1 1 Tryz.underlying111 hi hz0 hz1 hz2 rfl (by decide) _ _ _ rfl (World.ownsRow.alloc hM _) ⟨wr.heap.size, 0, none⟩ 1 1 [.int .u8 cc] rfl rfl (World.news_of_block (cs := #[.int .u8 cc]) (t := 5) (fr := (0, 0)) (Blk.new _ _ _ rfl)) (by intro u hu; simp at hu; subst hu; rfl) (by omega) (by unfold maxLen; omega) (by omega) (by simp; omega) _ rfl ?_; intro g cap1 w2 hown1 hgrow hat hglt; have hcv := conv_end hown1)
      go_ret
      refine ⟨by rw [HTX.out]; rfl, ?_⟩
      have hb2 : Below w1.heap.size w1 w2 := ((HB.out).alloc (by have := HB.out.size; omega) _).grown hgrow (by have := HB.out.size; simp; omega) (fun j hj => by have := (HM.out.lt j hj).1; omega)
      exact HB1.out.trans (hb2.mono (by omega))

end Go.Proofs.YtmlcblnndihjoaaGreat
