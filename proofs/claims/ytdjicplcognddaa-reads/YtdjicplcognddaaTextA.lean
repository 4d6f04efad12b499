import Derived.Test.YtdjicplcognddaaTabA
import Derived.Laws.BytesArg
set_option linter.unusedSimpArgs false
set_option linter.unusedVariables false
namespace Go.Proofs.Ytdjicplcognddaa
open Go.RowKit

/-- the bytes of a string, as numbers -/
def nums (s : ByteArray) : List Int := s.data.toList.map fun b => (b.toNat : Int)

theorem nums_length (s : ByteArray) : (nums s).length = s.size := by rw [nums, List.length_map]; rfl

theorem str_nums (s : ByteArray) : strOfNums (nums s) = s := by
  cases s with
  | mk d =>
    unfold strOfNums nums
    rw [List.map_map]
    have : (List.map ((fun n : Int => UInt8.ofNat n.toNat) ∘ fun b : UInt8 => (b.toNat : Int)) d.toList) = d.toList := by
      conv => rhs; rw [← List.map_id d.toList]
      apply List.map_congr_left
      intro b _
      simp
    rw [this]

theorem nums_range (s : ByteArray) : ∀ z ∈ nums s, 0 ≤ z ∧ z ≤ 255 := by
  intro z hz
  simp only [nums, List.mem_map] at hz
  obtain ⟨b, _, rfl⟩ := hz
  have := b.toNat_lt
  omega

theorem nums_str (xs : List Int) (h : ∀ z ∈ xs, 0 ≤ z ∧ z ≤ 255) : nums (strOfNums xs) = xs := by
  simp only [nums, strOfNums, List.map_map]
  conv => rhs; rw [← List.map_id xs]
  apply List.map_congr_left
  intro z hz
  have := h z hz
  simp only [Function.comp, id]
  have e : (UInt8.ofNat z.toNat).toNat = z.toNat := by rw [UInt8.toNat_ofNat']; omega
  rw [e]; omega

theorem str_append (xs ys : List Int) : strOfNums xs ++ strOfNums ys = strOfNums (xs ++ ys) := by
  apply ByteArray.ext
  simp [strOfNums]

theorem nums_getD (s : ByteArray) (k : Nat) (h : k < s.size) : 0 ≤ (nums s).getD k 0 ∧ (nums s).getD k 0 ≤ 255 := by
  have hl : k < (nums s).length := by rw [nums_length]; exact h
  rw [List.getD_eq_getElem?_getD, List.getElem?_eq_getElem hl]
  exact nums_range s _ (List.getElem_mem hl)

theorem index_str (s : ByteArray) (k : Nat) (h : k < s.size) (w : World) : (Instr.index 9 (.string s) (.int .i64 k)).run Try.prog w = .ok (.int .u8 ((nums s).getD k 0)) w := by
  rw [run_index_string w 9 s .i64 k (by kernel_rfl), dif_pos ⟨by omega, by omega⟩]
  have hl : k < (nums s).length := by rw [nums_length]; exact h
  rw [List.getD_eq_getElem?_getD, List.getElem?_eq_getElem hl]
  simp [nums]
  rfl

def sumN (xs : List Int) : Nat → Int
  | 0 => 7
  | k + 1 => sumN xs k + ((k : Int) + 1) * xs.getD k 0
def checkN (xs : List Int) : Int := sumN xs xs.length % 251

theorem sumN_le (xs : List Int) (h : ∀ z ∈ xs, 0 ≤ z ∧ z ≤ 255) (k : Nat) (hk : k ≤ 1000) : 7 ≤ sumN xs k ∧ sumN xs k ≤ 7 + 255 * (k : Int) * 1000 := by
  induction k with
  | zero => simp [sumN]
  | succ k ih =>
    have ih := ih (by omega)
    have hz : 0 ≤ xs.getD k 0 ∧ xs.getD k 0 ≤ 255 := by
      by_cases hl : k < xs.length
      · rw [List.getD_eq_getElem?_getD, List.getElem?_eq_getElem hl]; exact h _ (List.getElem_mem hl)
      · rw [List.getD_eq_getElem?_getD, List.getElem?_eq_none (by omega)]; simp
    simp only [sumN]
    generalize xs.getD k 0 = z at *
    have h1 : 0 ≤ ((k : Int) + 1) * z := Int.mul_nonneg (by omega) hz.1
    have h2 : ((k : Int) + 1) * z ≤ 1000 * 255 := by
      have a1 : ((k : Int) + 1) * z ≤ ((k : Int) + 1) * 255 := Int.mul_le_mul_of_nonneg_left hz.2 (by omega)
      omega
    omega

theorem sumN_take {xs ys : List Int} {k : Nat} (h : ∀ j, j < k → xs.getD j 0 = ys.getD j 0) : sumN xs k = sumN ys k := by
  induction k with
  | zero => rfl
  | succ k ih => simp only [sumN]; rw [ih (fun j hj => h j (by omega)), h k (by omega)]

theorem checkN_range (xs : List Int) : 0 ≤ checkN xs ∧ checkN xs ≤ 250 := by unfold checkN; omega

set_option maxRecDepth 100000 in
set_option maxHeartbeats 1000000 in
theorem check_any (s : ByteArray) (w : World) (h : s.size ≤ 1000) :
    Calls Try.prog 70 #[.string s] w fun e w' => e = .returned (.int .i64 (checkN (nums s))) ∧ w = w' := by
  have HX : Hid (∀ k, k < s.size → ∀ w, (Instr.index 9 (.string s) (.int .i64 k)).run Try.prog w = .ok (.int .u8 ((nums s).getD k 0)) w) := fun k hk w => index_str s k hk w
  have HZ : Hid (∀ k, k < s.size → 0 ≤ (nums s).getD k 0 ∧ (nums s).getD k 0 ≤ 255) := fun k hk => nums_getD s k hk
  have HL : Hid (∀ k, k ≤ 1000 → 7 ≤ sumN (nums s) k ∧ sumN (nums s) k ≤ 7 + 255 * (k : Int) * 1000) := fun k hk => sumN_le _ (nums_range s) k hk
  have HE : Hid (checkN (nums s) = sumN (nums s) s.size % 251) := by show checkN (nums s) = _; unfold checkN; rw [nums_length]
  generalize nums s = xs at *
  go_enter Try.func70, Try.ntmps70
  go_wp2
  go_loopg [3, 4] (s.size) (fun m t i wr => ∃ k : Nat, i = .int .i64 k ∧ k + m = s.size ∧ t = .int .i64 (sumN xs k) ∧ w = wr)
  case atStart => exact ⟨0, rfl, by omega, rfl, rfl⟩
  case round =>
    obtain ⟨k, rfl, hk, rfl, hw⟩ := hrel
    subst hw
    have hl := HL.out k (by omega)
    by_cases hlt : k < s.size
    · have hlt' : (k : Int) < (s.size : Int) := by omega
      have hx := HX.out k hlt
      have hz := HZ.out k hlt
      have HS : Hid (sumN xs (k + 1) = sumN xs k + ((k : Int) + 1) * xs.getD k 0) := rfl
      generalize xs.getD k 0 = z at *
      generalize sumN xs k = t at *
      have h1 : 0 ≤ ((k : Int) + 1) * z := Int.mul_nonneg (by omega) hz.1
      have h2 : ((k : Int) + 1) * z ≤ 1000 * 255 := by
        have a1 : ((k : Int) + 1) * z ≤ ((k : Int) + 1) * 255 := Int.mul_le_mul_of_nonneg_left hz.2 (by omega)
        omega
      obtain ⟨hz0, hz1⟩ := hz
      obtain ⟨hl0, hl1⟩ := hl
      have hw1 : wrap64 (((k : Int) + 1) * z) = ((k : Int) + 1) * z := IntWalk.wrap64_in _ (by omega)
      have hw2 : wrap64 (t + ((k : Int) + 1) * z) = t + ((k : Int) + 1) * z := IntWalk.wrap64_in _ (by omega)
      go_wp2
      go_roundg (gk - 1)
      case measure => omega
      case rel => exact ⟨k + 1, by go_num, by omega, by rw [HS.out], rfl⟩
    · have hke : k = s.size := by omega
      have hd : decide ((k : Int) < (s.size : Int)) = false := by simp; omega
      rw [← hke] at HE
      generalize sumN xs k = t at *
      have HT : Hid (7 ≤ t ∧ t ≤ 7 + 255 * (k : Int) * 1000) := hl
      clear hke hk HL
      go_wp2
      go_ret
      refine ⟨?_, rfl⟩
      rw [HE.out]
      have := HT.out
      refine congrArg (fun z => Ending.returned (Value.int IntKind.i64 z)) ?_
      rfl

set_option maxRecDepth 100000 in
set_option maxHeartbeats 1000000 in
theorem two_any (v : Int) (w : World) (h0 : 0 ≤ v) (h1 : v ≤ 65535) :
    Calls Try.prog 69 #[.int .i64 v] w fun e w' => e = .returned (.string (strOfNums [v / 256, v % 256])) ∧ Below w.heap.size w w' := by
  have hcv : ∀ (w0 : World) (x y : Int), (convert 93 9 (.slice (some ⟨w0.heap.size, 0, none⟩) 2 2)).run Try.prog (w0.alloc (.cells #[.int .u8 x, .int .u8 y] 5)) = .ok (.string (strOfNums [x, y])) (w0.alloc (.cells #[.int .u8 x, .int .u8 y] 5)) := fun w0 x y =>
    run_convert_bytes_arg (P := Try.prog) _ 93 5 (by kernel_rfl) (by kernel_rfl) w0.heap.size 0 2 2 [x, y] rfl (fun i hi => by
      rw [(Blk.new w0 #[Value.int .u8 x, .int .u8 y] 5 rfl).cell]
      have : i = 0 ∨ i = 1 := by omega
      rcases this with rfl | rfl <;> rfl) 9 (by kernel_rfl)
  go_enter Try.func69, Try.ntmps69
  go_wp2
  go_ret
  exact ⟨rfl, by go_grown⟩

end Go.Proofs.Ytdjicplcognddaa
