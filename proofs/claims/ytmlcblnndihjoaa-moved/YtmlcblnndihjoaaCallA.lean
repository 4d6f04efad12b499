import Derived.Test.YtmlcblnndihjoaaInts
namespace Go.Proofs.Ytmlcblnndihjoaa
open Go.RowKit

theorem ret_bool {a b : Bool} (h : a = b) : Ending.returned (Value.bool a) = .returned (.bool b) := by rw [h]

def entB (z : Int) : Bool := decide (z ≤ 511) && decide (-511 ≤ z)

theorem all_take {zs : List Int} {k : Nat} (h : k < zs.length) (p : Int → Bool) : (zs.take (k + 1)).all p = ((zs.take k).all p && p (zs.getD k 0)) := by
  rw [List.take_succ_eq_append_getElem h, List.all_append]
  simp [List.getD_eq_getElem?_getD, List.getElem?_eq_getElem h]

theorem all_false {zs : List Int} {k : Nat} (h : k < zs.length) {p : Int → Bool} (hp : p (zs.getD k 0) = false) : zs.all p = false := by
  rw [List.all_eq_false]
  refine ⟨zs.getD k 0, ?_, by rw [hp]; simp⟩
  simp [List.getD_eq_getElem?_getD, List.getElem?_eq_getElem h]

theorem isWidth_any (n : Int) (w : World) :
    Calls Try.prog 50 #[.int .i64 n] w fun e w' => e = .returned (.bool (decide (1 ≤ n) && decide (n ≤ 3))) ∧ w' = w := by
  by_cases h1 : 1 ≤ n
  · by_cases h2 : n ≤ 3
    · go_enter Try.func50, Try.ntmps50
      go_wp2
      go_ret
      exact ⟨ret_val (by simp [h1, h2]), rfl⟩
    · go_enter Try.func50, Try.ntmps50
      go_wp2
      go_ret
      exact ⟨ret_val (by simp [h2]), rfl⟩
  · have hd : decide (1 ≤ n) = false := by simpa using h1
    go_enter Try.func50, Try.ntmps50
    go_wp2
    go_ret
    exact ⟨ret_bool (a := false) (by simp), rfl⟩

set_option maxHeartbeats 400000 in
theorem isVector_any (n : Int) (v : Value) (zs : List Int) (w : World) (hv : IntsAt w v zs) (h1 : 1 ≤ n) (h3 : n ≤ 3) :
    Calls Try.prog 51 #[.int .i64 n, v, .int .i64 511] w fun e w' => e = .returned (.bool (goodB n zs)) ∧ w' = w := by
  by_cases hl : (zs.length : Int) = n
  · have hl' : ((zs.length : Int) != n) = false := by simpa using hl
    have h0 : 0 < zs.length := by omega
    rcases hv with ⟨rfl, _⟩ | ⟨_, b, o, cap, rfl, hc⟩
    · simp at h0
    have hlen : (zs.length : Int) ≤ 3 := by omega
    have HG : Hid (goodB n zs = zs.all entB) := by
      show goodB n zs = zs.all entB
      unfold goodB; rw [decide_eq_true hl, Bool.true_and]; rfl
    have HC : Hid (∀ i, i < zs.length → w.cell? ⟨b, o + i, none⟩ = some (.int .i64 (zs.getD i 0))) := hc
    clear hl hc
    go_enter Try.func51, Try.ntmps51
    go_wp2
    go_loop [7] (fun i => ∃ k : Nat, k ≤ zs.length ∧ i = .int .i64 k ∧ (zs.take k).all entB = true) (fun i => zs.length - (intOf i).toNat)
    case atStart => exact ⟨0, by omega, rfl, by simp⟩
    case round =>
      obtain ⟨k, hk, rfl, hall⟩ := hrel
      have HA : Hid ((zs.take k).all entB = true) := hall
      clear hall
      by_cases hlt : k < zs.length
      · have hcell := HC.out k hlt
        obtain ⟨z, hz⟩ : ∃ z, z = zs.getD k 0 := ⟨_, rfl⟩
        rw [← hz] at hcell
        have HZ : Hid (z = zs.getD k 0) := hz
        clear hz
        by_cases hg : 511 < z
        · go_wp2
          go_ret
          exact ⟨ret_bool (a := false) (by rw [HG.out, all_false hlt (by rw [← HZ.out]; simp [entB]; omega)]), rfl⟩
        · by_cases hg2 : z < -511
          · go_wp2
            go_ret
            exact ⟨ret_bool (a := false) (by rw [HG.out, all_false hlt (by rw [← HZ.out]; simp [entB]; omega)]), rfl⟩
          · have HE : Hid (entB z = true) := by show entB z = true; simp [entB]; omega
            go_wp2
            go_round
            case rel => exact ⟨k + 1, by omega, by go_num, by rw [all_take hlt, HA.out, ← HZ.out, HE.out]; rfl⟩
            case measure => simp [intOf]; omega
      · go_wp2
        go_ret
        have : k = zs.length := by omega
        subst this
        exact ⟨ret_bool (a := true) (by rw [HG.out]; have := HA.out; rw [List.take_length] at this; exact this.symm), rfl⟩
  · have hl' : ((zs.length : Int) != n) = true := by simpa using hl
    obtain ⟨a, cap, rfl⟩ := hv.slice
    clear hv
    go_enter Try.func51, Try.ntmps51
    go_wp2
    go_ret
    exact ⟨ret_val (by simp [goodB, hl]), rfl⟩

def entS (z : Int) : Bool := decide (z ≤ 4) && decide (-4 ≤ z)
/-- is it a vector of width n with no entry beyond 4? -/
def goodS (n : Int) (zs : List Int) : Bool := decide ((zs.length : Int) = n) && zs.all (fun z => decide (z ≤ 4) && decide (-4 ≤ z))
set_option maxHeartbeats 400000 in
theorem isVector4 (n : Int) (v : Value) (zs : List Int) (w : World) (hv : IntsAt w v zs) (h1 : 1 ≤ n) (h3 : n ≤ 3) :
    Calls Try.prog 51 #[.int .i64 n, v, .int .i64 4] w fun e w' => e = .returned (.bool (goodS n zs)) ∧ w' = w := by
  by_cases hl : (zs.length : Int) = n
  · have hl' : ((zs.length : Int) != n) = false := by simpa using hl
    have h0 : 0 < zs.length := by omega
    rcases hv with ⟨rfl, _⟩ | ⟨_, b, o, cap, rfl, hc⟩
    · simp at h0
    have hlen : (zs.length : Int) ≤ 3 := by omega
    have HG : Hid (goodS n zs = zs.all entS) := by
      show goodS n zs = zs.all entS
      unfold goodS; rw [decide_eq_true hl, Bool.true_and]; rfl
    have HC : Hid (∀ i, i < zs.length → w.cell? ⟨b, o + i, none⟩ = some (.int .i64 (zs.getD i 0))) := hc
    clear hl hc
    go_enter Try.func51, Try.ntmps51
    go_wp2
    go_loop [7] (fun i => ∃ k : Nat, k ≤ zs.length ∧ i = .int .i64 k ∧ (zs.take k).all entS = true) (fun i => zs.length - (intOf i).toNat)
    case atStart => exact ⟨0, by omega, rfl, by simp⟩
    case round =>
      obtain ⟨k, hk, rfl, hall⟩ := hrel
      have HA : Hid ((zs.take k).all entS = true) := hall
      clear hall
      by_cases hlt : k < zs.length
      · have hcell := HC.out k hlt
        obtain ⟨z, hz⟩ : ∃ z, z = zs.getD k 0 := ⟨_, rfl⟩
        rw [← hz] at hcell
        have HZ : Hid (z = zs.getD k 0) := hz
        clear hz
        by_cases hg : 4 < z
        · go_wp2
          go_ret
          exact ⟨ret_bool (a := false) (by rw [HG.out, all_false hlt (by rw [← HZ.out]; simp [entS]; omega)]), rfl⟩
        · by_cases hg2 : z < -4
          · go_wp2
            go_ret
            exact ⟨ret_bool (a := false) (by rw [HG.out, all_false hlt (by rw [← HZ.out]; simp [entS]; omega)]), rfl⟩
          · have HE : Hid (entS z = true) := by show entS z = true; simp [entS]; omega
            go_wp2
            go_round
            case rel => exact ⟨k + 1, by omega, by go_num, by rw [all_take hlt, HA.out, ← HZ.out, HE.out]; rfl⟩
            case measure => simp [intOf]; omega
      · go_wp2
        go_ret
        have : k = zs.length := by omega
        subst this
        exact ⟨ret_bool (a := true) (by rw [HG.out]; have := HA.out; rw [List.take_length] at this; exact this.symm), rfl⟩
  · have hl' : ((zs.length : Int) != n) = true := by simpa using hl
    obtain ⟨a, cap, rfl⟩ := hv.slice
    clear hv
    go_enter Try.func51, Try.ntmps51
    go_wp2
    go_ret
    exact ⟨ret_val (by simp [goodS, hl]), rfl⟩

end Go.Proofs.Ytmlcblnndihjoaa
