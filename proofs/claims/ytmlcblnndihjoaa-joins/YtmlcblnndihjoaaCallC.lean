import Derived.Test.YtmlcblnndihjoaaCallB
namespace Go.Proofs.Ytmlcblnndihjoaa
open Go.RowKit

def givenB (n : Int) (zss : List (List Int)) : Bool := decide (zss.length ≤ 6) && zss.all (goodB n)

theorem all_takeR {zss : List (List Int)} {k : Nat} (h : k < zss.length) (p : List Int → Bool) : (zss.take (k + 1)).all p = ((zss.take k).all p && p (zss.getD k [])) := by
  rw [List.take_succ_eq_append_getElem h, List.all_append]
  simp [List.getD_eq_getElem?_getD, List.getElem?_eq_getElem h]

theorem all_falseR {zss : List (List Int)} {k : Nat} (h : k < zss.length) {p : List Int → Bool} (hp : p (zss.getD k []) = false) : zss.all p = false := by
  rw [List.all_eq_false]
  refine ⟨zss.getD k [], ?_, by rw [hp]; simp⟩
  simp [List.getD_eq_getElem?_getD, List.getElem?_eq_getElem h]

theorem ret_int {a b : Int} (h : a = b) : Ending.returned (Value.int .i64 a) = .returned (.int .i64 b) := by rw [h]

/-- the error of vectors that are handed in -/
def givenE (n : Int) (zss : List (List Int)) : Int := if (decide (1 ≤ n) && decide (n ≤ 3)) = true then (if givenB n zss = true then 0 else 2) else 1

set_option maxHeartbeats 400000 in
theorem checkRows_any (n : Int) (v : Value) (zss : List (List Int)) (w : World) (hv : RowsAt w v zss) :
    Calls Try.prog 69 #[.int .i64 n, v] w fun e w' => e = .returned (.int .i64 (givenE n zss)) ∧ w' = w := by
  by_cases hw : (decide (1 ≤ n) && decide (n ≤ 3)) = true
  · have HW := hw
    rw [Bool.and_eq_true, decide_eq_true_eq, decide_eq_true_eq] at HW
    obtain ⟨h1, h3⟩ := HW
    have hiw : ∀ w0, Calls Try.prog 50 #[.int .i64 n] w0 fun e w' => e = .returned (.bool true) ∧ w' = w0 := fun w0 => by
      have := isWidth_any n w0; rw [hw] at this; exact this
    by_cases hl : zss.length ≤ 6
    · have hl' : ¬ (6 : Int) < (zss.length : Int) := by omega
      have HG : Hid (givenE n zss = if zss.all (goodB n) = true then 0 else 2) := by
        show givenE n zss = _
        unfold givenE givenB; rw [if_pos hw, decide_eq_true hl, Bool.true_and]
      clear hw
      by_cases h0 : zss = []
      · subst h0
        obtain ⟨a, cap, rfl⟩ := hv.slice
        clear hv
        have HG' : Hid (givenE n [] = 0) := by rw [HG.out]; rfl
        clear HG
        go_enter Try.func69, Try.ntmps69
        go_wp2_with (go_at_call 50; refine (hiw _).mono ?_; rintro e w' ⟨rfl, hq'⟩; replace hq' := hq'.symm; subst hq')
        refine wp_loop_rounds 1 ?_
        rw [rounds_succ]
        go_wp2
        go_ret
        exact ⟨ret_int (a := 0) HG'.out.symm, rfl⟩
      · rcases hv with ⟨rfl, _⟩ | ⟨hz0, b, o, cap, rfl, hc⟩
        · exact absurd rfl h0
        have HC : Hid (∀ i, i < zss.length → ∃ x, w.cell? ⟨b, o + i, none⟩ = some x ∧ IntsAt w x (zss.getD i [])) := hc
        clear hc h0
        go_enter Try.func69, Try.ntmps69
        go_wp2_with (go_at_call 50; refine (hiw _).mono ?_; rintro e w' ⟨rfl, hq'⟩; replace hq' := hq'.symm; subst hq')
        go_loop [5] (fun i => ∃ k : Nat, k ≤ zss.length ∧ i = .int .i64 k ∧ (zss.take k).all (goodB n) = true) (fun i => zss.length - (intOf i).toNat)
        case atStart => exact ⟨0, by omega, rfl, by simp⟩
        case round =>
          obtain ⟨k, hk, rfl, hall⟩ := hrel
          have HA : Hid ((zss.take k).all (goodB n) = true) := hall
          clear hall hiw
          by_cases hlt : k < zss.length
          · obtain ⟨x, hcell, hx⟩ := HC.out k hlt
            have hgv : ∀ w0, w0 = w → Calls Try.prog 51 #[.int .i64 n, x, .int .i64 511] w0 fun e w' => e = .returned (.bool (goodB n (zss.getD k []))) ∧ w' = w0 := fun w0 e => by
              rw [e]; exact isVector_any n x _ w hx h1 h3
            have HX : Hid (IntsAt w x (zss.getD k [])) := hx
            clear hx
            cases hgb : goodB n (zss.getD k [])
            · rw [hgb] at hgv
              have HB : Hid (goodB n (zss.getD k []) = false) := hgb
              clear hgb
              go_wp2_with (go_at_call 51; refine (hgv _ rfl).mono ?_; rintro e w' ⟨rfl, hq'⟩; replace hq' := hq'.symm; subst hq')
              go_ret
              exact ⟨ret_int (a := 2) (by rw [HG.out, all_falseR hlt HB.out]; simp), rfl⟩
            · rw [hgb] at hgv
              have HB : Hid (goodB n (zss.getD k []) = true) := hgb
              clear hgb
              go_wp2_with (go_at_call 51; refine (hgv _ rfl).mono ?_; rintro e w' ⟨rfl, hq'⟩; replace hq' := hq'.symm; subst hq')
              go_round
              case rel => exact ⟨k + 1, by omega, by go_num, by rw [all_takeR hlt, HA.out, HB.out]; rfl⟩
              case measure => simp [intOf]; omega
          · go_wp2
            go_ret
            have : k = zss.length := by omega
            subst this
            have := HA.out; rw [List.take_length] at this
            exact ⟨ret_int (a := 0) (by rw [HG.out, if_pos this]), rfl⟩
    · have hl' : (6 : Int) < (zss.length : Int) := by omega
      have HG : Hid (givenE n zss = 2) := by
        show givenE n zss = 2
        unfold givenE givenB; rw [if_pos hw, decide_eq_false hl, Bool.false_and]; simp
      clear hw
      obtain ⟨a, cap, rfl⟩ := hv.slice
      clear hv
      go_enter Try.func69, Try.ntmps69
      go_wp2_with (go_at_call 50; refine (hiw _).mono ?_; rintro e w' ⟨rfl, hq'⟩; replace hq' := hq'.symm; subst hq')
      go_ret
      exact ⟨ret_int (a := 2) HG.out.symm, rfl⟩
  · have hwf : (decide (1 ≤ n) && decide (n ≤ 3)) = false := by simpa using hw
    have hiw : ∀ w0, Calls Try.prog 50 #[.int .i64 n] w0 fun e w' => e = .returned (.bool false) ∧ w' = w0 := fun w0 => by
      have := isWidth_any n w0; rw [hwf] at this; exact this
    have HG : Hid (givenE n zss = 1) := by
      show givenE n zss = 1
      unfold givenE; rw [if_neg hw]
    clear hw hwf
    obtain ⟨a, cap, rfl⟩ := hv.slice
    clear hv
    go_enter Try.func69, Try.ntmps69
    go_wp2_with (go_at_call 50; refine (hiw _).mono ?_; rintro e w' ⟨rfl, hq'⟩; replace hq' := hq'.symm; subst hq')
    go_ret
    exact ⟨ret_int (a := 1) HG.out.symm, rfl⟩

end Go.Proofs.Ytmlcblnndihjoaa
