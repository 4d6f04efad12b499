import Derived.Test.YtmlcblnndihjoaaGreatRefI
set_option linter.unusedSimpArgs false
set_option linter.unusedVariables false
namespace Go.Proofs.YtmlcblnndihjoaaGreat
open Go.RowKit

set_option maxHeartbeats 400000 in
theorem rgood_any (n : Int) (v : Value) (zs : List Int) (w : World) (hv : IntsAt w v zs) (h1 : 1 ≤ n) (h3 : n ≤ 3) :
    Calls Tryz.prog 46 #[.int .i64 n, v, .int .i64 511] w fun e w' => e = .returned (.bool (goodB n zs)) ∧ w' = w := by
  by_cases hl : (zs.length : Int) = n
  · have hl' : ((zs.length : Int) != n) = false := by simpa using hl
    have h0 : 0 < zs.length := by omega
    rcases hv with ⟨rfl, _⟩ | ⟨_, b, o, cap, rfl, hc⟩
    · simp at h0
    have hlen : zs.length ≤ 3 := by omega
    have HG : Hid (goodB n zs = zs.all entB) := by
      show goodB n zs = zs.all entB
      unfold goodB; rw [decide_eq_true hl, Bool.true_and]; rfl
    have HC : Hid (∀ i, i < zs.length → w.cell? ⟨b, o + i, none⟩ = some (.int .i64 (zs.getD i 0))) := hc
    clear hc
    subst hl
    clear h1 h3
    go_enter Tryz.func46, Tryz.ntmps46
    go_wp2
    go_loop [7] (fun i => ∃ k : Nat, k ≤ zs.length ∧ i = .int .i64 k ∧ (zs.take k).all entB = true) (fun i => zs.length - (intOf i).toNat)
    case atStart => exact ⟨0, by omega, rfl, by simp⟩
    case round =>
      obtain ⟨k, hk, rfl, hall⟩ := hrel
      have HA : Hid ((zs.take k).all entB = true) := hall
      clear hall
      by_cases hlt : k < zs.length
      · have hcell := HC.out k hlt
        obtain ⟨z, hz⟩ : ∃ z, z = zs.getD k 0 := ⟨_, rfl⟩
        rw [← hz] at hcell
        have HZ : Hid (z = zs.getD k 0) := hz
        clear hz
        by_cases hg : 511 < z
        · go_wp2
          go_ret
          exact ⟨ret_bool (a := false) (by rw [HG.out, all_false hlt (by rw [← HZ.out]; simp [entB]; omega)]), rfl⟩
        · by_cases hg2 : z < -511
          · go_wp2
            go_ret
            exact ⟨ret_bool (a := false) (by rw [HG.out, all_false hlt (by rw [← HZ.out]; simp [entB]; omega)]), rfl⟩
          · have HE : Hid (entB z = true) := by show entB z = true; simp [entB]; omega
            go_wp2
            go_round
            case rel => exact ⟨k + 1, by omega, by go_num, by rw [all_take hlt, HA.out, ← HZ.out, HE.out]; rfl⟩
            case measure => simp [intOf]; omega
      · go_wp2
        go_ret
        have : k = zs.length := by omega
        subst this
        exact ⟨ret_bool (a := true) (by rw [HG.out]; have := HA.out; rw [List.take_length] at this; exact this.symm), rfl⟩
  · have hl' : ((zs.length : Int) != n) = true := by simpa using hl
    obtain ⟨a, cap, rfl⟩ := hv.slice
    clear hv
    go_enter Tryz.func46, Tryz.ntmps46
    go_wp2
    go_ret
    exact ⟨ret_val (by simp [goodB, hl]), rfl⟩

set_option maxHeartbeats 400000 in
theorem rgiven_any (n : Int) (v : Value) (zss : List (List Int)) (w : World) (hv : RowsAt w v zss) :
    Calls Tryz.prog 35 #[.int .i64 n, v] w fun e w' => e = .returned (.int .i64 (givenE n zss)) ∧ w' = w := by
  by_cases hw : (decide (1 ≤ n) && decide (n ≤ 3)) = true
  · have HW := hw
    rw [Bool.and_eq_true, decide_eq_true_eq, decide_eq_true_eq] at HW
    obtain ⟨h1, h3⟩ := HW
    by_cases hl : zss.length ≤ 6
    · have hl' : ¬ (6 : Int) < (zss.length : Int) := by omega
      have HG : Hid (givenE n zss = if zss.all (goodB n) = true then 0 else 2) := by
        show givenE n zss = _
        unfold givenE givenB; rw [if_pos hw, decide_eq_true hl, Bool.true_and]
      clear hw
      by_cases h0 : zss = []
      · subst h0
        obtain ⟨a, cap, rfl⟩ := hv.slice
        clear hv
        have HG' : Hid (givenE n [] = 0) := by rw [HG.out]; rfl
        clear HG
        go_enter Tryz.func35, Tryz.ntmps35
        go_wp2
        refine wp_loop_rounds 1 ?_
        rw [rounds_succ]
        go_wp2
        go_ret
        exact ⟨ret_int (a := 0) HG'.out.symm, rfl⟩
      · rcases hv with ⟨rfl, _⟩ | ⟨hz0, b, o, cap, rfl, hc⟩
        · exact absurd rfl h0
        have HC : Hid (∀ i, i < zss.length → ∃ x, w.cell? ⟨b, o + i, none⟩ = some x ∧ IntsAt w x (zss.getD i [])) := hc
        clear hc h0
        go_enter Tryz.func35, Tryz.ntmps35
        go_wp2
        go_loop [5] (fun i => ∃ k : Nat, k ≤ zss.length ∧ i = .int .i64 k ∧ (zss.take k).all (goodB n) = true) (fun i => zss.length - (intOf i).toNat)
        case atStart => exact ⟨0, by omega, rfl, by simp⟩
        case round =>
          obtain ⟨k, hk, rfl, hall⟩ := hrel
          have HA : Hid ((zss.take k).all (goodB n) = true) := hall
          clear hall
          by_cases hlt : k < zss.length
          · obtain ⟨x, hcell, hx⟩ := HC.out k hlt
            have hgv : ∀ w0, w0 = w → Calls Tryz.prog 46 #[.int .i64 n, x, .int .i64 511] w0 fun e w' => e = .returned (.bool (goodB n (zss.getD k []))) ∧ w' = w0 := fun w0 e => by
              rw [e]; exact rgood_any n x _ w hx h1 h3
            have HX : Hid (IntsAt w x (zss.getD k [])) := hx
            clear hx
            cases hgb : goodB n (zss.getD k [])
            · rw [hgb] at hgv
              have HB : Hid (goodB n (zss.getD k []) = false) := hgb
              clear hgb
              go_wp2_with (go_at_call 46; refine (hgv _ rfl).mono ?_; rintro e w' ⟨rfl, hq'⟩; replace hq' := hq'.symm; subst hq')
              go_ret
              exact ⟨ret_int (a := 2) (by rw [HG.out, all_falseR hlt HB.out]; simp), rfl⟩
            · rw [hgb] at hgv
              have HB : Hid (goodB n (zss.getD k []) = true) := hgb
              clear hgb
              go_wp2_with (go_at_call 46; refine (hgv _ rfl).mono ?_; rintro e w' ⟨rfl, hq'⟩; replace hq' := hq'.symm; subst hq')
              go_round
              case rel => exact ⟨k + 1, by omega, by go_num, by rw [all_takeR hlt, HA.out, HB.out]; rfl⟩
              case measure => simp [intOf]; omega
          · go_wp2
            go_ret
            have : k = zss.length := by omega
            subst this
            have := HA.out; rw [List.take_length] at this
            exact ⟨ret_int (a := 0) (by rw [HG.out, if_pos this]), rfl⟩
    · have hl' : (6 : Int) < (zss.length : Int) := by omega
      have HG : Hid (givenE n zss = 2) := by
        show givenE n zss = 2
        unfold givenE givenB; rw [if_pos hw, decide_eq_false hl, Bool.false_and]; simp
      clear hw
      obtain ⟨a, cap, rfl⟩ := hv.slice
      clear hv
      go_enter Tryz.func35, Tryz.ntmps35
      go_wp2
      go_ret
      exact ⟨ret_int (a := 2) HG.out.symm, rfl⟩
  · have hwf : (decide (1 ≤ n) && decide (n ≤ 3)) = false := by simpa using hw
    have HG : Hid (givenE n zss = 1) := by
      show givenE n zss = 1
      unfold givenE; rw [if_neg hw]
    obtain ⟨a, cap, rfl⟩ := hv.slice
    clear hv
    have hw3 : n < 1 ∨ (¬ n < 1 ∧ 3 < n) := by
      rw [Bool.and_eq_true, decide_eq_true_eq, decide_eq_true_eq] at hw; omega
    clear hw hwf
    rcases hw3 with h1 | ⟨h1, h3⟩
    · go_enter Tryz.func35, Tryz.ntmps35
      go_wp2
      go_ret
      exact ⟨ret_int (a := 1) HG.out.symm, rfl⟩
    · go_enter Tryz.func35, Tryz.ntmps35
      go_wp2
      go_ret
      exact ⟨ret_int (a := 1) HG.out.symm, rfl⟩

end Go.Proofs.YtmlcblnndihjoaaGreat
