import Derived.Test.YtdjicplcognddaaRefJ
set_option linter.unusedSimpArgs false
set_option linter.unusedVariables false
namespace Go.Proofs.Ytdjicplcognddaa
open Go.RowKit

set_option maxHeartbeats 400000 in
theorem rfits_any (n : Int) (v : Value) (zss : List (List Int)) (w : World) (hv : RowsAt w v zss) (h1 : 1 ≤ n) (h3 : n ≤ 3) (hl : zss.length ≤ 6) :
    Calls Try.prog 44 #[.int .i64 n, v] w fun e w' => e = .returned (.bool (zss.all (goodB n))) ∧ w' = w := by
  by_cases h0 : zss = []
  · subst h0
    obtain ⟨a, cap, rfl⟩ := hv.slice
    clear hv
    go_enter Try.func44, Try.ntmps44
    go_wp2
    refine wp_loop_rounds 1 ?_
    rw [rounds_succ]
    go_wp2
    go_ret
    exact ⟨rfl, rfl⟩
  · rcases hv with ⟨rfl, _⟩ | ⟨hz0, b, o, cap, rfl, hc⟩
    · exact absurd rfl h0
    have HC : Hid (∀ i, i < zss.length → ∃ x, w.cell? ⟨b, o + i, none⟩ = some x ∧ IntsAt w x (zss.getD i [])) := hc
    have HG : Hid (∀ b, zss.all (goodB n) = b → zss.all (goodB n) = b) := fun b h => h
    clear hc h0
    go_enter Try.func44, Try.ntmps44
    go_wp2
    go_loop [5] (fun i => ∃ k : Nat, k ≤ zss.length ∧ i = .int .i64 k ∧ (zss.take k).all (goodB n) = true) (fun i => zss.length - (intOf i).toNat)
    case atStart => exact ⟨0, by omega, rfl, by simp⟩
    case round =>
      obtain ⟨k, hk, rfl, hall⟩ := hrel
      have HA : Hid ((zss.take k).all (goodB n) = true) := hall
      clear hall
      by_cases hlt : k < zss.length
      · obtain ⟨x, hcell, hx⟩ := HC.out k hlt
        have hgv : ∀ w0, w0 = w → Calls Try.prog 50 #[.int .i64 n, x, .int .i64 511] w0 fun e w' => e = .returned (.bool (goodB n (zss.getD k []))) ∧ w' = w0 := fun w0 e => by
          rw [e]; exact rgood_any n x _ w hx h1 h3
        have HX : Hid (IntsAt w x (zss.getD k [])) := hx
        clear hx
        cases hgb : goodB n (zss.getD k [])
        · rw [hgb] at hgv
          have HB : Hid (goodB n (zss.getD k []) = false) := hgb
          clear hgb
          go_wp2_with (go_at_call 50; refine (hgv _ rfl).mono ?_; rintro e w' ⟨rfl, hq'⟩; replace hq' := hq'.symm; subst hq')
          go_ret
          exact ⟨ret_bool (a := false) (by rw [all_falseR hlt HB.out]), rfl⟩
        · rw [hgb] at hgv
          have HB : Hid (goodB n (zss.getD k []) = true) := hgb
          clear hgb
          go_wp2_with (go_at_call 50; refine (hgv _ rfl).mono ?_; rintro e w' ⟨rfl, hq'⟩; replace hq' := hq'.symm; subst hq')
          go_round
          case rel => exact ⟨k + 1, by omega, by go_num, by rw [all_takeR hlt, HA.out, HB.out]; rfl⟩
          case measure => simp [intOf]; omega
      · go_wp2
        go_ret
        have : k = zss.length := by omega
        subst this
        have := HA.out; rw [List.take_length] at this
        exact ⟨ret_bool (a := true) this.symm, rfl⟩

end Go.Proofs.Ytdjicplcognddaa
