import Derived.Test.YtmlcblnndihjoabOpnK
set_option linter.unusedSimpArgs false
set_option linter.unusedVariables false
namespace Go.Proofs.Ytmlcblnndihjoab
open Go.RowKit Go.ChangeShapes Go.WideShapes Go.Deep

theorem kpick_det (c n : Int) (h0 : -9223372036854775808 ≤ c) (h1 : c ≤ 9223372036854775807) (n1 : 1 ≤ n) (n2 : n ≤ 1000) :
    ∃ r : Nat, (∀ w0, Calls Try.prog 10 #[.int .i64 c, .int .i64 n] w0 fun e w' => e = .returned (.int .i64 (r : Int)) ∧ w' = w0) ∧ (r : Int) < n := by
  by_cases hc : c < 0
  · have p1 : 0 ≤ -((c + 1).tmod n) := by rw [← Int.neg_tmod]; exact Int.tmod_nonneg _ (by omega)
    refine ⟨(-((c + 1).tmod n)).toNat, fun w0 => ?_, ?_⟩
    · rw [Int.toNat_of_nonneg p1]
      go_enter Try.func10, Try.ntmps10
      go_wp2
      go_ret
      exact ⟨rfl, rfl⟩
    · rw [Int.toNat_of_nonneg p1, ← Int.neg_tmod]
      exact Int.tmod_lt_of_pos _ (by omega)
  · have p1 : 0 ≤ c % n := Int.emod_nonneg _ (by omega)
    refine ⟨(c % n).toNat, fun w0 => ?_, by rw [Int.toNat_of_nonneg p1]; exact Int.emod_lt_of_pos _ (by omega)⟩
    rw [Int.toNat_of_nonneg p1]
    go_enter Try.func10, Try.ntmps10
    go_wp2
    go_ret
    exact ⟨rfl, rfl⟩

section
variable {H : Type} {enc : TypeId × Value → H} {w : World} {base : Nat} {spare : Nat → Bool} {held : Bool}
def PutsG (w : World) (v : Value) (xs : List (List Int)) : Prop := StructsG 4 w v xs
def StepsG (w : World) (v : Value) (xs : List (List Int)) : Prop := StructsG 5 w v xs
theorem open_putsG {fuel : Nat} {a : Option Addr} {len cap : Nat} {x : DataW H × List MemPlace} (h : DataW.trod enc Try.prog w base spare held fuel 42 [.slice a len cap] = some x) : ∃ xs, PutsG w (.slice a len cap) xs :=
  open_structsG (e := 49) (by kernel_rfl) (by kernel_rfl) (by kernel_rfl) (by kernel_rfl) (by omega) h
theorem open_stepsG {fuel : Nat} {a : Option Addr} {len cap : Nat} {x : DataW H × List MemPlace} (h : DataW.trod enc Try.prog w base spare held fuel 62 [.slice a len cap] = some x) : ∃ xs, StepsG w (.slice a len cap) xs :=
  open_structsG (e := 109) (by kernel_rfl) (by kernel_rfl) (by kernel_rfl) (by kernel_rfl) (by omega) h
end

end Go.Proofs.Ytmlcblnndihjoab
