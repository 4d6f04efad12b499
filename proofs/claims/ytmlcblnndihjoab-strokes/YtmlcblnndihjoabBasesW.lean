import Derived.Test.YtmlcblnndihjoabTabA
import Derived.Test.YtmlcblnndihjoabShapedW
set_option linter.unusedSimpArgs false
set_option linter.unusedVariables false
namespace Go.Proofs.Ytmlcblnndihjoab
open Go.RowKit

theorem gen_one {n : Int} {zss : List (List Int)} {T T' : Lat.St} {c c' : Int} (h : Gen n zss T c) (h' : Gen n zss T' c') : c = c' ∧ (c = 0 → T = T') := by
  rcases h with ⟨h1, h2⟩ | ⟨h1, S, hS, h2⟩
  · rcases h' with ⟨h3, h4⟩ | ⟨h3, _⟩
    · exact ⟨by rw [h1, h3], fun e => absurd e h2⟩
    · rw [h3] at h1; exact absurd h1 h2
  · rcases h' with ⟨h3, h4⟩ | ⟨h3, S', hS', h4⟩
    · rw [h1] at h3; exact absurd h3 h4
    · have : S = S' := hS.one hS' (fun v => Iff.rfl)
      subst this
      rcases h2 with ⟨a1, a2⟩ | ⟨a1, a2, a3⟩
      · rcases h4 with ⟨b1, b2⟩ | ⟨b1, b2, b3⟩
        · exact ⟨by rw [a1, b1], fun e => by omega⟩
        · exact absurd b3 a2
      · rcases h4 with ⟨b1, b2⟩ | ⟨b1, b2, b3⟩
        · exact absurd a3 b2
        · exact ⟨by rw [a1, b1], fun _ => by rw [a2, b2]⟩

theorem gen_width {n : Int} {zss : List (List Int)} {T : Lat.St} (h : Gen n zss T 0) : 1 ≤ n ∧ n ≤ 3 := by
  rcases h with ⟨_, h⟩ | ⟨h0, _⟩
  · exact absurd rfl h
  · have := given_ok h0; exact ⟨this.1, this.2.1⟩

theorem idx_one {n : Int} {zss : List (List Int)} {e e' : Ending} (h : IdxEnd n zss e) (h' : IdxEnd n zss e') : ∃ k c, e = .returned (.tuple #[.int .i64 k, .int .i64 c]) ∧ e' = .returned (.tuple #[.int .i64 k, .int .i64 c]) := by
  obtain ⟨T, c, hg, rfl⟩ := h
  obtain ⟨T', c', hg', rfl⟩ := h'
  obtain ⟨rfl, ht⟩ := gen_one hg hg'
  refine ⟨_, _, rfl, ?_⟩
  by_cases hc : c = 0
  · rw [ht hc]
  · simp [hc]

theorem basisRows_len (n : Nat) (T : Lat.St) : (basisRows n T).length ≤ 6 := by
  unfold basisRows; repeat' split
  all_goals simp

theorem basisRows_each {n : Nat} {T : Lat.St} (h : n ≤ 3) : ∀ zs ∈ basisRows n T, zs.length = n := by
  intro zs hz
  unfold basisRows at hz
  simp only [List.mem_append] at hz
  rcases hz with (hz | hz) | hz <;> (split at hz <;> simp at hz <;> (subst hz; exact cutV_length _ h))

/-- what Basis, the reference's Basis and Same say of the same rows -/
def BasesMid (B : Nat) (c c' : Int) (out : Value) (w : World) : Prop :=
  c = c' ∧ ((c ≠ 0 ∧ out = .slice none 0 0) ∨ (c = 0 ∧ ∃ vs zss n, 0 < n ∧ RowsOwn w B out vs zss n))

theorem ne26n (w : World) : (binOp .neq 24 (.slice none 0 0) (.slice none 0 0)).run Try.prog w = .ok (.bool false) w := run_neq_slice_nil w _ _ none _ _ Try.underlying24

end Go.Proofs.Ytmlcblnndihjoab
