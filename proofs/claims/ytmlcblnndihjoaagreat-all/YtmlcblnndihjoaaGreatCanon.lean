import Derived.Test.YtmlcblnndihjoaaGreatBasis
namespace Go.Proofs.YtmlcblnndihjoaaGreat
open Go.RowKit

def ent (zss : List (List Int)) (i j : Nat) : Int := (zss.getD i []).getD j 0

/-- rows in the shape of a canonical basis, P the places of their pivots -/
structure CanRows (n : Nat) (zss : List (List Int)) (P : Nat → Nat) : Prop where
  len : ∀ i, i < zss.length → (zss.getD i []).length = n
  zero : ∀ i, i < zss.length → ∀ j, j < P i → ent zss i j = 0
  pos : ∀ i, i < zss.length → P i < n ∧ 0 < ent zss i (P i)
  incr : ∀ i, i + 1 < zss.length → P i < P (i + 1)
  red : ∀ i, i < zss.length → ∀ k, k < i → 0 ≤ ent zss k (P i) ∧ ent zss k (P i) < ent zss i (P i)

theorem IntsAt.cells {w : World} {v : Value} {zs : List Int} (h : IntsAt w v zs) (h0 : 0 < zs.length) :
    ∃ b o cap, v = .slice (some ⟨b, o, none⟩) zs.length cap ∧ ∀ i, i < zs.length → w.cell? ⟨b, o + i, none⟩ = some (.int .i64 (zs.getD i 0)) := by
  rcases h with ⟨rfl, _⟩ | ⟨_, b, o, cap, h1, h2⟩
  · simp at h0
  · exact ⟨b, o, cap, h1, h2⟩

end Go.Proofs.YtmlcblnndihjoaaGreat
