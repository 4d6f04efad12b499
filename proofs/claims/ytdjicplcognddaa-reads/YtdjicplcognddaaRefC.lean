import Derived.Test.YtdjicplcognddaaRefA
import Derived.StillTailTactics
namespace Go.Proofs.Ytdjicplcognddaa
open Go.RowKit

def nilS : Value := .slice none 0 0

/-- the reference's rows by columns: nil, or a row whose pivot stands there, in a block of its own -/
structure AtS (n : Nat) (w : World) (B g : Nat) (xs : Nat → Value) (bs : Nat → Nat) (R : Nat → Lat.V) : Prop where
  blk : Blk w g ((List.range n).map xs).toArray 22
  base : B ≤ g
  row : ∀ c, c < n → (xs c = nilS ∧ R c = ⟨0, 0, 0⟩) ∨ (xs c = .slice (some ⟨bs c, 0, none⟩) n n ∧ 0 < (R c).at c ∧ Blk w (bs c) ((cutV n (R c)).map (Value.int .i64)).toArray 3 ∧ B ≤ bs c ∧ bs c ≠ g)
  apart : ∀ c d, c < n → d < n → c ≠ d → xs c ≠ nilS → xs d ≠ nilS → bs c ≠ bs d

theorem slice_ne_nil (b n : Nat) : Value.slice (some ⟨b, 0, none⟩) n n ≠ nilS := by
  intro e; unfold nilS at e; injection e with e; cases e

/-- one row has another content -/
theorem AtS.row' {n : Nat} {w w' : World} {B g : Nat} {xs : Nat → Value} {bs : Nat → Nat} {R : Nat → Lat.V} (h : AtS n w B g xs bs R) {i : Nat} (hi : i < n) (hx : xs i ≠ nilS) {r : Lat.V} (hr : 0 < r.at i)
    (hu : Upd w w' (bs i) ((cutV n r).map (Value.int .i64)).toArray) : AtS n w' B g xs bs (fun c => if c = i then r else R c) := by
  have hii := h.row i hi
  have hig : bs i ≠ g := by
    rcases hii with ⟨e, _⟩ | ⟨_, _, _, _, e⟩
    · exact absurd e hx
    · exact e
  refine ⟨?_, h.base, fun c hc => ?_, h.apart⟩
  · unfold Blk; rw [hu.keep g (fun e => hig e.symm)]; exact h.blk
  · by_cases e : c = i
    · subst e
      rcases hii with ⟨e, _⟩ | ⟨e1, _, _, e4, e5⟩
      · exact absurd e hx
      · refine Or.inr ⟨e1, ?_, ?_, e4, e5⟩
        · simp only [if_true]; exact hr
        · simp only [if_true]; exact hu.blk
    · simp only [if_neg e]
      rcases h.row c hc with h1 | ⟨e1, e2, e3, e4, e5⟩
      · exact Or.inl h1
      · refine Or.inr ⟨e1, e2, ?_, e4, e5⟩
        have hne : bs c ≠ bs i := h.apart c i hc hi e (by rw [e1]; exact slice_ne_nil _ _) hx
        unfold Blk; rw [hu.keep _ hne]; exact e3

theorem AtS.congr {n : Nat} {w : World} {B g : Nat} {xs : Nat → Value} {bs : Nat → Nat} {R R' : Nat → Lat.V} (h : AtS n w B g xs bs R) (e : ∀ c, c < n → R c = R' c) : AtS n w B g xs bs R' := by
  refine ⟨h.blk, h.base, fun c hc => ?_, h.apart⟩
  rw [← e c hc]; exact h.row c hc

theorem AtS.heap {n : Nat} {w w' : World} {B g : Nat} {xs : Nat → Value} {bs : Nat → Nat} {R : Nat → Lat.V} (h : AtS n w B g xs bs R) (e : w'.heap = w.heap) : AtS n w' B g xs bs R := by
  refine ⟨by unfold Blk; rw [e]; exact h.blk, h.base, fun c hc => ?_, h.apart⟩
  rcases h.row c hc with h1 | ⟨e1, e2, e3, e4, e5⟩
  · exact Or.inl h1
  · exact Or.inr ⟨e1, e2, by unfold Blk; rw [e]; exact e3, e4, e5⟩

end Go.Proofs.Ytdjicplcognddaa
