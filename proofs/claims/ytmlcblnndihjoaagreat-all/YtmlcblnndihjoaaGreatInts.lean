import Derived.Test.YtmlcblnndihjoaaGreatSpanD
namespace Go.Proofs.YtmlcblnndihjoaaGreat
open Go.RowKit

/-- the slice value v reads as the numbers zs -/
def IntsAt (w : World) (v : Value) (zs : List Int) : Prop :=
  (zs = [] ∧ ∃ a cap, v = .slice a 0 cap) ∨
  (0 < zs.length ∧ ∃ b o cap, v = .slice (some ⟨b, o, none⟩) zs.length cap ∧ ∀ i, i < zs.length → w.cell? ⟨b, o + i, none⟩ = some (.int .i64 (zs.getD i 0)))

theorem IntsAt.slice {w : World} {v : Value} {zs : List Int} (h : IntsAt w v zs) : ∃ a cap, v = .slice a zs.length cap := by
  rcases h with ⟨rfl, a, cap, rfl⟩ | ⟨_, b, o, cap, rfl, _⟩
  · exact ⟨a, cap, rfl⟩
  · exact ⟨_, cap, rfl⟩

theorem cell_below {w w' : World} (hb : Below w.heap.size w w') {a : Addr} {v : Value} (h : w.cell? a = some v) : w'.cell? a = some v := by
  rw [hb.cell (World.block_lt_of_cell? w a h)]; exact h

theorem IntsAt.below {w w' : World} {v : Value} {zs : List Int} (h : IntsAt w v zs) (hb : Below w.heap.size w w') : IntsAt w' v zs := by
  rcases h with h | ⟨h0, b, o, cap, hv, hc⟩
  · exact Or.inl h
  · exact Or.inr ⟨h0, b, o, cap, hv, fun i hi => cell_below hb (hc i hi)⟩

/-- the slice value v reads as the rows zss -/
def RowsAt (w : World) (v : Value) (zss : List (List Int)) : Prop :=
  (zss = [] ∧ ∃ a cap, v = .slice a 0 cap) ∨
  (0 < zss.length ∧ ∃ b o cap, v = .slice (some ⟨b, o, none⟩) zss.length cap ∧ ∀ i, i < zss.length → ∃ x, w.cell? ⟨b, o + i, none⟩ = some x ∧ IntsAt w x (zss.getD i []))

theorem RowsAt.below {w w' : World} {v : Value} {zss : List (List Int)} (h : RowsAt w v zss) (hb : Below w.heap.size w w') : RowsAt w' v zss := by
  rcases h with h | ⟨h0, b, o, cap, hv, hc⟩
  · exact Or.inl h
  · exact Or.inr ⟨h0, b, o, cap, hv, fun i hi => by
      obtain ⟨x, hx, hi⟩ := hc i hi
      exact ⟨x, cell_below hb hx, hi.below hb⟩⟩

theorem RowsAt.slice {w : World} {v : Value} {zss : List (List Int)} (h : RowsAt w v zss) : ∃ a cap, v = .slice a zss.length cap := by
  rcases h with ⟨rfl, a, cap, rfl⟩ | ⟨_, b, o, cap, rfl, _⟩
  · exact ⟨a, cap, rfl⟩
  · exact ⟨_, cap, rfl⟩

/-- the numbers of a row as a vector of width 3 -/
def vecOf (zs : List Int) : Lat.V := ⟨zs.getD 0 0, zs.getD 1 0, zs.getD 2 0⟩

/-- is it a vector of width n with no entry beyond 511? -/
def goodB (n : Int) (zs : List Int) : Bool := decide ((zs.length : Int) = n) && zs.all (fun z => decide (z ≤ 511) && decide (-511 ≤ z))

end Go.Proofs.YtmlcblnndihjoaaGreat
