import Derived.Test.YtmlcblnndihjoaaGreatRows
import Derived.Test.YtmlcblnndihjoaaGreatLat
import Derived.WalkKit
import Derived.WalkSpells
import Derived.WalkLawsBesides
import Derived.Handy
import Derived.BigRegion
import Derived.Deep.RegionWith
import Derived.Deep.LoopGhost
import Derived.Deep.QuietTactic
import Derived.BigQuiet
import Derived.Deep.DeepCutAuto
import Derived.Deep.RegionHeld3
import Derived.Deep.DrawnRows
namespace Go.Proofs.YtmlcblnndihjoaaGreat
open Go.RowKit

/-- block b holds just these cells, of type T, none of them frozen -/
def Blk (w : World) (b : Nat) (cs : Array Value) (T : TypeId) : Prop := w.heap[b]? = some (.cells cs T (0, 0))

theorem Blk.cell {w : World} {b : Nat} {cs : Array Value} {T : TypeId} (h : Blk w b cs T) (o : Nat) : w.cell? ⟨b, o, none⟩ = cs[o]? := by
  unfold Blk at h; simp [World.cell?, h]
theorem Blk.frozen {w : World} {b : Nat} {cs : Array Value} {T : TypeId} (h : Blk w b cs T) (o : Nat) : w.frozen? ⟨b, o, none⟩ = false := by
  unfold Blk at h; simp [World.frozen?, h]
theorem Blk.lt {w : World} {b : Nat} {cs : Array Value} {T : TypeId} (h : Blk w b cs T) : b < w.heap.size :=
  (Array.getElem?_eq_some_iff.1 h).1
theorem Blk.alloc {w : World} {b : Nat} {cs : Array Value} {T : TypeId} (h : Blk w b cs T) (o : Obj) : Blk (w.alloc o) b cs T := by
  unfold Blk; rw [Below.heap_alloc w o b h.lt]; exact h
theorem Blk.drew {w : World} {b : Nat} {cs : Array Value} {T : TypeId} (h : Blk w b cs T) : Blk w.drew b cs T := h
theorem Blk.new (w : World) (cs : Array Value) (T : TypeId) {b : Nat} (hb : w.heap.size = b) : Blk (w.alloc (.cells cs T)) b cs T := by
  subst hb; unfold Blk; show (w.heap.push _)[w.heap.size]? = _; simp
theorem Blk.set {w : World} {b : Nat} {cs : Array Value} {T : TypeId} (h : Blk w b cs T) (o : Nat) (v : Value) : Blk (w.setCell ⟨b, o, none⟩ v) b (cs.setIfInBounds o v) T := by
  unfold Blk at *; simp [World.setCell, Array.getElem?_modify, h]
theorem Blk.other {w : World} {b : Nat} {cs : Array Value} {T : TypeId} (h : Blk w b cs T) {a : Addr} (ha : b ≠ a.block) (v : Value) : Blk (w.setCell a v) b cs T := by
  unfold Blk; rw [Below.heap_setCell w a v b ha]; exact h
theorem Blk.below {w w' : World} {B b : Nat} {cs : Array Value} {T : TypeId} (h : Blk w b cs T) (hb : Below B w w') (hlt : b < B) : Blk w' b cs T := by
  unfold Blk; rw [hb.block b hlt]; exact h

theorem Blk.three {w : World} {b : Nat} {x y z : Value} {T : TypeId} (h : Blk w b #[x, y, z] T) : w.cell? ⟨b, 0, none⟩ = some x ∧ w.cell? ⟨b, 1, none⟩ = some y ∧ w.cell? ⟨b, 2, none⟩ = some z :=
  ⟨h.cell 0, h.cell 1, h.cell 2⟩

theorem Blk.set3 {w : World} {b : Nat} {x y z : Value} {T : TypeId} (h : Blk w b #[x, y, z] T) (x' y' z' : Value) : Blk (((w.setCell ⟨b, 0, none⟩ x').setCell ⟨b, 1, none⟩ y').setCell ⟨b, 2, none⟩ z') b #[x', y', z'] T := by
  have := ((h.set 0 x').set 1 y').set 2 z'; simpa using this
theorem Blk.other3 {w : World} {b b' : Nat} {cs : Array Value} {T : TypeId} (h : Blk w b cs T) (hne : b ≠ b') (x y z : Value) : Blk (((w.setCell ⟨b', 0, none⟩ x).setCell ⟨b', 1, none⟩ y).setCell ⟨b', 2, none⟩ z) b cs T :=
  ((h.other hne x).other hne y).other hne z
theorem below_set3 {B b : Nat} {a w : World} (h : Below B a w) (hb : B ≤ b) (x y z : Value) : Below B a (((w.setCell ⟨b, 0, none⟩ x).setCell ⟨b, 1, none⟩ y).setCell ⟨b, 2, none⟩ z) :=
  ((h.setCell (p := ⟨b, 0, none⟩) hb x).setCell (p := ⟨b, 1, none⟩) hb y).setCell (p := ⟨b, 2, none⟩) hb z

theorem bcell {W w1 : World} (hb : Below W.heap.size W w1) : (∀ b o, b < W.heap.size → w1.cell? ⟨b, o, none⟩ = W.cell? ⟨b, o, none⟩) ∧ (∀ b o, b < W.heap.size → w1.frozen? ⟨b, o, none⟩ = W.frozen? ⟨b, o, none⟩) :=
  ⟨fun b o h => hb.cell (p := ⟨b, o, none⟩) h, fun b o h => hb.frozen (p := ⟨b, o, none⟩) h⟩

/-- p speaks of no block below B -/
def Fresh (B : Nat) (w : World) (p : World → Prop) : Prop := ∀ w', (∀ b, B ≤ b → b < w.heap.size → w'.heap[b]? = w.heap[b]?) → p w'
theorem Fresh.now {B : Nat} {w : World} {p : World → Prop} (h : Fresh B w p) : p w := h w (fun _ _ _ => rfl)
theorem Fresh.mono {B B' : Nat} {w : World} {p : World → Prop} (h : Fresh B w p) (hB : B' ≤ B) : Fresh B' w p := fun w' k => h w' (fun b h1 h2 => k b (by omega) h2)
theorem Fresh.step {B C : Nat} {w w' : World} {p : World → Prop} (h : Fresh B w p) (k : Below C w w') (hC : w.heap.size ≤ C) : Fresh B w' p := fun w'' k' => h w'' (fun b h1 h2 => (k' b h1 (Nat.lt_of_lt_of_le h2 k.size)).trans (k.block b (Nat.lt_of_lt_of_le h2 hC)))
theorem Fresh.imp {B : Nat} {w : World} {p q : World → Prop} (h : Fresh B w p) (hi : ∀ w, p w → q w) : Fresh B w q := fun w' k => hi w' (h w' k)

theorem blk_fresh {B : Nat} {w : World} {b : Nat} {cs : Array Value} {T : TypeId} (h : Blk w b cs T) (hb : B ≤ b) : Fresh B w (fun w' => Blk w' b cs T) := fun w' k => by
  show w'.heap[b]? = _
  rw [k b hb h.lt]; exact h

end Go.Proofs.YtmlcblnndihjoaaGreat
