import Derived.Test.YtmlcblnndihjoabInts
import Derived.StillTailTactics
import Derived.Laws.CopyRow
import Derived.Laws.OwnMore
import Derived.Laws.Tables
import Derived.Laws.CopyOwn
import Derived.Deep.OwnRows
set_option linter.unusedSimpArgs false
set_option linter.unusedVariables false
namespace Go.Proofs.Ytmlcblnndihjoab
open Go.RowKit

def stepC (L a : Nat) (k : Int) : Nat := if k < 0 then 0 else min k.toNat (L - a)
def posC (L : Nat) (cuts : List Int) : Nat → Nat
  | 0 => 0
  | i + 1 => posC L cuts i + stepC L (posC L cuts i) (cuts.getD i 0)

theorem posC_le (L : Nat) (cuts : List Int) (i : Nat) : posC L cuts i ≤ L := by
  induction i with
  | zero => simp [posC]
  | succ i ih => simp only [posC, stepC]; split <;> omega

/-- how the i-th vector lies -/
def valC (o L : Nat) (cuts : List Int) (i : Nat) : Value :=
  if cuts.getD i 0 < 0 then .slice none 0 0 else sliced (some ⟨o, 0, none⟩) (posC L cuts i) (posC L cuts i + stepC L (posC L cuts i) (cuts.getD i 0)) L 1

theorem tinfo22 : (Try.prog.info? 22).map (fun i => (i.zero, i.size, i.bytes)) = some (some (.slice none 0 0), 1, 24) := by kernel_rfl
theorem tinfo3 : (Try.prog.info? 3).map (fun i => (i.zero, i.size, i.bytes)) = some (some (.int .i64 0), 1, 8) := by kernel_rfl

theorem addr_add0 (b o j : Nat) : (⟨b, o, none⟩ : Addr).add j = ⟨b, o + j, none⟩ := by unfold Addr.add; split <;> simp_all

theorem copy_all {wx : World} {u : Value} {cells : List Int} {o n : Nat} {cur : Array Value} (hn : cells.length = n) (hs : cur.size = n) (hu : IntsAt wx u cells) (hz : Blk wx o cur 3) :
    (Builtin.copy_ #[22, 22] 3 #[.slice (some ⟨o, 0, none⟩) n n, u]).run Try.prog wx = .ok (goInt n) (wx.setRow o (cells.map (Value.int .i64)).toArray) := by
  rcases hu with ⟨rfl, a, cap, rfl⟩ | ⟨h0, b, o', cap, rfl, hc⟩
  · have e0 : n = 0 := by simp at hn; omega
    subst e0
    have e1 : cur = #[] := Array.eq_empty_of_size_eq_zero hs
    subst e1
    have hself : wx.setRow o (List.map (Value.int .i64) []).toArray = wx := setRow_self wx o #[] 3 (0, 0) hz
    rw [hself]
    obtain ⟨i, hi, hzz⟩ := Option.map_eq_some_iff.1 tinfo3
    simp only [Prod.mk.injEq] at hzz
    cases a with
    | none => simp [Builtin.copy_, run_underlying Try.underlying22, Builtin.lenOf, Builtin.firstCells, sizeOf, typeInfo, hi, hzz, storeCells, Result.andThen]
    | some a =>
      have hl := run_loadCells_list (P := Try.prog) wx a [] (by simp)
      simp at hl
      simp [Builtin.copy_, run_underlying Try.underlying22, Builtin.lenOf, Builtin.firstCells, sizeOf, typeInfo, hi, hzz, storeCells, Result.andThen, hl]
  · subst hn
    have t := run_copy_row (P := Try.prog) wx 22 22 3 3 o 0 cells.length cells.length ⟨b, o', none⟩ cells.length cap cur 3 (cells.map (Value.int .i64)) Try.underlying22 (by kernel_rfl) hz (by simp) (fun j y hj => by
      rw [List.getElem?_map] at hj
      obtain ⟨z, hz1, rfl⟩ := Option.map_eq_some_iff.1 hj
      have hlt := (List.getElem?_eq_some_iff.1 hz1).1
      rw [addr_add0, hc j hlt, List.getD_eq_getElem?_getD, hz1]; rfl) (by simp [hs]) (by simp [Value.oneCell'])
    have e : cur.toList.take 0 ++ cells.map (Value.int .i64) ++ cur.toList.drop (0 + (cells.map (Value.int .i64)).length) = cells.map (Value.int .i64) := by
      rw [List.drop_eq_nil_of_le (by simp [hs])]; simp
    rw [e, List.length_map] at t; exact t

theorem made_map (z : Value) (n : Nat) : madeCells #[z] n = ((List.range n).map (fun _ => z)).toArray := by
  unfold madeCells
  apply Array.toList_inj.1
  simp [Array.toList_range, Nat.mod_one]

theorem map_put (f : Nat → Value) {n c : Nat} (x : Value) : ((List.range n).map f).toArray.setIfInBounds c x = ((List.range n).map (fun j => if j = c then x else f j)).toArray := by
  apply Array.ext_getElem?
  intro i
  by_cases hi : i < n
  · by_cases hc : c = i
    · subst hc; simp [hi]
    · simp [Array.getElem?_setIfInBounds, hc, hi, Ne.symm (show c ≠ i from hc)]
  · simp [Array.getElem?_setIfInBounds, hi]

theorem map_same {f g : Nat → Value} {n : Nat} (h : ∀ j, j < n → f j = g j) : ((List.range n).map f).toArray = ((List.range n).map g).toArray := by
  congr 1
  apply List.map_congr_left
  intro j hj
  exact h j (by simpa using hj)

theorem IntsAt.cellAt {w : World} {a : Option Addr} {m cap : Nat} {zs : List Int} (h : IntsAt w (.slice a m cap) zs) {i : Nat} (hi : i < zs.length) :
    ∃ b o, a = some ⟨b, o, none⟩ ∧ w.cell? ⟨b, o + i, none⟩ = some (.int .i64 (zs.getD i 0)) := by
  rcases h with ⟨rfl, _, _, _⟩ | ⟨_, b, o, cap', e, hc⟩
  · simp at hi
  · injection e with e1 e2 e3
    exact ⟨b, o, e1, hc i hi⟩

theorem slice22 (w : World) (o m q r : Nat) (h1 : q ≤ r) (h2 : r ≤ m) :
    (Instr.slice 22 (.slice (some ⟨o, 0, none⟩) m m) (some (.int .i64 q)) (some (.int .i64 r)) none).run Try.prog w = .ok (sliced (some ⟨o, 0, none⟩) q r m 1) w := by
  obtain ⟨i, hi, hzz⟩ := Option.map_eq_some_iff.1 tinfo3
  simp only [Prod.mk.injEq] at hzz
  have := run_slice_lh w 22 (some ⟨o, 0, none⟩) m m (P := Try.prog) (by kernel_rfl) .i64 .i64 q r (by omega) (by omega) (by omega)
  rw [this]
  have he : Try.prog.elem 22 = 3 := by kernel_rfl
  simp [he, sizeOf, typeInfo, hi, hzz, Result.andThen]

theorem hide0 {p : Prop} (h : p) : Hid p := h

theorem below_drew {B : Nat} {w w' : World} (h : Below B w w') : Below B w w'.drew := h.drew

end Go.Proofs.Ytmlcblnndihjoab
