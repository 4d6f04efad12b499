import Derived.Test.YtmlcblnndihjoaaGreatHas
namespace Go.Proofs.YtmlcblnndihjoaaGreat
open Go.RowKit

/-- the first n entries -/
def cutV (n : Nat) (v : Lat.V) : List Int := [v.x, v.y, v.z].take n

theorem cutV_succ {n : Nat} (v : Lat.V) (h : n < 3) : cutV (n + 1) v = cutV n v ++ [v.at n] := by
  have : n = 0 ∨ n = 1 ∨ n = 2 := by omega
  rcases this with rfl | rfl | rfl <;> rfl

theorem cutV_length {n : Nat} (v : Lat.V) (h : n ≤ 3) : (cutV n v).length = n := by
  simp [cutV]; omega

theorem ownsRow_base {w : World} {base base' : Nat} {e : TypeId} {size : Nat} {v : Value} {n : Nat} {xs : List Value} (h : w.ownsRow base e size v n xs) (hb : base' ≤ base) : w.ownsRow base' e size v n xs := by
  obtain ⟨h1, h2⟩ := h
  refine ⟨h1, ?_⟩
  rcases h2 with h2 | ⟨g, cap, cur, hv, hg, r⟩
  · exact Or.inl h2
  · exact Or.inr ⟨g, cap, cur, hv, by omega, r⟩

theorem ownsRow_below {w w' : World} {base C : Nat} {e : TypeId} {size : Nat} {v : Value} {n : Nat} {xs : List Value} (h : w.ownsRow base e size v n xs) (hb : Below C w w') (hC : w.heap.size ≤ C) : w'.ownsRow base e size v n xs := by
  refine h.kept (w' := w') (row := none) ⟨hb.os, hb.tape, hb.output, hb.size, fun k hk _ => hb.block k (by omega)⟩ ?_
  by_cases e : v.ownBlock = none
  · exact Or.inl e
  · exact Or.inr e

def ListEnd (B : Nat) (n : Nat) (v : Lat.V) (w' : World) (e : Ending) : Prop :=
  ∃ out, e = .returned out ∧ w'.ownsRow B 3 1 out n ((cutV n v).map (Value.int .i64))

set_option maxRecDepth 100000 in
set_option maxHeartbeats 1000000 in
theorem listOf_any (v : Lat.V) (n : Nat) (w : World) (h3 : n ≤ 3) :
    Calls Tryz.prog 59 #[.agg #[.int .i64 v.x, .int .i64 v.y, .int .i64 v.z], .int .i64 n] w fun e w' => ListEnd w.heap.size n v w' e ∧ Below w.heap.size w w' := by
  obtain ⟨i0, hi, hz0, hz1, hz2⟩ := info_parts Tryz.info3
  have HI : Hid (Tryz.prog.info? 3 = some i0 ∧ i0.zero = some (.int .i64 0) ∧ i0.size = 1 ∧ i0.bytes = 8) := ⟨hi, hz0, hz1, hz2⟩
  clear hi hz0 hz1 hz2
  have hn3 : (n : Int) ≤ 3 := by omega
  go_enter Tryz.func59, Tryz.ntmps59
  go_wp2
  go_loopg [5, 6] (n) (fun m out i wr => ∃ k : Nat, i = .int .i64 k ∧ k + m = n ∧ wr.ownsRow (w.heap.size + 1) 3 1 out k ((cutV k v).map (Value.int .i64)) ∧ Blk wr w.heap.size #[.int .i64 v.x, .int .i64 v.y, .int .i64 v.z] 55 ∧ Below w.heap.size w wr)
  case atStart =>
    refine ⟨0, rfl, by omega, ?_, ?_, by go_grown⟩
    · have := World.ownsRow_made (base := w.heap.size + 1) (e := 3) (size := 1) (w.alloc (.cells #[.int .i64 v.x, .int .i64 v.y, .int .i64 v.z] 55)) #[] 0 (by simp) (by simp [maxLen]) rfl
      simp at this; exact this
    · exact (Blk.new w _ _ rfl).alloc _
  case round =>
    obtain ⟨k, rfl, hk, hown, kb, hB⟩ := hrel
    have HO : Hid (wr.ownsRow (w.heap.size + 1) 3 1 u5 k ((cutV k v).map (Value.int .i64))) := hown
    have hlb := kb.lt
    clear hown
    by_cases hlt : k < n
    · have hk3 : k < 3 := by omega
      have hlt' : (k : Int) < (n : Int) := by omega
      have hk3' : (k : Int) < 3 := by omega
      have hc : wr.cell? ⟨w.heap.size, k, none⟩ = some (.int .i64 (v.at k)) := by
        obtain ⟨c0, c1, c2⟩ := kb.three
        have : k = 0 ∨ k = 1 ∨ k = 2 := by omega
        rcases this with rfl | rfl | rfl
        · exact c0
        · exact c1
        · exact c2
      obtain ⟨hi, hz0, hz1, hz2⟩ := HI.out
      have HE : Hid (cutV (k + 1) v = cutV k v ++ [v.at k]) := cutV_succ v hk3
      generalize v.at k = z at *
      go_wp2_with (at_builtin; refine wpList_append_lies _ rfl (.tmp 17) (.tmp 21) 23 rfl (w.heap.size + 1) 3 i0 (.int .i64 0) 1 8 Tryz.underlying23 hi hz0 hz1 hz2 rfl (by decide) _ _ _ rfl (HO.out.alloc _) ⟨wr.heap.size, 0, none⟩ 1 1 [.int .i64 z] rfl rfl (World.news_of_block (cs := #[.int .i64 z]) (t := 3) (fr := (0, 0)) (Blk.new _ _ _ rfl)) (by intro u hu; simp at hu; subst hu; rfl) (by omega) (by unfold maxLen; omega) (by omega) (by simp; omega) _ rfl ?_; intro g cap1 w1 hown1 hgrow hat hglt)
      go_roundg (gk - 1)
      case measure => omega
      case rel =>
        refine ⟨k + 1, by go_num, by omega, ?_, ?_, ?_⟩
        · rw [HE.out, List.map_append]; exact hown1
        · unfold Blk
          rw [hgrow.block w.heap.size (by simp; omega) (fun e => ?_)]
          · exact kb.alloc _
          · have := (HO.out.lt _ e.symm).1; omega
        · exact (hB.alloc (by omega) _).grown hgrow (by simp; omega) (fun j hj => by have := (HO.out.lt j hj).1; omega)
    · have hd : decide ((k : Int) < (n : Int)) = false := by simp; omega
      have hkn : k = n := by omega
      have HK : Hid (k = n) := hkn
      clear hkn
      go_wp2
      go_ret
      refine ⟨⟨u5, rfl, ?_⟩, hB⟩
      have := ownsRow_base HO.out (base' := w.heap.size) (by omega)
      rw [HK.out] at this
      exact this

end Go.Proofs.YtmlcblnndihjoaaGreat
