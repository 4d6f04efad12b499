import Derived.Test.YtmlcblnndihjoaaGreatMovedA
import Derived.StillTailTactics
namespace Go.Proofs.YtmlcblnndihjoaaGreat
open Go.RowKit

theorem RowsOwn.keep {w w' : World} {B : Nat} {v : Value} {vs : List Value} {zss : List (List Int)} {n : Nat} (h : RowsOwn w B v vs zss n) (hk : ∀ k, B ≤ k → k < w.heap.size → w'.heap[k]? = w.heap[k]?) : RowsOwn w' B v vs zss n := by
  have one : ∀ (e : TypeId) (y : Value) (m : Nat) (xs : List Value), w.ownsRow B e 1 y m xs → w'.ownsRow B e 1 y m xs := fun e y m xs hy => by
    obtain ⟨h1, h2⟩ := hy
    refine ⟨h1, ?_⟩
    rcases h2 with h2 | ⟨g, cap, cur, hv, hg, hh, r⟩
    · exact Or.inl h2
    · refine Or.inr ⟨g, cap, cur, hv, hg, ?_, r⟩
      rw [hk g hg (Array.getElem?_eq_some_iff.1 hh).1]; exact hh
  exact ⟨one _ _ _ _ h.own, h.len, fun i hi => ⟨one _ _ _ _ (h.row i hi).1, (h.row i hi).2⟩, h.apart, fun g n cap e j h1 h2 => by
    have hc := h.spare g n cap e j h1 h2
    rw [World.cell?_of_block (hk g (h.own.lt g (by rw [e]; rfl)).1 (World.block_lt_of_cell? w _ hc))]; exact hc⟩


/-- all of w2, but for block b, which holds cs -/
structure OneOff (w w2 wx : World) (b : Nat) (cs : Array Value) : Prop where
  blk : Blk wx b cs 3
  keep : ∀ m, m ≠ b → wx.heap[m]? = w2.heap[m]?
  size : wx.heap.size = w2.heap.size
  below : Below w.heap.size w wx

theorem OneOff.cell {w w2 wx : World} {b : Nat} {cs : Array Value} (h : OneOff w w2 wx b cs) {a : Addr} (ha : ¬ a.block = b) : wx.cell? a = w2.cell? a := World.cell?_of_block (h.keep _ ha)
theorem OneOff.frozen {w w2 wx : World} {b : Nat} {cs : Array Value} (h : OneOff w w2 wx b cs) {a : Addr} (ha : ¬ a.block = b) : wx.frozen? a = w2.frozen? a := World.frozen?_of_block (h.keep _ ha)
theorem OneOff.store {w w2 wx : World} {b o : Nat} {cs cs' : Array Value} {v : Value} (h : OneOff w w2 wx b cs) (hb : w.heap.size ≤ b) (he : cs.setIfInBounds o v = cs') : OneOff w w2 (wx.setCell ⟨b, o, none⟩ v).drew b cs' := by
  refine ⟨?_, fun m hm => ?_, ?_, (h.below.setCell (p := ⟨b, o, none⟩) hb v).drew⟩
  · rw [← he]; exact (h.blk.set o v).drew
  · exact (Below.heap_setCell wx ⟨b, o, none⟩ v m hm).trans (h.keep m hm)
  · have : (wx.setCell ⟨b, o, none⟩ v).drew.heap.size = wx.heap.size := by simp [World.setCell]
    rw [this]; exact h.size

theorem ent_le {zss : List (List Int)} {M : Int} (h : ∀ zs ∈ zss, ∀ z ∈ zs, -M ≤ z ∧ z ≤ M) (a b : Nat) (hM : 0 ≤ M := by omega) : -M ≤ (zss.getD a []).getD b 0 ∧ (zss.getD a []).getD b 0 ≤ M := by
  by_cases ha : a < zss.length
  · by_cases hb : b < (zss.getD a []).length
    · refine h _ (getD_memR ha) _ ?_
      rw [List.getD_eq_getElem?_getD (l := zss.getD a []), List.getElem?_eq_getElem hb]
      exact List.getElem_mem hb
    · rw [List.getD_eq_getElem?_getD (l := zss.getD a []), List.getElem?_eq_none (by omega)]; simp; omega
  · have e : zss.getD a [] = [] := by rw [List.getD_eq_getElem?_getD, List.getElem?_eq_none (by omega)]; rfl
    rw [e]; simp; omega

theorem nodup_ne {bs : List Nat} (h : bs.Nodup) {x y : Nat} (hx : x < bs.length) (hy : y < bs.length) (hne : x ≠ y) : bs.getD x 0 ≠ bs.getD y 0 := by
  rw [List.getD_eq_getElem?_getD, List.getD_eq_getElem?_getD, List.getElem?_eq_getElem hx, List.getElem?_eq_getElem hy]
  intro e
  have e' : bs[x] = bs[y] := e
  exact hne ((List.getElem_inj h).1 e')

theorem own_frozen {w : World} {B : Nat} {e : TypeId} {g n cap : Nat} {xs : List Value} {v : Value} (h : w.ownsRow B e 1 v n xs) (hv : v = .slice (some ⟨g, 0, none⟩) n cap) (o : Nat) : w.frozen? ⟨g, o, none⟩ = false := by
  rcases h.2 with ⟨h1, _⟩ | ⟨g', cap', cur, h1, _, h3, _⟩
  · rw [h1] at hv; injection hv with hv; cases hv
  · rw [h1] at hv
    injection hv with hv
    injection hv with hv
    injection hv with hv
    subst hv
    simp [World.frozen?, h3]

theorem list1 {zs : List Int} (h : zs.length = 1) : zs = [zs.getD 0 0] := by
  rcases zs with _ | ⟨a, _ | ⟨b, zs⟩⟩ <;> simp at h; rfl
theorem list2 {zs : List Int} (h : zs.length = 2) : zs = [zs.getD 0 0, zs.getD 1 0] := by
  rcases zs with _ | ⟨a, _ | ⟨b, _ | ⟨c, zs⟩⟩⟩ <;> simp at h; rfl
theorem list3 {zs : List Int} (h : zs.length = 3) : zs = [zs.getD 0 0, zs.getD 1 0, zs.getD 2 0] := by
  rcases zs with _ | ⟨a, _ | ⟨b, _ | ⟨c, _ | ⟨d, zs⟩⟩⟩⟩ <;> simp at h; rfl

theorem ints_of_blk {w : World} {b n : Nat} {zs : List Int} (h : Blk w b (zs.map (Value.int .i64)).toArray 3) (hl : zs.length = n) (hn : 0 < n) : IntsAt w (.slice (some ⟨b, 0, none⟩) n n) zs := by
  refine Or.inr ⟨by omega, b, 0, n, by rw [hl], fun i hi => ?_⟩
  rw [Nat.zero_add, h.cell i, List.getElem?_toArray, List.getElem?_map, List.getElem?_eq_getElem hi, List.getD_eq_getElem?_getD, List.getElem?_eq_getElem hi]
  rfl

/-- the list of rows behind the move, as it is read -/
theorem moved_rows {w w1 w2 wo wS wF : World} {g bx by' x y n cap : Nat} {t : Int} {bs : List Nat} {zss : List (List Int)} {cx cy : Array Value}
    (hO : OwnRows w2 w.heap.size (.slice (some ⟨g, 0, none⟩) bs.length cap) bs zss n) (hn : 0 < n)
    (hx : x < bs.length) (hy : y < bs.length) (hne : x ≠ y) (ebx : bx = bs.getD x 0) (eby : by' = bs.getD y 0)
    (hA : OneOff w w2 wo bx cx) (hS : Swapped w wo wS g x y (.slice (some ⟨by', 0, none⟩) n n) (.slice (some ⟨bx, 0, none⟩) n n)) (hF : OneOff w wS wF by' cy)
    (hcx : cx = ((addL n t (zss.getD x []) (zss.getD y [])).map (Value.int .i64)).toArray) (hcy : cy = ((negL (zss.getD y [])).map (Value.int .i64)).toArray) (_ : w1 = w1) :
    RowsAt wF (.slice (some ⟨g, 0, none⟩) bs.length cap) (movedL n t x y zss) ∧ IntsAt wF (.slice (some ⟨by', 0, none⟩) n n) (negL (zss.getD y [])) ∧ wF.cell? ⟨g, x, none⟩ = some (.slice (some ⟨by', 0, none⟩) n n) := by
  have hl := hO.len
  have rx := hO.row x hx
  have ry := hO.row y hy
  have hgx : g ≠ bx := fun e => rx.2.2.2 (by rw [← ebx, ← e]; rfl)
  have hgy : g ≠ by' := fun e => ry.2.2.2 (by rw [← eby, ← e]; rfl)
  have hxy : bx ≠ by' := by rw [ebx, eby]; exact nodup_ne hO.apart hx hy hne
  have iy : IntsAt wF (.slice (some ⟨by', 0, none⟩) n n) (negL (zss.getD y [])) := by
    refine ints_of_blk ?_ (by simp [negL]; exact ry.2.1) hn
    rw [← hcy]; exact hF.blk
  have kx : wF.cell? ⟨g, x, none⟩ = some (.slice (some ⟨by', 0, none⟩) n n) := by rw [hF.cell (a := ⟨g, x, none⟩) hgy]; exact hS.cx
  refine ⟨Or.inr ⟨by rw [movedL_length]; omega, g, 0, cap, by rw [movedL_length, hl], fun i hi => ?_⟩, iy, kx⟩
  rw [movedL_length] at hi
  rw [Nat.zero_add]
  by_cases e1 : i = x
  · subst e1
    exact ⟨_, kx, by rw [movedL_x (by omega) hne]; exact iy⟩
  · by_cases e2 : i = y
    · subst e2
      refine ⟨_, by rw [hF.cell (a := ⟨g, i, none⟩) hgy]; exact hS.cy, ?_⟩
      rw [movedL_y (by omega)]
      refine ints_of_blk ?_ (by simp [addL]) hn
      unfold Blk
      rw [hF.keep bx hxy, hS.keep bx (fun e => hgx e.symm)]
      rw [← hcx]; exact hA.blk
    · have hib : i < bs.length := by omega
      have ri := hO.row i hib
      have hix : bs.getD i 0 ≠ bx := by rw [ebx]; exact nodup_ne hO.apart hib hx e1
      have hiy : bs.getD i 0 ≠ by' := by rw [eby]; exact nodup_ne hO.apart hib hy e2
      have hig : bs.getD i 0 ≠ g := fun e => ri.2.2.2 (by rw [e]; rfl)
      obtain ⟨g', cap', hv, _, hc⟩ := hO.cell (by omega)
      injection hv with hv1
      injection hv1 with hv1
      injection hv1 with hv1
      subst hv1
      refine ⟨_, by rw [hF.cell (a := ⟨g, i, none⟩) hgy, hS.rest i e1 e2, hA.cell (a := ⟨g, i, none⟩) hgx]; exact hc i hib, ?_⟩
      rw [movedL_o e1 e2]
      refine ints_of_blk ?_ ri.2.1 hn
      unfold Blk
      rw [hF.keep _ hiy, hS.keep _ hig, hA.keep _ hix]
      exact ri.1


end Go.Proofs.YtmlcblnndihjoaaGreat
