import Derived.Test.YtdjicplcognddaaRefE
import Derived.Test.YtdjicplcognddaaShape
import Derived.Laws.CopyOwn
namespace Go.Proofs.Ytdjicplcognddaa
open Go.RowKit

/-- the rows by columns, and the vector that is folded in -/
structure Col (n : Nat) (w : World) (B g : Nat) (xs : Nat → Value) (bs : Nat → Nat) (R : Nat → Lat.V) (vb : Nat) (v : Lat.V) : Prop where
  ats : AtS n w B g xs bs R
  vblk : Blk w vb ((cutV n v).map (Value.int .i64)).toArray 3
  vbase : B ≤ vb
  vg : vb ≠ g
  vrow : ∀ c, c < n → xs c ≠ nilS → vb ≠ bs c

theorem map_set {n c : Nat} (xs : Nat → Value) (x : Value) (h : c < n) : ((List.range n).map xs).toArray.setIfInBounds c x = ((List.range n).map (fun d => if d = c then x else xs d)).toArray := by
  apply Array.ext
  · simp
  · intro i h1 h2
    simp only [List.size_toArray, Array.size_setIfInBounds, List.length_map, List.length_range] at h1
    by_cases e : i = c
    · subst e; simp
    · simp [e, Ne.symm e]

theorem swept_pos {c : Nat} {a b a' b' : Lat.V} (h : Lat.Swept c a b a' b') (hb : b.at c ≠ 0) : 0 < a'.at c := by
  obtain ⟨p, q, r, s, _, h2⟩ := h.back
  obtain ⟨_, _, _, _, _, _, _, z, n, _⟩ := h
  rcases Int.lt_or_eq_of_le n with e | e
  · exact e
  · exfalso; apply hb; rw [h2, Lat.V.at_comb, z, ← e]; simp

/-- behind fold and the store of its first row -/
theorem Col.fold {n : Nat} {w0 wa w1 w2 : World} {B g : Nat} {xs : Nat → Value} {bs : Nat → Nat} {R : Nat → Lat.V} {vb : Nat} {v : Lat.V} (h : Col n w0 B g xs bs R vb v) {c : Nat} (hc : c < n)
    {pa p q : Nat} {a' b' : Lat.V} {x : Value} (ka : ∀ m, m < w0.heap.size → m ≠ g → wa.heap[m]? = w0.heap[m]?) (kg : Blk wa g ((List.range n).map (fun d => if d = c then x else xs d)).toArray 22)
    (hpa : B ≤ pa) (hpg : pa ≠ g) (hpv : pa ≠ vb) (hpd : ∀ d, d < n → d ≠ c → xs d ≠ nilS → pa ≠ bs d)
    (hU : Upd2 wa w1 pa vb) (hpq : (p = pa ∧ q = vb) ∨ (p = vb ∧ q = pa)) (hp : Blk w1 p ((cutV n a').map (Value.int .i64)).toArray 3) (hq : Blk w1 q ((cutV n b').map (Value.int .i64)).toArray 3)
    (pos : 0 < a'.at c) (h2 : w2.heap = (w1.setCell ⟨g, c, none⟩ (.slice (some ⟨p, 0, none⟩) n n)).heap) :
    Col n w2 B g (fun d => if d = c then .slice (some ⟨p, 0, none⟩) n n else xs d) (fun d => if d = c then p else bs d) (fun d => if d = c then a' else R d) q b' := by
  have hgp : p ≠ g := by rcases hpq with ⟨e, _⟩ | ⟨e, _⟩ <;> rw [e]; exact hpg; exact h.vg
  have hgq : q ≠ g := by rcases hpq with ⟨_, e⟩ | ⟨_, e⟩ <;> rw [e]; exact h.vg; exact hpg
  have hBp : B ≤ p := by rcases hpq with ⟨e, _⟩ | ⟨e, _⟩ <;> rw [e]; exact hpa; exact h.vbase
  have hBq : B ≤ q := by rcases hpq with ⟨_, e⟩ | ⟨_, e⟩ <;> rw [e]; exact h.vbase; exact hpa
  have hne : q ≠ p := by rcases hpq with ⟨e, e'⟩ | ⟨e, e'⟩ <;> rw [e, e']; exact fun e => hpv e.symm; exact hpv
  have hpr : ∀ d, d < n → d ≠ c → xs d ≠ nilS → p ≠ bs d ∧ q ≠ bs d := fun d hd he hx => by
    have t1 := hpd d hd he hx
    have t2 := h.vrow d hd hx
    rcases hpq with ⟨e, e'⟩ | ⟨e, e'⟩ <;> rw [e, e']
    · exact ⟨t1, t2⟩
    · exact ⟨t2, t1⟩
  have hset : ∀ m, m ≠ g → w2.heap[m]? = w1.heap[m]? := fun m hm => by
    rw [h2]; exact Below.heap_setCell w1 ⟨g, c, none⟩ _ m hm
  have hother : ∀ d, d < n → d ≠ c → xs d ≠ nilS → bs d ≠ g → ∀ cs, Blk w0 (bs d) cs 3 → Blk w2 (bs d) cs 3 := fun d hd he hx hg cs hb => by
    obtain ⟨t1, t2⟩ := hpr d hd he hx
    have t3 : bs d ≠ pa := fun e => hpd d hd he hx e.symm
    have t4 : bs d ≠ vb := fun e => h.vrow d hd hx e.symm
    unfold Blk; rw [hset _ hg, hU.keep _ t3 t4, ka _ hb.lt hg]; exact hb
  refine ⟨⟨?_, h.ats.base, fun d hd => ?_, fun d e hd he hde h3 h4 => ?_⟩, ?_, hBq, hgq, fun d hd hx => ?_⟩
  · have kg1 : Blk w1 g ((List.range n).map (fun d => if d = c then x else xs d)).toArray 22 := by
      unfold Blk; rw [hU.keep g (fun e => hpg e.symm) (fun e => h.vg e.symm)]; exact kg
    have := kg1.set c (.slice (some ⟨p, 0, none⟩) n n)
    rw [map_set _ _ hc] at this
    have e : (fun d => if d = c then Value.slice (some ⟨p, 0, none⟩) n n else (if d = c then x else xs d)) = (fun d => if d = c then Value.slice (some ⟨p, 0, none⟩) n n else xs d) := by
      funext d; by_cases e : d = c <;> simp [e]
    rw [e] at this
    unfold Blk at this ⊢; rw [h2]; exact this
  · by_cases e : d = c
    · subst e
      refine Or.inr ?_
      simp only [if_true]
      refine ⟨trivial, pos, ?_, hBp, hgp⟩
      unfold Blk; rw [hset _ hgp]; exact hp
    · simp only [if_neg e]
      rcases h.ats.row d hd with t | ⟨e1, e2, e3, e4, e5⟩
      · exact Or.inl t
      · exact Or.inr ⟨e1, e2, hother d hd e (by rw [e1]; exact slice_ne_nil _ _) e5 _ e3, e4, e5⟩
  · by_cases e1 : d = c
    · subst e1
      have e2 : ¬ e = d := fun t => hde t.symm
      simp only [if_true, if_neg e2] at h4 ⊢
      exact (hpr e he e2 h4).1
    · by_cases e2 : e = c
      · subst e2
        simp only [if_true, if_neg e1] at h3 ⊢
        exact fun t => (hpr d hd e1 h3).1 t.symm
      · simp only [if_neg e1, if_neg e2] at h3 h4 ⊢
        exact h.ats.apart d e hd he hde h3 h4
  · unfold Blk; rw [hset _ hgq]; exact hq
  · by_cases e : d = c
    · simp only [if_pos e]; exact hne
    · simp only [if_neg e] at hx ⊢; exact (hpr d hd e hx).2

theorem Col.heap {n : Nat} {w w' : World} {B g : Nat} {xs : Nat → Value} {bs : Nat → Nat} {R : Nat → Lat.V} {vb : Nat} {v : Lat.V} (h : Col n w B g xs bs R vb v) (e : w'.heap = w.heap) : Col n w' B g xs bs R vb v :=
  ⟨h.ats.heap e, by unfold Blk; rw [e]; exact h.vblk, h.vbase, h.vg, h.vrow⟩

theorem Col.congr {n : Nat} {w : World} {B g : Nat} {xs : Nat → Value} {bs : Nat → Nat} {R R' : Nat → Lat.V} {vb : Nat} {v : Lat.V} (h : Col n w B g xs bs R vb v) (e : ∀ c, c < n → R c = R' c) : Col n w B g xs bs R' vb v :=
  ⟨h.ats.congr e, h.vblk, h.vbase, h.vg, h.vrow⟩

theorem swept_idle {c : Nat} {a v : Lat.V} (hv : v.at c = 0) (ha : 0 ≤ a.at c) : Lat.Swept c a v a v := (Lat.Euc.start c a v).done hv ha

end Go.Proofs.Ytdjicplcognddaa
