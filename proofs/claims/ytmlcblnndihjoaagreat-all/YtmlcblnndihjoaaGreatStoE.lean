import Derived.Test.YtmlcblnndihjoaaGreatInts
import Derived.Deep.AppendLies
import Derived.Test.YtmlcblnndihjoaaGreatTextC
import Derived.Lib.AppendStr
import Derived.OwnWalk
set_option linter.unusedSimpArgs false
set_option linter.unusedVariables false
namespace Go.Proofs.YtmlcblnndihjoaaGreat
open Go.RowKit

/-- of the blocks that there were, none but those of M has changed -/
structure Keeps (M : List Nat) (w w' : World) : Prop where
  os : w'.os = w.os
  tape : w'.tape = w.tape
  output : w'.output = w.output
  size : w.heap.size ≤ w'.heap.size
  block : ∀ k, k < w.heap.size → k ∉ M → w'.heap[k]? = w.heap[k]?

theorem Keeps.refl (M : List Nat) (w : World) : Keeps M w w := ⟨rfl, rfl, rfl, Nat.le_refl _, fun _ _ _ => rfl⟩
theorem Keeps.trans {M : List Nat} {a b c : World} (h : Keeps M a b) (k : Keeps M b c) : Keeps M a c :=
  ⟨k.os.trans h.os, k.tape.trans h.tape, k.output.trans h.output, Nat.le_trans h.size k.size, fun i hi hm => (k.block i (Nat.lt_of_lt_of_le hi h.size) hm).trans (h.block i hi hm)⟩
/-- blocks that there were not need not be named -/
theorem Keeps.less {M M' : List Nat} {a c : World} (h : Keeps M' a c) (hm : ∀ m ∈ M', m ∈ M ∨ a.heap.size ≤ m) : Keeps M a c :=
  ⟨h.os, h.tape, h.output, h.size, fun k hk hn => h.block k hk (fun e => by rcases hm k e with q | q; exact hn q; omega)⟩
theorem Keeps.mono {M M' : List Nat} {a c : World} (h : Keeps M a c) (hm : ∀ m ∈ M, m ∈ M') : Keeps M' a c := h.less (fun m q => Or.inl (hm m q))
theorem keeps_of {w w' : World} (h : Below w.heap.size w w') (M : List Nat) : Keeps M w w' := ⟨h.os, h.tape, h.output, h.size, fun k hk _ => h.block k hk⟩
theorem Keeps.below {M : List Nat} {B : Nat} {w w' : World} (h : Keeps M w w') (hm : ∀ m ∈ M, B ≤ m) (hB : B ≤ w.heap.size) : Below B w w' :=
  ⟨h.os, h.tape, h.output, h.size, fun k hk => h.block k (by omega) (fun e => by have := hm k e; omega)⟩
theorem Keeps.set {M : List Nat} {a w : World} (h : Keeps M a w) {p : Addr} (hp : p.block ∈ M ∨ a.heap.size ≤ p.block) (u : Value) : Keeps M a (w.setCell p u) :=
  ⟨h.os, h.tape, h.output, by simpa using h.size, fun k hk hm => by
    rw [Below.heap_setCell w p u k (fun e => by rcases hp with q | q; exact hm (e ▸ q); omega)]; exact h.block k hk hm⟩
theorem Keeps.alloc {M : List Nat} {a w : World} (h : Keeps M a w) (o : Obj) : Keeps M a (w.alloc o) :=
  ⟨h.os, h.tape, h.output, Nat.le_trans h.size (by simp), fun k hk hm => by rw [Below.heap_alloc w o k (Nat.lt_of_lt_of_le hk h.size)]; exact h.block k hk hm⟩
theorem Keeps.drew {M : List Nat} {a w : World} (h : Keeps M a w) : Keeps M a w.drew := ⟨h.os, h.tape, h.output, h.size, h.block⟩
theorem Keeps.step {M : List Nat} {a w w' : World} (h : Keeps M a w) (hb : Below w.heap.size w w') : Keeps M a w' := h.trans (keeps_of hb M)
theorem Keeps.grown {M : List Nat} {a w w' : World} {row : Option Nat} (h : Keeps M a w) (hg : w.grownBy w' row) (hr : ∀ k, row = some k → k ∈ M ∨ a.heap.size ≤ k) : Keeps M a w' :=
  ⟨hg.os.trans h.os, hg.tape.trans h.tape, hg.output.trans h.output, Nat.le_trans h.size hg.size, fun k hk hm =>
    (hg.block k (Nat.lt_of_lt_of_le hk h.size) (fun e => by rcases hr k e.symm with q | q; exact hm q; omega)).trans (h.block k hk hm)⟩
theorem Keeps.blk {M : List Nat} {w w' : World} (h : Keeps M w w') {b : Nat} {cs : Array Value} {T : TypeId} (hb : Blk w b cs T) (hn : b ∉ M) : Blk w' b cs T := by
  unfold Blk; rw [h.block b hb.lt hn]; exact hb

/-- p stays as long as no block but those of M changes -/
def Held (M : List Nat) (w : World) (p : World → Prop) : Prop := ∀ w', Keeps M w w' → p w'

theorem Held.now {M : List Nat} {w : World} {p : World → Prop} (h : Held M w p) : p w := h w (Keeps.refl _ _)
theorem Held.keep {M : List Nat} {w w' : World} {p : World → Prop} (h : Held M w p) (k : Keeps M w w') : Held M w' p := fun w'' k' => h w'' (k.trans k')
theorem Held.step {M : List Nat} {w w' : World} {p : World → Prop} (h : Held M w p) (k : Below w.heap.size w w') : Held M w' p := h.keep (keeps_of k M)
/-- the blocks of M' that are not in M are new -/
theorem Held.less {M M' : List Nat} {w : World} {p : World → Prop} (h : Held M w p) (hm : ∀ m ∈ M', m ∈ M ∨ w.heap.size ≤ m) : Held M' w p := fun w' k => h w' (k.less hm)
theorem Held.imp {M : List Nat} {w : World} {p q : World → Prop} (h : Held M w p) (hi : ∀ w, p w → q w) : Held M w q := fun w' k => hi w' (h w' k)
theorem Held.pure {M : List Nat} {w : World} {p : World → Prop} (h : ∀ w, p w) : Held M w p := fun w' _ => h w'

theorem Fresh.keep {B : Nat} {M : List Nat} {w w' : World} {p : World → Prop} (h : Fresh B w p) (k : Keeps M w w') (hM : ∀ m ∈ M, m < B ∨ w.heap.size ≤ m) : Fresh B w' p := fun w'' k' => h w'' (fun b h1 h2 => (k' b h1 (Nat.lt_of_lt_of_le h2 k.size)).trans (k.block b h2 (fun e => by have := hM b e; omega)))
theorem Fresh.held {B : Nat} {M : List Nat} {w : World} {p : World → Prop} (h : Fresh B w p) (hM : ∀ m ∈ M, m < B ∨ w.heap.size ≤ m) : Held M w p := fun w' k => h w' (fun b h1 h2 => k.block b h2 (fun e => by have := hM b e; omega))

theorem owns_fresh {w w9 : World} {B base : Nat} {e : TypeId} {size : Nat} {v : Value} {n : Nat} {xs : List Value} (h : w.ownsRow base e size v n xs) (hB : B ≤ base) (k : ∀ b, B ≤ b → b < w.heap.size → w9.heap[b]? = w.heap[b]?) : w9.ownsRow base e size v n xs := by
  refine ⟨h.1, ?_⟩
  rcases h.2 with q | ⟨g, cap, cur, h1, h2, h3, h4⟩
  · exact Or.inl q
  · exact Or.inr ⟨g, cap, cur, h1, h2, by rw [k g (by omega) (Array.getElem?_eq_some_iff.1 h3).1]; exact h3, h4⟩

/-- the slice value v reads as the strings ss -/
def StrsAt (w : World) (v : Value) (ss : List ByteArray) : Prop :=
  (ss = [] ∧ ∃ a cap, v = .slice a 0 cap) ∨
  (0 < ss.length ∧ ∃ b o cap, v = .slice (some ⟨b, o, none⟩) ss.length cap ∧ ∀ i, i < ss.length → w.cell? ⟨b, o + i, none⟩ = some (.string (ss.getD i ⟨#[]⟩)))

theorem StrsAt.slice {w : World} {v : Value} {ss : List ByteArray} (h : StrsAt w v ss) : ∃ a cap, v = .slice a ss.length cap := by
  rcases h with ⟨rfl, a, cap, rfl⟩ | ⟨_, b, o, cap, rfl, _⟩
  · exact ⟨a, cap, rfl⟩
  · exact ⟨_, cap, rfl⟩
theorem StrsAt.below {w w' : World} {v : Value} {ss : List ByteArray} (h : StrsAt w v ss) (hb : Below w.heap.size w w') : StrsAt w' v ss := by
  rcases h with h | ⟨h0, b, o, cap, hv, hc⟩
  · exact Or.inl h
  · exact Or.inr ⟨h0, b, o, cap, hv, fun i hi => cell_below hb (hc i hi)⟩
theorem StrsAt.cellAt {w : World} {a : Option Addr} {m cap : Nat} {ss : List ByteArray} (h : StrsAt w (.slice a m cap) ss) {i : Nat} (hi : i < ss.length) :
    ∃ b o, a = some ⟨b, o, none⟩ ∧ w.cell? ⟨b, o + i, none⟩ = some (.string (ss.getD i ⟨#[]⟩)) := by
  rcases h with ⟨rfl, _⟩ | ⟨_, b, o, c, e, hc⟩
  · simp at hi
  · cases e; exact ⟨b, o, rfl, hc i hi⟩
theorem strsAt_blk {w : World} {b cap : Nat} {ss : List ByteArray} {cs : Array Value} {T : TypeId} (h : Blk w b cs T) (hc : ∀ i, i < ss.length → cs[i]? = some (.string (ss.getD i ⟨#[]⟩))) : StrsAt w (.slice (some ⟨b, 0, none⟩) ss.length cap) ss := by
  by_cases h0 : 0 < ss.length
  · exact Or.inr ⟨h0, b, 0, cap, rfl, fun i hi => by rw [Nat.zero_add, h.cell i]; exact hc i hi⟩
  · have e : ss = [] := List.length_eq_zero_iff.1 (by omega)
    subst e; exact Or.inl ⟨rfl, _, _, rfl⟩

/-- the slice value v reads as the writes ws -/
def WritesAt (w : World) (v : Value) (ws : List (Nat × ByteArray)) : Prop :=
  (ws = [] ∧ ∃ a cap, v = .slice a 0 cap) ∨
  (0 < ws.length ∧ ∃ b cap, v = .slice (some ⟨b, 0, none⟩) ws.length cap ∧ ∀ i, i < ws.length → w.cell? ⟨b, 2 * i, none⟩ = some (.int .i64 ((ws.getD i (0, ⟨#[]⟩)).1 : Nat)) ∧ w.cell? ⟨b, 2 * i + 1, none⟩ = some (.string (ws.getD i (0, ⟨#[]⟩)).2))

theorem WritesAt.slice {w : World} {v : Value} {ws : List (Nat × ByteArray)} (h : WritesAt w v ws) : ∃ a cap, v = .slice a ws.length cap := by
  rcases h with ⟨rfl, a, cap, rfl⟩ | ⟨_, b, cap, rfl, _⟩
  · exact ⟨a, cap, rfl⟩
  · exact ⟨_, cap, rfl⟩
theorem WritesAt.below {w w' : World} {v : Value} {ws : List (Nat × ByteArray)} (h : WritesAt w v ws) (hb : Below w.heap.size w w') : WritesAt w' v ws := by
  rcases h with h | ⟨h0, b, cap, hv, hc⟩
  · exact Or.inl h
  · exact Or.inr ⟨h0, b, cap, hv, fun i hi => ⟨cell_below hb (hc i hi).1, cell_below hb (hc i hi).2⟩⟩
theorem WritesAt.cellAt {w : World} {a : Option Addr} {m cap : Nat} {ws : List (Nat × ByteArray)} (h : WritesAt w (.slice a m cap) ws) {i : Nat} (hi : i < ws.length) :
    ∃ b, a = some ⟨b, 0, none⟩ ∧ w.cell? ⟨b, 2 * i, none⟩ = some (.int .i64 ((ws.getD i (0, ⟨#[]⟩)).1 : Nat)) ∧ w.cell? ⟨b, 2 * i + 1, none⟩ = some (.string (ws.getD i (0, ⟨#[]⟩)).2) := by
  rcases h with ⟨rfl, _⟩ | ⟨_, b, c, e, hc⟩
  · simp at hi
  · cases e; exact ⟨b, rfl, hc i hi⟩
theorem writesAt_nil (w : World) (a : Option Addr) (cap : Nat) : WritesAt w (.slice a 0 cap) [] := Or.inl ⟨rfl, a, cap, rfl⟩

end Go.Proofs.YtmlcblnndihjoaaGreat

namespace Go.Proofs.YtmlcblnndihjoaaGreat
open Go.RowKit

theorem eqlB (s : ByteArray) : (s.toList == s.toList) = true := by simp
theorem neB {a b : ByteArray} (h : a ≠ b) : (a.toList == b.toList) = false := by
  rw [beq_eq_false_iff_ne]
  intro e
  apply h
  rw [ByteArray.toList_eq, ByteArray.toList_eq] at e
  exact ByteArray.ext (Array.toList_inj.1 e)

/-- the mark of a disk on which no text counts, and those of the two slots -/
def mark0 : ByteArray := ⟨#[0, 0, 0, 0, 0, 0, 0, 0]⟩
def markF : ByteArray := ⟨#[108, 97, 116, 116, 105, 99, 101, 49]⟩
def markS : ByteArray := ⟨#[108, 97, 116, 116, 105, 99, 101, 50]⟩
def markOf (f : Bool) : ByteArray := if f then markS else markF
def slotAt (f : Bool) : Nat := if f then 4 else 1

theorem mark0_ne : markF ≠ mark0 ∧ markS ≠ mark0 ∧ markS ≠ markF := by decide
theorem markOf_size (f : Bool) : (markOf f).size = 8 := by cases f <;> rfl

def at8 (ss : List ByteArray) (i : Nat) : ByteArray := ss.getD i ⟨#[]⟩

/-- what stands in a slot -/
def slotN (f : Bool) (ss : List ByteArray) : List Int := nums (at8 ss (slotAt f)) ++ nums (at8 ss (slotAt f + 1)) ++ nums (at8 ss (slotAt f + 2))
/-- the text in it: none where it would be longer than the slot -/
def textIn (f : Bool) (ss : List ByteArray) : Option ByteArray :=
  if 1 + (slotN f ss).getD 0 0 ≤ (slotN f ss).length then some (strOfNums (((slotN f ss).drop 1).take ((slotN f ss).getD 0 0).toNat)) else none

def DiskLike (ss : List ByteArray) : Prop := ss.length = 8 ∧ ∀ s ∈ ss, s.size = 8

/-- what Load answers: the text that counts, the free slot -/
inductive Loads (ss : List ByteArray) : ByteArray → Bool → Prop
  | none : DiskLike ss → at8 ss 0 = mark0 → Loads ss ⟨#[]⟩ false
  | some (f : Bool) (t : ByteArray) : DiskLike ss → at8 ss 0 = markOf f → textIn f ss = Option.some t → Loads ss t (!f)

theorem Loads.like {ss : List ByteArray} {t : ByteArray} {f : Bool} (h : Loads ss t f) : DiskLike ss := by cases h <;> assumption

/-- what stands in a slot that bears a text -/
def fillN (t : ByteArray) : List Int := (t.size : Int) :: (nums t ++ List.replicate (23 - t.size) 0)
def chunk (t : ByteArray) (i : Nat) : ByteArray := strOfNums (((fillN t).drop (8 * i)).take 8)

/-- the writes that lay a text into a slot -/
def saveF (f : Bool) (t : ByteArray) : List (Nat × ByteArray) :=
  [(slotAt f, chunk t 0), (slotAt f + 1, chunk t 1), (slotAt f + 2, chunk t 2), (0, markOf f)]

def putAll (ws : List (Nat × ByteArray)) (ss : List ByteArray) : List ByteArray := ws.foldl (fun d q => d.set q.1 q.2) ss

theorem fillN_length {t : ByteArray} (h : t.size ≤ 23) : (fillN t).length = 24 := by
  simp [fillN, nums_length]; omega
theorem fillN_range {t : ByteArray} (h : t.size ≤ 23) : ∀ z ∈ fillN t, 0 ≤ z ∧ z ≤ 255 := by
  intro z hz
  simp only [fillN, List.mem_cons, List.mem_append, List.mem_replicate] at hz
  rcases hz with rfl | hz | ⟨_, rfl⟩
  · omega
  · exact nums_range t z hz
  · omega
theorem chunk_nums {t : ByteArray} (h : t.size ≤ 23) (i : Nat) : nums (chunk t i) = ((fillN t).drop (8 * i)).take 8 :=
  nums_str _ (fun z hz => fillN_range h z (List.mem_of_mem_drop (List.mem_of_mem_take hz)))
theorem chunk_size {t : ByteArray} (h : t.size ≤ 23) {i : Nat} (hi : i < 3) : (chunk t i).size = 8 := by
  rw [← nums_length, chunk_nums h, List.length_take, List.length_drop, fillN_length h]; omega

theorem chunk_all {t : ByteArray} (h : t.size ≤ 23) : nums (chunk t 0) ++ nums (chunk t 1) ++ nums (chunk t 2) = fillN t := by
  rw [chunk_nums h, chunk_nums h, chunk_nums h]
  have hl := fillN_length h
  generalize fillN t = l at *
  have e1 : (l.drop (8 * 0)).take 8 = l.take 8 := by simp
  have e2 : (l.drop (8 * 2)).take 8 = l.drop 16 := List.take_of_length_le (by simp; omega)
  rw [e1, e2]
  have e3 : l.drop 16 = (l.drop 8).drop 8 := by simp
  rw [e3, List.append_assoc, show 8 * 1 = 8 from rfl, List.take_append_drop, List.take_append_drop]

theorem at8_set {ss : List ByteArray} {i j : Nat} {d : ByteArray} (h : i < ss.length) : at8 (ss.set i d) j = if j = i then d else at8 ss j := by
  unfold at8
  rw [List.getD_eq_getElem?_getD, List.getElem?_set]
  by_cases e : i = j
  · subst e; simp [h]
  · have e' : ¬ j = i := fun x => e x.symm
    simp [e, e', List.getD_eq_getElem?_getD]

theorem DiskLike.set {ss : List ByteArray} (h : DiskLike ss) (i : Nat) {d : ByteArray} (hd : d.size = 8) : DiskLike (ss.set i d) :=
  ⟨by rw [List.length_set]; exact h.1, fun s hs => by
    rcases List.mem_or_eq_of_mem_set hs with q | q
    · exact h.2 s q
    · rw [q]; exact hd⟩

theorem slotAt_ne (f : Bool) {i j : Nat} (hi : i < 3) (hj : j < 3) : slotAt f + i ≠ slotAt (!f) + j ∧ slotAt f + i ≠ 0 ∧ slotAt f + i < 8 := by
  cases f <;> simp [slotAt] <;> omega

theorem saveF_lawful (f : Bool) {t : ByteArray} (ht : t.size ≤ 23) : ∀ q ∈ saveF f t, q.1 < 8 ∧ q.2.size = 8 := by
  intro q hq
  simp only [saveF, List.mem_cons, List.not_mem_nil, or_false] at hq
  have b0 : slotAt f < 8 ∧ slotAt f + 1 < 8 ∧ slotAt f + 2 < 8 ∧ 0 < slotAt f := by cases f <;> decide
  rcases hq with rfl | rfl | rfl | rfl
  · exact ⟨b0.1, chunk_size ht (by omega)⟩
  · exact ⟨b0.2.1, chunk_size ht (by omega)⟩
  · exact ⟨b0.2.2.1, chunk_size ht (by omega)⟩
  · exact ⟨Nat.succ_pos 7, markOf_size f⟩

end Go.Proofs.YtmlcblnndihjoaaGreat

namespace Go.Proofs.YtmlcblnndihjoaaGreat
open Go.RowKit

theorem retOther {R : Ending → World → Prop} {a : Act} {W : World} {p : Nat} {x : Value}
    (h : a.tmps[2]?.getD undef = .pointer (some ⟨p, 0, none⟩)) (k : Blk W p #[x] 131) (hd : a.defers = [])
    (hR : R (.returned (.agg #[x])) W) : bodyPost Tryz.prog Tryz.f101 R .ret a W := by
  have c0 := k.cell 0
  simp at c0
  refine bodyPost_ret (v := .agg #[x]) ?_ hd hR
  simp [results, Tryz.results101, go_sem, h, c0]

theorem retMarked {R : Ending → World → Prop} {a : Act} {W : World} {p : Nat} {x c : Value}
    (h : a.tmps[2]?.getD undef = .pointer (some ⟨p, 0, none⟩)) (h3 : a.tmps[3]?.getD undef = c) (k : Blk W p #[x] 131) (hd : a.defers = [])
    (hR : R (.returned (.tuple #[.agg #[x], c])) W) : bodyPost Tryz.prog Tryz.f99 R .ret a W := by
  have c0 := k.cell 0
  simp at c0
  refine bodyPost_ret (v := .tuple #[.agg #[x], c]) ?_ hd hR
  simp [results, Tryz.results99, go_sem, h, h3, c0]

theorem retLoad {R : Ending → World → Prop} {a : Act} {W : World} {p : Nat} {x c d : Value}
    (h : a.tmps[3]?.getD undef = .pointer (some ⟨p, 0, none⟩)) (h2 : a.tmps[2]?.getD undef = d) (h4 : a.tmps[4]?.getD undef = c) (k : Blk W p #[x] 131) (hd : a.defers = [])
    (hR : R (.returned (.tuple #[d, .agg #[x], c])) W) : bodyPost Tryz.prog Tryz.f94 R .ret a W := by
  have c0 := k.cell 0
  simp at c0
  refine bodyPost_ret (v := .tuple #[d, .agg #[x], c]) ?_ hd hR
  simp [results, Tryz.results94, go_sem, h, h2, h4, c0]

theorem slotBlock_any (f : Bool) (w : World) :
    Calls Tryz.prog 103 #[.agg #[.bool f]] w fun e w' => e = .returned (.int .i64 (slotAt f : Nat)) ∧ Below w.heap.size w w' := by
  cases f
  · go_enter Tryz.func103, Tryz.ntmps103
    go_wp2
    go_ret
    exact ⟨rfl, by go_grown⟩
  · go_enter Tryz.func103, Tryz.ntmps103
    go_wp2
    go_ret
    exact ⟨rfl, by go_grown⟩

theorem slotMark_any (f : Bool) (w : World) :
    Calls Tryz.prog 105 #[.agg #[.bool f]] w fun e w' => e = .returned (.string (markOf f)) ∧ Below w.heap.size w w' := by
  cases f
  · go_enter Tryz.func105, Tryz.ntmps105
    go_wp2
    go_ret
    exact ⟨rfl, by go_grown⟩
  · go_enter Tryz.func105, Tryz.ntmps105
    go_wp2
    go_ret
    exact ⟨rfl, by go_grown⟩

theorem slotOther_any (f : Bool) (w : World) :
    Calls Tryz.prog 101 #[.agg #[.bool f]] w fun e w' => e = .returned (.agg #[.bool (!f)]) ∧ Below w.heap.size w w' := by
  go_enter Tryz.func101, Tryz.ntmps101
  go_wp2
  refine retOther rfl (Blk.new _ _ _ (by simp)) rfl ⟨rfl, by go_grown⟩

def DiskEnd (ss : List ByteArray) (e : Ending) : Prop := ∃ r : Bool, e = .returned (.bool r) ∧ (r = true ↔ DiskLike ss)
theorem disk_no {ss : List ByteArray} (h : ¬ DiskLike ss) : DiskEnd ss (.returned (.bool false)) := ⟨false, rfl, ⟨fun e => (by cases e), fun e => absurd e h⟩⟩
theorem disk_yes {ss : List ByteArray} (h : DiskLike ss) : DiskEnd ss (.returned (.bool true)) := ⟨true, rfl, ⟨fun _ => h, fun _ => rfl⟩⟩

theorem mem_at8 {ss : List ByteArray} {s : ByteArray} (h : s ∈ ss) : ∃ i, i < ss.length ∧ s = at8 ss i := by
  obtain ⟨i, hi, rfl⟩ := List.getElem_of_mem h
  exact ⟨i, hi, by unfold at8; rw [List.getD_eq_getElem?_getD, List.getElem?_eq_getElem hi]; rfl⟩
theorem at8_mem {ss : List ByteArray} {i : Nat} (h : i < ss.length) : at8 ss i ∈ ss := by
  unfold at8; rw [List.getD_eq_getElem?_getD, List.getElem?_eq_getElem h]; exact List.getElem_mem h

set_option maxHeartbeats 2000000 in
theorem isDisk_any (v : Value) (ss : List ByteArray) (w : World) (hv : StrsAt w v ss) :
    Calls Tryz.prog 98 #[v] w fun e w' => DiskEnd ss e ∧ Below w.heap.size w w' := by
  by_cases h8 : ss.length = 8
  · have HV := hide0 hv
    obtain ⟨a, c, rfl⟩ := hv.slice
    clear hv
    have H8 := hide0 h8
    have HL : Hid (∀ (h : ∀ i, i < 8 → (at8 ss i).size = 8), DiskLike ss) := fun h => ⟨h8, fun s hs => by
      obtain ⟨i, hi, rfl⟩ := mem_at8 hs
      exact h i (by omega)⟩
    have HNL : Hid (∀ i, i < 8 → (at8 ss i).size ≠ 8 → ¬ DiskLike ss) := fun i hi hn hd => hn (hd.2 _ (at8_mem (by omega)))
    rw [h8]
    clear h8
    go_enter Tryz.func98, Tryz.ntmps98
    go_wp2
    go_loopg [3] (8) (fun mm i wr => ∃ k : Nat, i = .int .i64 k ∧ k + mm = 8 ∧ (∀ j, j < k → (at8 ss j).size = 8) ∧ Below w.heap.size w wr)
    case atStart => exact ⟨0, rfl, by omega, fun j hj => by omega, Below.refl _ _⟩
    case round =>
      obtain ⟨k, rfl, hk, hA, hB⟩ := hrel
      have HB := hide0 hB
      have HA := hide0 hA
      clear hB hA
      by_cases hlt : k < 8
      · have hx := HV.out.below HB.out
        rw [H8.out] at hx
        obtain ⟨b, o, rfl, hc⟩ := hx.cellAt (i := k) (by rw [H8.out]; exact hlt)
        have hlt' : (k : Int) < 8 := by omega
        clear hx
        obtain ⟨d, hd⟩ : ∃ d, d = at8 ss k := ⟨_, rfl⟩
        have hc' : _ = some (Value.string d) := hc.trans (by rw [hd]; rfl)
        clear hc
        have HD := hide0 hd
        clear hd
        by_cases hs : d.size = 8
        · have hs' : (((d.size : Nat) : Int) != 8) = false := by simp; omega
          have HS := hide0 hs
          clear hs
          go_wp2
          go_roundg (gk - 1)
          case measure => omega
          case rel => exact ⟨k + 1, by go_num, by omega, fun j hj => by
              by_cases e : j = k
              · rw [e, ← HD.out]; exact HS.out
              · exact HA.out j (by omega), HB.out⟩
        · have hs' : (((d.size : Nat) : Int) != 8) = true := by simp; omega
          have HS := hide0 hs
          clear hs
          go_wp2
          go_ret
          exact ⟨disk_no (HNL.out k hlt (by rw [← HD.out]; exact HS.out)), HB.out⟩
      · have hd : decide ((k : Int) < 8) = false := by simp; omega
        go_wp2
        go_ret
        exact ⟨disk_yes (HL.out (fun i hi => HA.out i (by omega))), HB.out⟩
  · have h8' : ((ss.length : Int) != 8) = true := by simp; omega
    have HN := hide0 (fun (h : DiskLike ss) => h8 h.1)
    obtain ⟨a, c, rfl⟩ := hv.slice
    clear hv h8
    generalize ss.length = n at *
    go_enter Tryz.func98, Tryz.ntmps98
    go_wp2
    go_ret
    exact ⟨disk_no HN.out, Below.refl _ _⟩

/-- what 'marked' answers -/
def MarkEnd (s : ByteArray) (e : Ending) : Prop :=
  (∃ f, s = markOf f ∧ e = .returned (.tuple #[.agg #[.bool f], .bool true])) ∨ ((∀ f, s ≠ markOf f) ∧ e = .returned (.tuple #[.agg #[.bool false], .bool false]))

set_option maxHeartbeats 2000000 in
theorem marked_any (s : ByteArray) (w : World) :
    Calls Tryz.prog 99 #[.string s] w fun e w' => MarkEnd s e ∧ Below w.heap.size w w' := by
  by_cases h1 : s = markF
  · have hee := eqlB markF
    have HE : Hid (MarkEnd s (.returned (.tuple #[.agg #[.bool false], .bool true]))) := Or.inl ⟨false, h1, rfl⟩
    subst h1
    clear hee
    go_enter Tryz.func99, Tryz.ntmps99
    unfold markF
    go_wp2
    refine retMarked rfl rfl (Blk.new _ _ _ rfl) rfl ⟨HE.out, by go_grown⟩
  · have e1 : (s.toList == [108, 97, 116, 116, 105, 99, 101, 49]) = false := by
      have := neB h1
      rw [ByteArray.toList_eq markF] at this
      exact this
    by_cases h2 : s = markS
    · have hee := eqlB markS
      have HE : Hid (MarkEnd s (.returned (.tuple #[.agg #[.bool true], .bool true]))) := Or.inl ⟨true, h2, rfl⟩
      subst h2
      clear h1 e1 hee
      go_enter Tryz.func99, Tryz.ntmps99
      unfold markS
      go_wp2
      refine retMarked rfl rfl (Blk.new _ _ _ rfl) rfl ⟨HE.out, by go_grown⟩
    · have e2 : (s.toList == [108, 97, 116, 116, 105, 99, 101, 50]) = false := by
        have := neB h2
        rw [ByteArray.toList_eq markS] at this
        exact this
      have HE : Hid (MarkEnd s (.returned (.tuple #[.agg #[.bool false], .bool false]))) := Or.inr ⟨fun f => by cases f; exact h1; exact h2, rfl⟩
      clear h1 h2
      go_enter Tryz.func99, Tryz.ntmps99
      go_wp2
      refine retMarked rfl rfl (Blk.new _ _ _ rfl) rfl ⟨HE.out, by go_grown⟩

end Go.Proofs.YtmlcblnndihjoaaGreat

namespace Go.Proofs.YtmlcblnndihjoaaGreat
open Go.RowKit

theorem strCells_nums (s : ByteArray) : Go.Lib.strCells s = (nums s).map (Value.int .u8) := by
  simp [Go.Lib.strCells, nums, Function.comp_def]

def fillK (t : ByteArray) (k : Nat) : List Int := (t.size : Int) :: (nums t ++ List.replicate k 0)
theorem fillK_length (t : ByteArray) (k : Nat) : (fillK t k).length = 1 + t.size + k := by simp [fillK, nums_length]; omega
theorem fillK_snoc (t : ByteArray) (k : Nat) : fillK t k ++ [0] = fillK t (k + 1) := by simp [fillK, List.replicate_succ']
theorem fillK_all (t : ByteArray) : fillK t (23 - t.size) = fillN t := rfl

def BytesEnd (B : Nat) (xs : List Int) (w' : World) (e : Ending) : Prop := ∃ out, e = .returned out ∧ BytesOwn w' B out xs

set_option maxRecDepth 100000 in
set_option maxHeartbeats 4000000 in
theorem slotOf_any (t : ByteArray) (w : World) (ht : t.size ≤ 23) :
    Calls Tryz.prog 104 #[.string t] w fun e w' => BytesEnd w.heap.size (fillN t) w' e ∧ Below w.heap.size w w' := by
  obtain ⟨i0, hi, hz0, hz1, hz2⟩ := info_parts tinfo5
  have HI : Hid (Tryz.prog.info? 5 = some i0 ∧ i0.zero = some (.int .u8 0) ∧ i0.size = 1 ∧ i0.bytes = 1) := ⟨hi, hz0, hz1, hz2⟩
  have HT := hide0 ht
  have hmb : ((t.size : Nat) : Int) ≤ 23 := by omega
  have hu9 : Tryz.prog.underlying 9 = some .string := by kernel_rfl
  have hu1 : Tryz.prog.underlying 111 = some (.slice 5) := by kernel_rfl
  have h0 := World.ownsRow_lit (base := w.heap.size) (e := 5) (size := 1) w #[.int .u8 (t.size : Int)] 1 (Nat.le_refl _) (by simp [maxLen]) rfl
  have HCN := hide0 (strCells_nums t)
  go_enter Tryz.func104, Tryz.ntmps104
  go_wp2_with (at_builtin; refine Go.Lib.wpList_append_own_string _ rfl (.tmp 8) (.tmp 9) 111 9 rfl w.heap.size 5 i0 hu1 hu9 hi hz0 hz1 hz2 _ 1 _ rfl h0 t rfl (by unfold maxLen; omega) (by omega) (by simp) ?_; intro v1 w1 hown1 hgrow1 _)
  have HB1 : Hid (Below w.heap.size w w1) := ((Below.refl _ w).alloc (Nat.le_refl _) _).grown hgrow1 (by simp) (fun j hj => by cases hj; exact Nat.le_refl _)
  have HO1 : Hid (BytesOwn w1 w.heap.size v1 (fillK t 0)) := by
    show BytesOwn w1 w.heap.size v1 (fillK t 0)
    unfold BytesOwn
    rw [fillK_length]
    rw [HCN.out] at hown1
    simpa [fillK] using hown1
  clear hown1 hgrow1 h0 hi hz0 hz1 hz2 hu9 hu1
  obtain ⟨g1, cap1, hv1, _⟩ := HO1.out.cells (by rw [fillK_length]; omega)
  rw [fillK_length] at hv1
  subst hv1
  go_loopg [3] (23 - t.size) (fun mm made wr => ∃ k : Nat, k + mm = 23 - t.size ∧ BytesOwn wr w.heap.size made (fillK t k) ∧ Below w.heap.size w wr)
  case atStart => exact ⟨0, by omega, HO1.out, HB1.out⟩
  case round =>
    obtain ⟨k, hk, hM, hB⟩ := hrel
    have HB := hide0 hB
    have HM := hide0 hM
    obtain ⟨g, cap, rfl, hg0, hg1, _⟩ := hM.cells (by rw [fillK_length]; omega)
    have hsB := hB.size
    unfold BytesOwn at hM
    rw [fillK_length] at hM ⊢
    clear hB
    obtain ⟨L, hL⟩ : ∃ L, L = 1 + t.size + k := ⟨_, rfl⟩
    rw [← hL] at hM ⊢
    have HL := hide0 hL
    by_cases hlt : L < 24
    · have hlt' : (L : Int) < 24 := by omega
      obtain ⟨hi, hz0, hz1, hz2⟩ := HI.out
      go_wp2_with (at_builtin; refine wpList_append_lies _ rfl (.tmp 14) (.tmp 15) 111 rfl w.heap.size 5 i0 (.int .u8 0) 1 1 Tryz.underlying111 hi hz0 hz1 hz2 rfl (by decide) _ _ _ rfl (World.ownsRow.alloc hM _) ⟨wr.heap.size, 0, none⟩ 1 1 [.int .u8 0] rfl rfl (World.news_of_block (cs := #[.int .u8 0]) (t := 5) (fr := (0, 0)) (Blk.new _ _ _ rfl)) (by intro u hu; simp at hu; subst hu; rfl) (by omega) (by unfold maxLen; omega) (by omega) (by simp; omega) _ rfl ?_; intro g2 cap2 w2 hown1 hgrow hat hglt)
      go_roundg (gk - 1)
      case measure => omega
      case rel =>
        refine ⟨k + 1, by omega, ?_, ((HB.out).alloc (by omega) _).grown hgrow (by simp; omega) (fun j hj => by have := (HM.out.lt j hj).1; omega)⟩
        rw [← fillK_snoc]
        unfold BytesOwn
        rw [List.length_append, List.map_append, fillK_length, ← HL.out]
        exact hown1
    · have hd : decide ((L : Int) < 24) = false := by simp; omega
      have hke : k = 23 - t.size := by omega
      have HKE := hide0 hke
      clear hM hke
      go_wp2
      go_ret
      refine ⟨⟨_, rfl, ?_⟩, HB.out⟩
      have := HM.out
      have e : fillK t k = fillN t := by rw [HKE.out]; rfl
      rw [fillK_length, ← HL.out, e] at this
      exact this

end Go.Proofs.YtmlcblnndihjoaaGreat

namespace Go.Proofs.YtmlcblnndihjoaaGreat
open Go.RowKit

theorem slice101 (w : World) (g m c q r : Nat) (h1 : q < r) (h2 : r ≤ c) :
    (Instr.slice 111 (.slice (some ⟨g, 0, none⟩) m c) (some (.int .i64 q)) (some (.int .i64 r)) none).run Tryz.prog w = .ok (.slice (some ⟨g, q, none⟩) (r - q) (c - q)) w := by
  obtain ⟨i, hi, hzz⟩ := Option.map_eq_some_iff.1 tinfo5
  simp only [Prod.mk.injEq] at hzz
  have := run_slice_lh w 111 (some ⟨g, 0, none⟩) m c (P := Tryz.prog) (by kernel_rfl) .i64 .i64 q r (by omega) (by omega) (by omega)
  rw [this]
  have he : Tryz.prog.elem 111 = 5 := by kernel_rfl
  have hc : ¬ c - q = 0 := by omega
  simp [he, sizeOf, typeInfo, hi, hzz, Result.andThen, sliced, hc, addr_add0]
  omega

/-- the cells of a list of writes -/
def wcells (ws : List (Nat × ByteArray)) : List Value := ws.flatMap fun q => [.int .i64 (q.1 : Nat), .string q.2]
theorem wcells_length (ws : List (Nat × ByteArray)) : (wcells ws).length = ws.length * 2 := by
  induction ws with
  | nil => rfl
  | cons q ws ih => simp only [wcells, List.flatMap_cons, List.length_append, List.length_cons, List.length_nil] at ih ⊢; omega
theorem wcells_append (a b : List (Nat × ByteArray)) : wcells (a ++ b) = wcells a ++ wcells b := by simp [wcells]

/-- a list of writes of the caller's own -/
def WOwn (w : World) (B : Nat) (v : Value) (ws : List (Nat × ByteArray)) : Prop := w.ownsRow B 145 2 v ws.length (wcells ws)

theorem wcells_get {ws : List (Nat × ByteArray)} {i : Nat} (h : i < ws.length) : (wcells ws)[2 * i]? = some (.int .i64 ((ws.getD i (0, ⟨#[]⟩)).1 : Nat)) ∧ (wcells ws)[2 * i + 1]? = some (.string (ws.getD i (0, ⟨#[]⟩)).2) := by
  induction ws generalizing i with
  | nil => simp at h
  | cons q ws ih =>
    have e : wcells (q :: ws) = .int .i64 (q.1 : Nat) :: .string q.2 :: wcells ws := by simp [wcells]
    rw [e]
    cases i with
    | zero => exact ⟨rfl, rfl⟩
    | succ i =>
      have := ih (i := i) (by simpa using h)
      rw [show 2 * (i + 1) = 2 * i + 1 + 1 by omega]
      exact this

theorem WOwn.at {w : World} {B : Nat} {v : Value} {ws : List (Nat × ByteArray)} (h : WOwn w B v ws) : WritesAt w v ws := by
  by_cases h0 : 0 < ws.length
  · rcases h.2 with ⟨_, hn⟩ | ⟨g, cap, cur, hv, h2, h3, h4, h5, h6, h7⟩
    · omega
    · refine Or.inr ⟨h0, g, cap, hv, fun i hi => ?_⟩
      have hb : Blk w g cur 145 := h3
      have hg := wcells_get hi
      have hl : ∀ j, j < ws.length * 2 → cur[j]? = (wcells ws)[j]? := fun j hj => by
        rw [← h7, List.getElem?_take_of_lt hj, Array.getElem?_toList]
      rw [hb.cell, hb.cell, hl _ (by omega), hl _ (by omega)]
      exact hg
  · have e : ws = [] := List.length_eq_zero_iff.1 (by omega)
    subst e
    rcases h.2 with ⟨h1, h2⟩ | ⟨g, cap, cur, h1, _⟩
    · exact Or.inl ⟨rfl, none, 0, h1⟩
    · exact Or.inl ⟨rfl, _, cap, h1⟩

theorem tinfoW : (Tryz.prog.info? 145).map (fun i => (i.zero, i.size, i.bytes)) = some (some (.agg #[.int .i64 0, .string ⟨#[]⟩]), 2, 24) := by kernel_rfl

def SaveEnd (B : Nat) (ws : List (Nat × ByteArray)) (w' : World) (e : Ending) : Prop := ∃ out, e = .returned out ∧ WOwn w' B out ws

theorem bytes_chunk {w : World} {B g cap : Nat} {t : ByteArray} (ht : t.size ≤ 23) (h : BytesOwn w B (.slice (some ⟨g, 0, none⟩) 24 cap) (fillN t)) {k : Nat} (hk : k < 3) :
    (convert 111 9 (.slice (some ⟨g, 8 * k, none⟩) 8 (cap - 8 * k))).run Tryz.prog w = .ok (.string (chunk t k)) w := by
  have hl := fillN_length ht
  obtain ⟨g', cap', hv, _, _, hc⟩ := h.cells (by omega)
  simp only [Value.slice.injEq, Option.some.injEq, Addr.mk.injEq] at hv
  obtain ⟨⟨rfl, _⟩, _, rfl⟩ := hv
  refine run_convert_bytes_arg (P := Tryz.prog) _ 111 5 (by kernel_rfl) (by kernel_rfl) g (8 * k) 8 _ (((fillN t).drop (8 * k)).take 8) (by rw [List.length_take, List.length_drop, hl]; omega) (fun i hi => ?_) 9 (by kernel_rfl)
  rw [hc (8 * k + i) (by omega)]
  simp [List.getD_eq_getElem?_getD, List.getElem?_take_of_lt hi, List.getElem?_drop]

theorem saveF_take (f : Bool) (t : ByteArray) {k : Nat} (hk : k < 3) : (saveF f t).take (k + 1) = (saveF f t).take k ++ [(slotAt f + k, chunk t k)] := by
  have : k = 0 ∨ k = 1 ∨ k = 2 := by omega
  rcases this with rfl | rfl | rfl <;> rfl

theorem WOwn.snoc {w : World} {B g cap n : Nat} {ws : List (Nat × ByteArray)} {q : Nat × ByteArray} (hn : ws.length = n) (h : w.ownsRow B 145 2 (.slice (some ⟨g, 0, none⟩) (n + 1) cap) (n + 1) (wcells ws ++ [.int .i64 (q.1 : Nat), .string q.2])) : WOwn w B (.slice (some ⟨g, 0, none⟩) (n + 1) cap) (ws ++ [q]) := by
  unfold WOwn
  rw [List.length_append, wcells_append, hn]
  exact h

set_option maxRecDepth 100000 in
set_option maxHeartbeats 8000000 in
theorem save_any (f : Bool) (t : ByteArray) (w : World) (ht : t.size ≤ 23) :
    Calls Tryz.prog 102 #[.agg #[.bool f], .string t] w fun e w' => SaveEnd w.heap.size (saveF f t) w' e ∧ Below w.heap.size w w' := by
  obtain ⟨i0, hi, hz0, hz1, hz2⟩ := info_parts tinfoW
  have HI : Hid (Tryz.prog.info? 145 = some i0 ∧ i0.zero = some (.agg #[.int .i64 0, .string ⟨#[]⟩]) ∧ i0.size = 2 ∧ i0.bytes = 24) := ⟨hi, hz0, hz1, hz2⟩
  clear hi hz0 hz1 hz2
  have HT := hide0 ht
  have HSO := hide0 (fun w0 => slotOf_any t w0 ht)
  have HBL := hide0 (fun w0 => slotBlock_any f w0)
  have HMK := hide0 (fun w0 => slotMark_any f w0)
  have hsa : slotAt f ≤ 4 := by cases f <;> decide
  go_enter Tryz.func102, Tryz.ntmps102
  go_wp2_with fail
  refine (HSO.out _).mono ?_
  rintro e w1 ⟨⟨by1, rfl, hby⟩, hb1⟩
  have HBY := hide0 hby
  obtain ⟨g1, cap1, rfl, hg1, hg1', _⟩ := hby.cells (by rw [fillN_length ht]; omega)
  have hB1 : Below w.heap.size w w1 := ((Below.refl _ w).alloc (Nat.le_refl _) _).trans (hb1.mono (by simp))
  have k1 := (Blk.new w #[.bool f] 131 rfl).below hb1 (by simp)
  have hs1 := hB1.size
  have hs1' := hb1.size
  simp at hs1'
  have hcap : 24 ≤ cap1 := by
    rcases hby.2 with ⟨h, _⟩ | ⟨g, cap, cur, hv, _, _, hc, _⟩
    · cases h
    · cases hv; rw [fillN_length ht] at hc; exact hc
  rw [fillN_length ht] at HBY ⊢
  have d0 := k1.cell 0
  simp at d0
  clear hby hb1
  go_wp2_with fail
  refine (HBL.out _).mono ?_
  rintro e w2 ⟨rfl, hb2⟩
  have hB2 := hB1.trans (hb2.mono hs1)
  have k2 := k1.below hb2 k1.lt
  have HBY2 := hide0 (HBY.out.below hb2)
  have hs2 := hB2.size
  have hs21 := hb2.size
  generalize hsl : slotAt f = sl at *
  have HSL := hide0 hsl
  clear hsl
  clear d0 hb2 hB1 k1 HBY
  have h0 := World.ownsRow_lit (base := w2.heap.size) (e := 145) (size := 2) w2 #[] 0 (Nat.le_refl _) (by simp [maxLen]) rfl
  have HK2 := hide0 k2
  have HB2 := hide0 hB2
  clear k2 hB2
  go_wp2
  go_loopg [7, 8, 9] (3) (fun mm made i u9 wr => ∃ k : Nat, i = .int .i64 k ∧ k + mm = 3 ∧ WOwn wr w2.heap.size made ((saveF f t).take k) ∧ Below w2.heap.size w2 wr)
  case atStart => exact ⟨0, rfl, by omega, h0, by go_grown⟩
  case round =>
    clear h0
    obtain ⟨k, rfl, hk, hM, hB⟩ := hrel
    have HB := hide0 hB
    have HM := hide0 hM
    have hsB := hB.size
    have hwl : ((saveF f t).take k).length = k := by rw [List.length_take]; simp [saveF]; omega
    by_cases hlt : k < 3
    · have hlt' : (k : Int) < 3 := by omega
      have HTK := hide0 (saveF_take f t hlt)
      have hcv := bytes_chunk ht (HBY2.out.below hB) hlt
      have hss := slice101 wr g1 24 cap1 (8 * k) (8 * (k + 1)) (by omega) (by omega)
      rw [show 8 * (k + 1) - 8 * k = 8 by omega] at hss
      have e1 : ((8 * k : Nat) : Int) = (k : Int) * 8 := by omega
      have e2 : ((8 * (k + 1) : Nat) : Int) = ((k : Int) + 1) * 8 := by omega
      rw [e1, e2] at hss
      have hkb : (k : Int) * 8 ≤ 16 := by omega
      have hkb2 : ((k : Int) + 1) * 8 ≤ 24 := by omega
      obtain ⟨hi, hz0, hz1, hz2⟩ := HI.out
      unfold WOwn at hM
      rw [hwl] at hM
      have HWL := hide0 hwl
      generalize hch : chunk t k = ch at *
      have HCH := hide0 hch
      clear hB hwl hch
      go_wp2_with (at_builtin; refine wpList_append_lies _ rfl (.tmp 28) (.tmp 34) 99 rfl w2.heap.size 145 i0 (.agg #[.int .i64 0, .string ⟨#[]⟩]) 2 24 Tryz.underlying99 hi hz0 hz1 hz2 rfl (by decide) _ _ _ rfl (World.ownsRow.alloc hM _) ⟨wr.heap.size, 0, none⟩ 1 1 [.int .i64 ((sl : Int) + k), .string ch] rfl rfl (World.news_of_block (cs := #[.int .i64 ((sl : Int) + k), .string ch]) (t := 145) (fr := (0, 0)) (Blk.new _ _ _ rfl)) (by intro u hu; simp at hu; rcases hu with rfl | rfl <;> rfl) (by omega) (by unfold maxLen; omega) (by omega) (by simp; omega) _ rfl ?_; intro g2 cap2 w3 hown1 hgrow hat hglt)
      go_roundg (gk - 1)
      case measure => omega
      case rel =>
        refine ⟨k + 1, by go_num, by omega, ?_, ((HB.out).alloc (by omega) _).grown hgrow (by simp; omega) (fun j hj => by have := (HM.out.lt j hj).1; omega)⟩
        rw [HTK.out]
        refine WOwn.snoc HWL.out ?_
        show w3.ownsRow _ _ _ _ _ (_ ++ [.int .i64 ((slotAt f + k : Nat) : Int), .string ch])
        rw [HSL.out, show ((sl + k : Nat) : Int) = (sl : Int) + k by omega]
        exact hown1
    · have hd : decide ((k : Int) < 3) = false := by simp; omega
      have hke : k = 3 := by omega
      subst hke
      have HK3 := hide0 (HK2.out.below HB.out HK2.out.lt)
      have d0 := HK3.out.cell 0
      simp at d0
      unfold WOwn at hM
      rw [hwl] at hM
      have HWL := hide0 hwl
      clear hB hwl
      go_wp2_with fail
      refine (HMK.out _).mono ?_
      rintro e w4 ⟨rfl, hb4⟩
      have hs4 := hb4.size
      obtain ⟨hi, hz0, hz1, hz2⟩ := HI.out
      have hM4 := ownsRow_below hM hb4 (Nat.le_refl _)
      have HB4 := hide0 (HB.out.trans (hb4.mono hsB))
      have HM4 := hide0 hM4
      generalize hmk : markOf f = mk at *
      have HMM := hide0 hmk
      clear hb4 hmk d0 hM
      go_wp2_with (at_builtin; refine wpList_append_lies _ rfl (.tmp 38) (.tmp 41) 99 rfl w2.heap.size 145 i0 (.agg #[.int .i64 0, .string ⟨#[]⟩]) 2 24 Tryz.underlying99 hi hz0 hz1 hz2 rfl (by decide) _ _ _ rfl (World.ownsRow.alloc hM4 _) ⟨w4.heap.size, 0, none⟩ 1 1 [.int .i64 0, .string mk] rfl rfl (World.news_of_block (cs := #[.int .i64 0, .string mk]) (t := 145) (fr := (0, 0)) (Blk.new _ _ _ rfl)) (by intro u hu; simp at hu; rcases hu with rfl | rfl <;> rfl) (by omega) (by unfold maxLen; omega) (by omega) (by simp; omega) _ rfl ?_; intro g2 cap2 w5 hown1 hgrow hat hglt)
      go_ret
      have hb5 : Below w2.heap.size w2 w5 := ((HB4.out).alloc (by omega) _).grown hgrow (by simp; omega) (fun j hj => by have := (HM4.out.lt j hj).1; omega)
      refine ⟨⟨_, rfl, ?_⟩, HB2.out.trans (hb5.mono hs2)⟩
      have e : saveF f t = (saveF f t).take 3 ++ [(0, markOf f)] := rfl
      rw [e]
      have := WOwn.snoc (q := (0, markOf f)) HWL.out (w := w5) (B := w2.heap.size) (g := g2) (cap := cap2) (by rw [HMM.out]; exact hown1)
      exact ownsRow_base this hs2

end Go.Proofs.YtmlcblnndihjoaaGreat

namespace Go.Proofs.YtmlcblnndihjoaaGreat
open Go.RowKit

def partsN (f : Bool) (ss : List ByteArray) : Nat → List Int
  | 0 => []
  | k + 1 => partsN f ss k ++ nums (at8 ss (slotAt f + k))

theorem partsN_all (f : Bool) (ss : List ByteArray) : partsN f ss 3 = slotN f ss := by simp [partsN, slotN]
theorem partsN_length {f : Bool} {ss : List ByteArray} (h : DiskLike ss) : ∀ {k}, k ≤ 3 → (partsN f ss k).length = 8 * k
  | 0, _ => rfl
  | k + 1, hk => by
    have hs : slotAt f ≤ 4 := by cases f <;> decide
    have := h.2 _ (at8_mem (ss := ss) (i := slotAt f + k) (by rw [h.1]; omega))
    rw [partsN, List.length_append, partsN_length h (by omega), nums_length, this]; omega

def TextEnd (f : Bool) (ss : List ByteArray) (e : Ending) : Prop :=
  (∃ t, textIn f ss = some t ∧ e = .returned (.tuple #[.string t, .bool true])) ∨ (textIn f ss = none ∧ e = .returned (.tuple #[.string ⟨#[]⟩, .bool false]))

theorem extract_nums (xs : List Int) (a b : Nat) : (strOfNums xs).extract a b = strOfNums ((xs.drop a).take (b - a)) := by
  apply ByteArray.ext
  simp [strOfNums]

theorem slice_strB (s : ByteArray) (a b : Nat) (h1 : a ≤ b) (h2 : b ≤ s.size) (w : World) : (Instr.slice 9 (.string s) (some (.int .i64 a)) (some (.int .i64 b)) none).run Tryz.prog w = .ok (.string (s.extract a b)) w := by
  have := run_slice_string (P := Tryz.prog) w 9 s .i64 .i64 a b (by kernel_rfl) (by omega) (by omega) (by omega)
  simpa using this

theorem index_litB (s : ByteArray) (k : Nat) (h : k < s.size) (K : Int) (hK : K = (k : Int)) (w : World) : (Instr.index 9 (.string s) (.int .i64 K)).run Tryz.prog w = .ok (.int .u8 ((nums s).getD k 0)) w := by
  subst hK; exact index_str s k h w

set_option maxRecDepth 100000 in
set_option maxHeartbeats 8000000 in
theorem textIn_any (f : Bool) (v : Value) (ss : List ByteArray) (w : World) (hv : StrsAt w v ss) (hd : DiskLike ss) :
    Calls Tryz.prog 100 #[.agg #[.bool f], v] w fun e w' => TextEnd f ss e ∧ Below w.heap.size w w' := by
  have HBL := hide0 (fun w0 => slotBlock_any f w0)
  have HV := hide0 hv
  have HD := hide0 hd
  have h8 := hd.1
  have HPL : Hid (∀ k, k ≤ 3 → (partsN f ss k).length = 8 * k) := fun k hk => partsN_length hd hk
  have HPS : Hid (∀ k, partsN f ss (k + 1) = partsN f ss k ++ nums (at8 ss (slotAt f + k))) := fun k => rfl
  have HPA := hide0 (partsN_all f ss)
  obtain ⟨a, c, rfl⟩ := hv.slice
  rw [h8]
  have H8 := hide0 h8
  have hsa : slotAt f ≤ 4 := by cases f <;> decide
  clear hv hd h8
  go_enter Tryz.func100, Tryz.ntmps100
  go_wp2_with fail
  refine (HBL.out _).mono ?_
  rintro e w2 ⟨rfl, hb2⟩
  have HB2 : Hid (Below w.heap.size w w2) := ((Below.refl _ w).alloc (Nat.le_refl _) _).trans (hb2.mono (by simp))
  have HSA : Hid (∃ x, x = slotAt f) := ⟨_, rfl⟩
  generalize hsl : slotAt f = sl at *
  have HSL := hide0 hsl
  clear hsl hb2 HSA
  go_wp2
  go_loopg [6, 8] (3) (fun mm all i wr => ∃ k j : Nat, i = .int .i64 (j : Nat) ∧ j = sl + k ∧ k + mm = 3 ∧ all = .string (strOfNums (partsN f ss k)) ∧ Below w.heap.size w wr)
  case atStart => exact ⟨0, sl, rfl, rfl, by omega, rfl, HB2.out⟩
  case round =>
    obtain ⟨k, j, rfl, hj, hk, rfl, hB⟩ := hrel
    have HB := hide0 hB
    have HJ := hide0 hj
    by_cases hlt : k < 3
    · have hlt' : (j : Int) < (sl : Int) + 3 := by omega
      have hlt2 : (j : Int) < 8 := by omega
      have hx := HV.out.below hB
      rw [H8.out] at hx
      obtain ⟨b, o, rfl, hc⟩ := hx.cellAt (i := j) (by rw [H8.out]; omega)
      have hsb : (sl : Int) ≤ 4 := by omega
      have hgt : ¬ (strOfNums (partsN f ss k)).size + (at8 ss j).size > 9223372036854775807 := by
        have := HPL.out k (by omega)
        have := HD.out.2 _ (at8_mem (ss := ss) (i := j) (by rw [H8.out]; omega))
        rw [strOfNums_size]; omega
      have HPK : Hid (partsN f ss (k + 1) = partsN f ss k ++ nums (at8 ss j)) := by rw [HJ.out]; exact HPS.out k
      have hc' : _ = some (Value.string (at8 ss j)) := hc
      generalize at8 ss j = d at *
      generalize partsN f ss k = P at *
      clear hx hB hc hj
      go_wp2
      go_roundg (gk - 1)
      case measure => omega
      case rel => exact ⟨k + 1, j + 1, by go_num, by have := HJ.out; omega, by omega, by rw [HPK.out, ← str_append, str_nums], HB.out⟩
    · have hdd : decide ((j : Int) < (sl : Int) + 3) = false := by simp; omega
      have hke : k = 3 := by omega
      subst hke
      have hL := HPL.out 3 (by omega)
      have HQ : Hid (textIn f ss = if 1 + (partsN f ss 3).getD 0 0 ≤ (partsN f ss 3).length then some (strOfNums (((partsN f ss 3).drop 1).take ((partsN f ss 3).getD 0 0).toNat)) else none) := by
        show textIn f ss = _
        rw [HPA.out]; rfl
      have HR : Hid (∀ z ∈ partsN f ss 3, 0 ≤ z ∧ z ≤ 255) := by
        show ∀ z ∈ partsN f ss 3, 0 ≤ z ∧ z ≤ 255
        intro z hz
        rw [HPA.out] at hz
        unfold slotN at hz
        simp only [List.mem_append] at hz
        rcases hz with (hz | hz) | hz <;> exact nums_range _ z hz
      generalize partsN f ss 3 = P at *
      have hsz : (strOfNums P).size = 24 := by rw [strOfNums_size]; omega
      have hix := index_litB (strOfNums P) 0 (by omega) 0 rfl
      have hnp : nums (strOfNums P) = P := nums_str P HR.out
      rw [hnp] at hix
      have hzr : 0 ≤ P.getD 0 0 ∧ P.getD 0 0 ≤ 255 := by
        have := nums_getD (strOfNums P) 0 (by omega)
        rw [hnp] at this; exact this
      obtain ⟨z, hz⟩ : ∃ z : Nat, P.getD 0 0 = (z : Int) := ⟨(P.getD 0 0).toNat, by omega⟩
      rw [hz] at hix hzr
      have HZ := hide0 hz
      have hzb : (z : Int) ≤ 255 := by omega
      have hszi : (((strOfNums P).size : Nat) : Int) = 24 := by omega
      have HSZ := hide0 hsz
      have HL := hide0 hL
      have hex := extract_nums P 1 (z + 1)
      have HEX := hide0 hex
      by_cases hfit : z + 1 ≤ 24
      · have hcond : 0 ≤ 1 + (z : Int) ∧ 1 + (z : Int) ≤ 24 := by omega
        have hgt : decide (1 + (z : Int) > 24) = false := by simp; omega
        clear hB hz hnp hsz hL hex hfit
        generalize strOfNums P = S at *
        go_wp2
        go_ret2
        refine ⟨Or.inl ⟨_, ?_, rfl⟩, HB.out⟩
        rw [HQ.out, HZ.out, HL.out, if_pos (by omega), Nat.add_comm 1 z, HEX.out]
        simp
      · have hgt : decide (1 + (z : Int) > 24) = true := by simp; omega
        clear hB hz hnp hsz hL hex
        have HF : Hid (¬ (1 + (z : Int) ≤ ((24 : Nat) : Int))) := by show ¬ _; omega
        generalize strOfNums P = S at *
        go_wp2
        go_ret2
        refine ⟨Or.inr ⟨?_, rfl⟩, HB.out⟩
        rw [HQ.out, HZ.out, HL.out, if_neg (by have := HF.out; omega)]

end Go.Proofs.YtmlcblnndihjoaaGreat

namespace Go.Proofs.YtmlcblnndihjoaaGreat
open Go.RowKit

/-- the answer of Load -/
def LoadEnd (ss : List ByteArray) (e : Ending) : Prop :=
  (∃ t f, Loads ss t f ∧ e = .returned (.tuple #[.string t, .agg #[.bool f], .bool true])) ∨
  ((∀ t f, ¬ Loads ss t f) ∧ e = .returned (.tuple #[.string ⟨#[]⟩, .agg #[.bool false], .bool false]))

theorem load_no {ss : List ByteArray} (h : ∀ t f, ¬ Loads ss t f) : LoadEnd ss (.returned (.tuple #[.string ⟨#[]⟩, .agg #[.bool false], .bool false])) := Or.inr ⟨h, rfl⟩
theorem load_yes {ss : List ByteArray} {t : ByteArray} {f : Bool} (h : Loads ss t f) : LoadEnd ss (.returned (.tuple #[.string t, .agg #[.bool f], .bool true])) := Or.inl ⟨t, f, h, rfl⟩

theorem mark_ne0 (f : Bool) : markOf f ≠ mark0 := by cases f; exact mark0_ne.1; exact mark0_ne.2.1
theorem markOf_inj {f g : Bool} (h : markOf f = markOf g) : f = g := by
  cases f <;> cases g
  · rfl
  · exact absurd h.symm mark0_ne.2.2
  · exact absurd h mark0_ne.2.2
  · rfl

theorem Loads.one {ss : List ByteArray} {t t' : ByteArray} {f f' : Bool} (h : Loads ss t f) (h' : Loads ss t' f') : t = t' ∧ f = f' := by
  cases h with
  | none _ h2 =>
    cases h' with
    | none _ _ => exact ⟨rfl, rfl⟩
    | some g t' _ k2 _ => exact absurd (k2.symm.trans h2) (mark_ne0 g)
  | some g t _ h2 h3 =>
    cases h' with
    | none _ k2 => exact absurd (h2.symm.trans k2) (mark_ne0 g)
    | some g' t' _ k2 k3 =>
      have e := markOf_inj (h2.symm.trans k2)
      subst e
      rw [h3] at k3
      exact ⟨Option.some.inj k3, rfl⟩

theorem loads_none {ss : List ByteArray} {f : Bool} (h : at8 ss 0 = markOf f) (hn : textIn f ss = none) : ∀ t g, ¬ Loads ss t g := fun t g hl => by
  cases hl with
  | none _ h2 => exact mark_ne0 f (h.symm.trans h2)
  | some g' t' _ h2 h3 =>
    have := markOf_inj (h.symm.trans h2)
    subst this
    rw [hn] at h3; cases h3
theorem loads_mark {ss : List ByteArray} (h0 : at8 ss 0 ≠ mark0) (h : ∀ f, at8 ss 0 ≠ markOf f) : ∀ t g, ¬ Loads ss t g := fun t g hl => by
  cases hl with
  | none _ h2 => exact h0 h2
  | some g' t' _ h2 h3 => exact h _ h2

set_option maxRecDepth 100000 in
set_option maxHeartbeats 8000000 in
theorem load_any (v : Value) (ss : List ByteArray) (w : World) (hv : StrsAt w v ss) :
    Calls Tryz.prog 94 #[v] w fun e w' => LoadEnd ss e ∧ Below w.heap.size w w' := by
  have HV := hide0 hv
  have HID := hide0 (fun w0 (h : StrsAt w0 v ss) => isDisk_any v ss w0 h)
  have HMK := hide0 (fun s w0 => marked_any s w0)
  have HOT := hide0 (fun f w0 => slotOther_any f w0)
  have HTI := hide0 (fun f w0 (h : StrsAt w0 v ss) hd => textIn_any f v ss w0 h hd)
  obtain ⟨a, c, rfl⟩ := hv.slice
  have hbA : Below w.heap.size w (w.alloc (.cells #[.bool false] 131)) := (Below.refl _ w).alloc (Nat.le_refl _) _
  have hvA := hv.below hbA
  clear hv
  go_enter Tryz.func94, Tryz.ntmps94
  go_wp2_with fail
  refine (HID.out _ hvA).mono ?_
  rintro e w1 ⟨⟨r, rfl, hr⟩, hb1⟩
  have k1 := (Blk.new w #[.bool false] 131 rfl).below hb1 (by simp)
  have hB1 := hbA.trans (hb1.mono (by simp))
  have hs1 := hB1.size
  have hs1' := hb1.size
  simp at hs1'
  have c1 := k1.cell 0
  simp at c1
  have f1 := k1.frozen 0
  have HB1 := hide0 hB1
  have HK1 := hide0 k1
  clear hb1 hvA hbA hB1 k1
  cases r
  · have HN : Hid (∀ t f, ¬ Loads ss t f) := fun t f h => by have := hr.2 h.like; cases this
    clear hr
    go_wp2
    refine retLoad rfl rfl rfl (HK1.out.set 0 _) rfl ⟨load_no HN.out, ?_⟩
    exact HB1.out.setCell (p := ⟨w.heap.size, 0, none⟩) (Nat.le_refl _) _
  · have hd := hr.1 rfl
    have HD := hide0 hd
    have hv1 := HV.out.below HB1.out
    obtain ⟨b, o, rfl, hc⟩ := hv1.cellAt (i := 0) (by rw [hd.1]; omega)
    rw [Nat.add_zero] at hc
    have hc' : _ = some (Value.string (at8 ss 0)) := hc
    have hlt : (0 : Int) < ((ss.length : Nat) : Int) := by rw [hd.1]; decide
    have hlt2 : 0 < ss.length := by rw [hd.1]; decide
    clear hc hr hd
    by_cases h0 : at8 ss 0 = mark0
    · have HL : Hid (Loads ss ⟨#[]⟩ false) := Loads.none HD.out h0
      have hee : ((at8 ss 0).toList == [0, 0, 0, 0, 0, 0, 0, 0]) = true := by
        rw [h0, ByteArray.toList_eq]; rfl
      clear h0
      generalize at8 ss 0 = d at *
      generalize ss.length = n at *
      clear hv1
      go_wp2
      refine retLoad rfl rfl rfl (HK1.out.set 0 _) rfl ⟨load_yes HL.out, ?_⟩
      exact HB1.out.setCell (p := ⟨w.heap.size, 0, none⟩) (Nat.le_refl _) _
    · have hee : ((at8 ss 0).toList == [0, 0, 0, 0, 0, 0, 0, 0]) = false := by
        have := neB h0
        rw [ByteArray.toList_eq mark0] at this
        exact this
      have H0 := hide0 h0
      clear h0
      obtain ⟨d, hd⟩ : ∃ d, d = at8 ss 0 := ⟨_, rfl⟩
      rw [← hd] at hc' hee
      have HDD := hide0 hd
      clear hd
      generalize hnn : ss.length = n at *
      have HV1 := hide0 hv1
      clear hv1
      go_wp2_with fail
      refine (HMK.out d _).mono ?_
      rintro e w2 ⟨hM, hb2⟩
      have k2 := HK1.out.below hb2 HK1.out.lt
      have hB2 := HB1.out.trans (hb2.mono hs1)
      have hs2 := hb2.size
      have hv2 := HV1.out.below hb2
      have c2 := k2.cell 0
      simp at c2
      have f2 := k2.frozen 0
      clear c1 f1 hc' hb2
      rcases hM with ⟨f, hf, rfl⟩ | ⟨hf, rfl⟩
      · have HT := hide0 (fun w0 (h : StrsAt w0 (.slice (some ⟨b, o, none⟩) n c) ss) => HTI.out f w0 h HD.out)
        have hbA2 : Below w2.heap.size w2 (w2.alloc (.cells #[.bool f] 131)) := (Below.refl _ w2).alloc (Nat.le_refl _) _
        have HVA := hide0 (hv2.below hbA2)
        have HF := hide0 hf
        clear hf hv2
        go_wp2_with fail
        refine (HT.out _ HVA.out).mono ?_
        rintro e w3 ⟨hT, hb3⟩
        have k3 := (k2.below hbA2 k2.lt).below hb3 (by have := k2.lt; simp; omega)
        have kf := (Blk.new w2 #[.bool f] 131 rfl).below hb3 (by simp)
        have hB3 := hB2.trans ((hbA2.trans (hb3.mono (by simp))).mono (by omega))
        have hs3 := hb3.size
        simp at hs3
        have c3 := k3.cell 0
        have cf := kf.cell 0
        simp at c3 cf
        have f3 := k3.frozen 0
        have HK3 := hide0 k3
        have HB3 := hide0 hB3
        clear c2 f2 hb3 hB2 hbA2 k2 k3 hB3
        rcases hT with ⟨t, ht, rfl⟩ | ⟨ht, rfl⟩
        · have HL : Hid (Loads ss t (!f)) := Loads.some f t HD.out (HDD.out.symm.trans HF.out) ht
          clear ht
          go_wp2_with fail
          refine (HOT.out f _).mono ?_
          rintro e w4 ⟨rfl, hb4⟩
          have k4 := HK3.out.below hb4 HK3.out.lt
          have hB4 := HB3.out.trans (hb4.mono (by omega))
          have c4 := k4.cell 0
          simp at c4
          have f4 := k4.frozen 0
          have HK4 := hide0 k4
          clear c3 f3 hb4 k4 cf kf
          go_wp2
          refine retLoad rfl rfl rfl (HK4.out.set 0 _) rfl ⟨load_yes HL.out, ?_⟩
          exact hB4.setCell (p := ⟨w.heap.size, 0, none⟩) (Nat.le_refl _) _
        · have HN := hide0 (loads_none (HDD.out.symm.trans HF.out) ht)
          clear ht cf kf
          go_wp2
          refine retLoad rfl rfl rfl (HK3.out.set 0 _) rfl ⟨load_no HN.out, ?_⟩
          exact HB3.out.setCell (p := ⟨w.heap.size, 0, none⟩) (Nat.le_refl _) _
      · have HN := hide0 (loads_mark H0.out (fun f => by rw [← HDD.out]; exact hf f))
        have HK2 := hide0 (k2.below ((Below.refl _ w2).alloc (Nat.le_refl _) (.cells #[.bool false] 131)) k2.lt)
        have HB2 := hide0 (hB2.alloc hB2.size (.cells #[.bool false] 131))
        have f2a := HK2.out.frozen 0
        have c2a := HK2.out.cell 0
        simp at c2a
        clear hf k2 hB2 hv2
        go_wp2
        refine retLoad rfl rfl rfl (HK2.out.set 0 _) rfl ⟨load_no HN.out, ?_⟩
        exact HB2.out.setCell (p := ⟨w.heap.size, 0, none⟩) (Nat.le_refl _) _

end Go.Proofs.YtmlcblnndihjoaaGreat
