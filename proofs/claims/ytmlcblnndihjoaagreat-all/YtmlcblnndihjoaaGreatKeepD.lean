import Derived.Test.YtmlcblnndihjoaaGreatCallE
import Derived.Deep.AppendLies
import Derived.Deep.OwnRows

namespace Go.Proofs.YtmlcblnndihjoaaGreat
open Go.RowKit

/-- a list of rows that the call itself made: each in a block of its own -/
structure OwnRows (w : World) (B : Nat) (v : Value) (bs : List Nat) (zss : List (List Int)) (n : Nat) : Prop where
  own : w.ownsRow B 23 1 v bs.length (bs.map fun b => Value.slice (some ⟨b, 0, none⟩) n n)
  len : zss.length = bs.length
  row : ∀ i, i < bs.length → Blk w (bs.getD i 0) ((zss.getD i []).map (Value.int .i64)).toArray 3 ∧ (zss.getD i []).length = n ∧ B ≤ bs.getD i 0 ∧ v.ownBlock ≠ some (bs.getD i 0)
  apart : bs.Nodup

theorem Tryz.info23 : (Tryz.prog.info? 23).map (fun i => (i.zero, i.size, i.bytes)) = some (some (.slice none 0 0), 1, 24) := by kernel_rfl
theorem Tryz.info3 : (Tryz.prog.info? 3).map (fun i => (i.zero, i.size, i.bytes)) = some (some (.int .i64 0), 1, 8) := by kernel_rfl

theorem make1 (w : World) : (Instr.makeSlice 23 (.int .i64 1) (.int .i64 1)).run Tryz.prog w = .ok (.slice (some ⟨w.heap.size, 0, none⟩) 1 1) (w.alloc (.cells #[.int .i64 0] 3)) := by
  have h := run_make_row' (P := Tryz.prog) 23 3 (.int .i64 0) 8 Tryz.underlying23 Tryz.info3 rfl .i64 .i64 1 (by omega) (by omega) w
  have e : madeCells #[Value.int .i64 0] 1 = #[.int .i64 0] := by kernel_rfl
  rw [e] at h; exact h
theorem make2 (w : World) : (Instr.makeSlice 23 (.int .i64 2) (.int .i64 2)).run Tryz.prog w = .ok (.slice (some ⟨w.heap.size, 0, none⟩) 2 2) (w.alloc (.cells #[.int .i64 0, .int .i64 0] 3)) := by
  have h := run_make_row' (P := Tryz.prog) 23 3 (.int .i64 0) 8 Tryz.underlying23 Tryz.info3 rfl .i64 .i64 2 (by omega) (by omega) w
  have e : madeCells #[Value.int .i64 0] 2 = #[.int .i64 0, .int .i64 0] := by kernel_rfl
  rw [e] at h; exact h
theorem make3 (w : World) : (Instr.makeSlice 23 (.int .i64 3) (.int .i64 3)).run Tryz.prog w = .ok (.slice (some ⟨w.heap.size, 0, none⟩) 3 3) (w.alloc (.cells #[.int .i64 0, .int .i64 0, .int .i64 0] 3)) := by
  have h := run_make_row' (P := Tryz.prog) 23 3 (.int .i64 0) 8 Tryz.underlying23 Tryz.info3 rfl .i64 .i64 3 (by omega) (by omega) w
  have e : madeCells #[Value.int .i64 0] 3 = #[.int .i64 0, .int .i64 0, .int .i64 0] := by kernel_rfl
  rw [e] at h; exact h

theorem tmod_le (z most : Int) (h : 0 ≤ most) : -most ≤ z.tmod (most + 1) ∧ z.tmod (most + 1) ≤ most := by
  have h7 : (z.tmod (most + 1)).natAbs < (most + 1).natAbs := by rw [Int.natAbs_tmod]; exact Nat.mod_lt _ (by omega)
  omega

def RowsEnd (B n : Nat) (k most : Int) (w' : World) (e : Ending) : Prop :=
  ∃ out bs zss, e = .returned out ∧ OwnRows w' B out bs zss n ∧ (zss.length : Int) ≤ k ∧ (∀ zs ∈ zss, ∀ z ∈ zs, -most ≤ z ∧ z ≤ most)

theorem OwnRows.nil (w : World) (B n : Nat) : OwnRows w B (.slice none 0 0) [] [] n :=
  ⟨World.ownsRow_nil _ _ _ _, rfl, fun i hi => by simp at hi, List.nodup_nil⟩

/-- one row more -/
theorem OwnRows.snoc {w w1 : World} {B : Nat} {v v1 : Value} {bs : List Nat} {zss : List (List Int)} {n p g cap : Nat} {zs : List Int}
    (h : OwnRows w B v bs zss n) (hz : zs.length = n) (hp : Blk w p (zs.map (Value.int .i64)).toArray 3) (hB : B ≤ p) (hnew : ∀ i, i < bs.length → bs.getD i 0 ≠ p) (hvp : v.ownBlock ≠ some p)
    (hv1 : v1 = .slice (some ⟨g, 0, none⟩) (bs.length + 1) cap)
    (ho : w1.ownsRow B 23 1 v1 (bs.length + 1) ((bs.map fun b => Value.slice (some ⟨b, 0, none⟩) n n) ++ [Value.slice (some ⟨p, 0, none⟩) n n]))
    (hg : w.grownBy w1 v.ownBlock) (hat : v.ownBlock = some g ∨ g = w.heap.size) : OwnRows w1 B v1 (bs ++ [p]) (zss ++ [zs]) n := by
  have hl := h.len
  have hob : v1.ownBlock = some g := by rw [hv1]; rfl
  have keep : ∀ (b : Nat) (cs : Array Value) (T : TypeId), Blk w b cs T → v.ownBlock ≠ some b → Blk w1 b cs T := fun b cs T hb hne => by
    unfold Blk; rw [hg.block b hb.lt (fun e => hne e.symm)]; exact hb
  have far : ∀ (b : Nat) (cs : Array Value) (T : TypeId), Blk w b cs T → v.ownBlock ≠ some b → v1.ownBlock ≠ some b := fun b cs T hb hne => by
    rw [hob]
    intro e
    injection e with e
    rcases hat with e2 | e2
    · rw [e] at e2; exact hne e2
    · have := hb.lt; omega
  refine ⟨?_, ?_, ?_, ?_⟩
  · rw [List.map_append, List.length_append]; exact ho
  · simp [hl]
  · intro i hi
    rw [List.length_append] at hi
    simp at hi
    by_cases hlt : i < bs.length
    · have e1 : (bs ++ [p]).getD i 0 = bs.getD i 0 := by simp [List.getD_eq_getElem?_getD, List.getElem?_append_left hlt]
      have e2 : (zss ++ [zs]).getD i [] = zss.getD i [] := by simp [List.getD_eq_getElem?_getD, List.getElem?_append_left (show i < zss.length by omega)]
      rw [e1, e2]
      obtain ⟨r1, r2, r3, r4⟩ := h.row i hlt
      exact ⟨keep _ _ _ r1 r4, r2, r3, far _ _ _ r1 r4⟩
    · have ei : i = bs.length := by omega
      have e1 : (bs ++ [p]).getD i 0 = p := by subst ei; simp [List.getD_eq_getElem?_getD]
      have e2 : (zss ++ [zs]).getD i [] = zs := by subst ei; rw [← hl]; simp [List.getD_eq_getElem?_getD]
      rw [e1, e2]
      exact ⟨keep _ _ _ hp hvp, hz, hB, far _ _ _ hp hvp⟩
  · rw [List.nodup_append]
    refine ⟨h.apart, by simp, fun a ha b hb => ?_⟩
    simp at hb
    subst hb
    obtain ⟨i, hi, rfl⟩ := List.getElem_of_mem ha
    have := hnew i hi
    rwa [List.getD_eq_getElem?_getD, List.getElem?_eq_getElem hi] at this

theorem OwnRows.below {w w' : World} {B C : Nat} {v : Value} {bs : List Nat} {zss : List (List Int)} {n : Nat} (h : OwnRows w B v bs zss n) (hb : Below C w w') (hC : w.heap.size ≤ C) : OwnRows w' B v bs zss n := by
  refine ⟨?_, h.len, fun i hi => ?_, h.apart⟩
  · refine h.own.kept (w' := w') (row := none) ⟨hb.os, hb.tape, hb.output, hb.size, fun k hk _ => hb.block k (by omega)⟩ ?_
    by_cases e : v.ownBlock = none
    · exact Or.inl e
    · exact Or.inr e
  · obtain ⟨r1, r2⟩ := h.row i hi
    exact ⟨r1.below hb (by have := r1.lt; omega), r2⟩


end Go.Proofs.YtmlcblnndihjoaaGreat

namespace Go.Proofs.YtmlcblnndihjoaaGreat
open Go.RowKit

def inB (most : Int) (z : Int) : Bool := decide (-most ≤ z) && decide (z ≤ most)
def withinB (most : Int) (zss : List (List Int)) : Bool := zss.all (fun zs => zs.all (inB most))

def refB (zss : List (List Int)) (e : Int) : Bool := decide (e = 3) && !(withinB 4 zss)

end Go.Proofs.YtmlcblnndihjoaaGreat

namespace Go.Proofs.YtmlcblnndihjoaaGreat
open Go.RowKit

/-! the index is the determinant's size -/
namespace Lat

theorem natAbs_eq_of {a b s t : Int} (h1 : a = s * b) (h2 : b = t * a) : a = b ∨ a = -b := by
  have d1 : b ∣ a := ⟨s, by rw [h1]; exact Int.mul_comm _ _⟩
  have d2 : a ∣ b := ⟨t, by rw [h2]; exact Int.mul_comm _ _⟩
  have n1 := Int.natAbs_dvd_natAbs.2 d1
  have n2 := Int.natAbs_dvd_natAbs.2 d2
  have := Nat.dvd_antisymm n1 n2
  omega

theorem span3 {f g k u : V} (h : InSpan [f, g, k] u) : ∃ i j l : Int, u.x = i * f.x + j * g.x + l * k.x ∧ u.y = i * f.y + j * g.y + l * k.y ∧ u.z = i * f.z + j * g.z + l * k.z := by
  obtain ⟨i, u1, ⟨j, u2, ⟨l, u3, ⟨z1, z2, z3⟩, l1, l2, l3⟩, j1, j2, j3⟩, i1, i2, i3⟩ := h
  exact ⟨i, j, l, by omega, by omega, by omega⟩

theorem span2 {f g u : V} (h : InSpan [f, g] u) : ∃ i j : Int, u.x = i * f.x + j * g.x ∧ u.y = i * f.y + j * g.y := by
  obtain ⟨i, u1, ⟨j, u2, ⟨z1, z2, z3⟩, j1, j2, j3⟩, i1, i2, i3⟩ := h
  exact ⟨i, j, by omega, by omega⟩

theorem span1 {f u : V} (h : InSpan [f] u) : ∃ i : Int, u.x = i * f.x := by
  obtain ⟨i, u1, ⟨z1, z2, z3⟩, i1, i2, i3⟩ := h
  exact ⟨i, by omega⟩

theorem vol3 {T : St} {f g k : V} (h : CanonOf T [k, g, f]) : T.a.x * T.b.y * T.c.z = det f g k ∨ T.a.x * T.b.y * T.c.z = -det f g k := by
  have bx := h.shape.bx; have cx := h.shape.cx; have cy := h.shape.cy
  obtain ⟨i1, j1, l1, p1, p2, p3⟩ := span3 ((h.span _).1 (Mem.ra T))
  obtain ⟨i2, j2, l2, q1, q2, q3⟩ := span3 ((h.span _).1 (Mem.rb T))
  obtain ⟨i3, j3, l3, r1, r2, r3⟩ := span3 ((h.span _).1 (Mem.rc T))
  obtain ⟨a1, b1, c1, f1, f2, f3⟩ := (h.span f).2 (InSpan.of_mem (by simp))
  obtain ⟨a2, b2, c2, g1, g2, g3⟩ := (h.span g).2 (InSpan.of_mem (by simp))
  obtain ⟨a3, b3, c3, k1, k2, k3⟩ := (h.span k).2 (InSpan.of_mem (by simp))
  have hd : det T.a T.b T.c = T.a.x * T.b.y * T.c.z := by unfold det; rw [bx, cx, cy]; grind
  have e1 : det T.a T.b T.c = (-det ⟨i1, j1, l1⟩ ⟨i2, j2, l2⟩ ⟨i3, j3, l3⟩) * det f g k := by
    unfold det; rw [p1, p2, p3, q1, q2, q3, r1, r2, r3]; grind
  have e2 : det f g k = det ⟨a1, b1, c1⟩ ⟨a2, b2, c2⟩ ⟨a3, b3, c3⟩ * det T.a T.b T.c := by
    unfold det; rw [f1, f2, f3, g1, g2, g3, k1, k2, k3]; grind
  rw [← hd]
  exact natAbs_eq_of e1 e2

theorem vol2 {T : St} {f g : V} (h : CanonOf T [g, f]) : T.a.x * T.b.y = mxy f g ∨ T.a.x * T.b.y = -mxy f g := by
  have bx := h.shape.bx; have cx := h.shape.cx; have cy := h.shape.cy
  obtain ⟨i1, j1, p1, p2⟩ := span2 ((h.span _).1 (Mem.ra T))
  obtain ⟨i2, j2, q1, q2⟩ := span2 ((h.span _).1 (Mem.rb T))
  obtain ⟨a1, b1, c1, f1, f2, f3⟩ := (h.span f).2 (InSpan.of_mem (by simp))
  obtain ⟨a2, b2, c2, g1, g2, g3⟩ := (h.span g).2 (InSpan.of_mem (by simp))
  have hd : mxy T.a T.b = T.a.x * T.b.y := by unfold mxy; rw [bx]; simp
  have e1 : mxy T.a T.b = (-(i1 * j2 - j1 * i2)) * mxy f g := by
    unfold mxy; rw [p1, p2, q1, q2]; grind
  have e2 : mxy f g = (a1 * b2 - b1 * a2) * mxy T.a T.b := by
    unfold mxy; rw [f1, f2, g1, g2, cx, cy]; grind
  rw [← hd]
  exact natAbs_eq_of e1 e2

theorem vol1 {T : St} {f : V} (h : CanonOf T [f]) : T.a.x = f.x ∨ T.a.x = -f.x := by
  have bx := h.shape.bx; have cx := h.shape.cx
  obtain ⟨i1, p1⟩ := span1 ((h.span _).1 (Mem.ra T))
  obtain ⟨a1, b1, c1, f1, f2, f3⟩ := (h.span f).2 (InSpan.of_mem (by simp))
  rw [bx, cx] at f1
  exact natAbs_eq_of (s := i1) (t := a1) p1 (by omega)

/-- With entries of at most 4 it always fits. -/
theorem light_fits {T : St} {G : List V} (h : CanonOf T G) (hG : ∀ g ∈ G, Le 4 g) : Le 511 T.a ∧ Le 511 T.b ∧ Le 511 T.c := by
  obtain ⟨p, q, r⟩ := h.bound (M := 4) (by omega) hG
  exact ⟨p.mono (by omega), q.mono (by omega), r.mono (by omega)⟩

end Lat

theorem wrap_in {x : Int} (h1 : -9223372036854775808 ≤ x) (h2 : x ≤ 9223372036854775807) : IntKind.i64.wrap x = x := by
  rw [IntKind.wrap_i64]; omega

end Go.Proofs.YtmlcblnndihjoaaGreat

namespace Go.Proofs.YtmlcblnndihjoaaGreat
open Go.RowKit

theorem OwnRows.out {w : World} {B : Nat} {v : Value} {bs : List Nat} {zss : List (List Int)} {n : Nat} (h : OwnRows w B v bs zss n) : ∃ a cap, v = .slice a bs.length cap := by
  rcases h.own.2 with ⟨h1, h2⟩ | ⟨g, cap, cur, h1, _⟩
  · exact ⟨none, 0, by rw [h1, h2]⟩
  · exact ⟨_, cap, h1⟩

theorem OwnRows.cell {w : World} {B : Nat} {v : Value} {bs : List Nat} {zss : List (List Int)} {n : Nat} (h : OwnRows w B v bs zss n) (h0 : 0 < bs.length) :
    ∃ g cap, v = .slice (some ⟨g, 0, none⟩) bs.length cap ∧ B ≤ g ∧ ∀ i, i < bs.length → w.cell? ⟨g, i, none⟩ = some (.slice (some ⟨bs.getD i 0, 0, none⟩) n n) := by
  rcases h.own.2 with ⟨h1, h2⟩ | ⟨g, cap, cur, h1, h2, h3, h4, h5, h6, h7⟩
  · omega
  · refine ⟨g, cap, h1, h2, fun i hi => ?_⟩
    have e : cur.toList[i]? = some (Value.slice (some ⟨bs.getD i 0, 0, none⟩) n n) := by
      have := congrArg (fun l => l[i]?) h7
      simp only [List.getElem?_take] at this
      rw [if_pos (by omega)] at this
      rw [this, List.getElem?_map, List.getElem?_eq_getElem hi]
      simp [List.getD_eq_getElem?_getD, List.getElem?_eq_getElem hi]
    rw [← e]
    simp [World.cell?, h3]

theorem OwnRows.entry {w : World} {B : Nat} {v : Value} {bs : List Nat} {zss : List (List Int)} {n : Nat} (h : OwnRows w B v bs zss n) {i j : Nat} (hi : i < bs.length) (hj : j < n) :
    w.cell? ⟨bs.getD i 0, j, none⟩ = some (.int .i64 ((zss.getD i []).getD j 0)) := by
  obtain ⟨r1, r2, _⟩ := h.row i hi
  rw [r1.cell j]
  have hj' : j < (zss.getD i []).length := by omega
  rw [List.getElem?_toArray, List.getElem?_map, List.getElem?_eq_getElem hj', List.getD_eq_getElem?_getD (l := zss.getD i []), List.getElem?_eq_getElem hj']
  rfl

theorem OwnRows.rowsAt {w : World} {B : Nat} {v : Value} {bs : List Nat} {zss : List (List Int)} {n : Nat} (h : OwnRows w B v bs zss n) (hn : 0 < n) : RowsAt w v zss := by
  have hl := h.len
  by_cases h0 : 0 < bs.length
  · obtain ⟨g, cap, rfl, _, hc⟩ := h.cell h0
    refine Or.inr ⟨by omega, g, 0, cap, by rw [hl], fun i hi => ⟨_, by rw [Nat.zero_add]; exact hc i (by omega), ?_⟩⟩
    have hr := h.row i (by omega)
    refine Or.inr ⟨by omega, _, 0, n, by rw [hr.2.1], fun j hj => ?_⟩
    rw [Nat.zero_add]
    exact h.entry (by omega) (by omega)
  · obtain ⟨a, cap, hv⟩ := h.out
    have e : bs.length = 0 := by omega
    rw [e] at hv
    exact Or.inl ⟨List.length_eq_zero_iff.1 (by omega), a, cap, hv⟩

/-- rows of the width, no entry beyond 511: nothing to refuse ahead of the basis -/
theorem OwnRows.given {w : World} {B : Nat} {v : Value} {bs : List Nat} {zss : List (List Int)} {n : Nat} (h : OwnRows w B v bs zss n) (h1 : 1 ≤ n) (h3 : n ≤ 3) (h6 : zss.length ≤ 6)
    (hz : ∀ zs ∈ zss, ∀ z ∈ zs, -511 ≤ z ∧ z ≤ 511) : givenE (n : Int) zss = 0 := by
  have hg : givenB (n : Int) zss = true := by
    unfold givenB
    rw [decide_eq_true h6, Bool.true_and, List.all_eq_true]
    intro zs hm
    obtain ⟨i, hi, rfl⟩ := List.getElem_of_mem hm
    have hr := h.row i (by have := h.len; omega)
    have e : zss.getD i [] = zss[i] := by simp [List.getD_eq_getElem?_getD, List.getElem?_eq_getElem hi]
    rw [e] at hr
    unfold goodB
    rw [hr.2.1, decide_eq_true rfl, Bool.true_and, List.all_eq_true]
    intro z hzm
    have := hz _ hm z hzm
    simp; omega
  unfold givenE
  rw [hg, if_pos (by simp; omega)]; rfl

theorem OwnRows.len3 {w : World} {B : Nat} {v : Value} {bs : List Nat} {zss : List (List Int)} {n : Nat} (h : OwnRows w B v bs zss n) (h3 : n ≤ 3) : ∀ zs ∈ zss, zs.length ≤ 3 := by
  intro zs hm
  obtain ⟨i, hi, rfl⟩ := List.getElem_of_mem hm
  have hr := h.row i (by have := h.len; omega)
  have e : zss.getD i [] = zss[i] := by simp [List.getD_eq_getElem?_getD, List.getElem?_eq_getElem hi]
  rw [e] at hr
  omega

theorem within_le {most : Int} {zss : List (List Int)} (h : withinB most zss = true) (m0 : 0 ≤ most) : ∀ g ∈ vecs zss, Lat.Le most g := by
  intro g hg
  simp only [vecs, List.mem_reverse, List.mem_map] at hg
  obtain ⟨zs, hz, rfl⟩ := hg
  unfold withinB at h
  rw [List.all_eq_true] at h
  have h2 := h zs hz
  have e : ∀ k, -most ≤ zs.getD k 0 ∧ zs.getD k 0 ≤ most := fun k => by
    have := getD_mem (k := k) h2 (by simp [inB]; omega)
    simp [inB] at this; simpa using this
  exact ⟨e 0, e 1, e 2⟩

/-- what is refused for its size is not light -/
theorem gen_refused {n : Int} {zss : List (List Int)} {T : Lat.St} {c : Int} (h : Gen n zss T c) (hg : givenE n zss = 0) (hc : c ≠ 0) : refB zss c = true := by
  rcases h with ⟨h1, _⟩ | ⟨_, T', hT, ⟨h3, hf⟩ | ⟨h0, _⟩⟩
  · rw [hg] at h1; exact absurd h1 hc
  · cases hw : withinB 4 zss
    · simp [refB, h3, hw]
    · exact absurd (Lat.light_fits hT (within_le hw (by omega))) hf
  · exact absurd h0 hc

/-- without an error there is the canonical basis, and it fits -/
theorem gen_ok {n : Int} {zss : List (List Int)} {T : Lat.St} (h : Gen n zss T 0) : Lat.CanonOf T (vecs zss) ∧ FitsS T := by
  rcases h with ⟨_, h1⟩ | ⟨_, T', hT, ⟨h3, _⟩ | ⟨_, rfl, hf⟩⟩
  · exact absurd rfl h1
  · omega
  · exact ⟨hT, hf⟩


/-- 1 rows of width 1: their index is their determinant's size -/
theorem vol_of1 {zss : List (List Int)} {T : Lat.St} (hl : zss.length = 1) (h : Lat.CanonOf T (vecs zss)) : vecs zss = [vecOf (zss.getD 0 [])] ∧ (idxOf 1 T = (vecOf (zss.getD 0 [])).x ∨ idxOf 1 T = -((vecOf (zss.getD 0 [])).x)) := by
  have e : vecs zss = [vecOf (zss.getD 0 [])] := by
    rcases zss with _ | ⟨z0, _ | ⟨z1, _ | ⟨z2, _ | ⟨z3, zs⟩⟩⟩⟩ <;> simp [vecs] at hl ⊢
  refine ⟨e, ?_⟩
  rw [e] at h
  exact Lat.vol1 h

/-- 2 rows of width 2: their index is their determinant's size -/
theorem vol_of2 {zss : List (List Int)} {T : Lat.St} (hl : zss.length = 2) (h : Lat.CanonOf T (vecs zss)) : vecs zss = [vecOf (zss.getD 1 []), vecOf (zss.getD 0 [])] ∧ (idxOf 2 T = Lat.mxy (vecOf (zss.getD 0 [])) (vecOf (zss.getD 1 [])) ∨ idxOf 2 T = -(Lat.mxy (vecOf (zss.getD 0 [])) (vecOf (zss.getD 1 [])))) := by
  have e : vecs zss = [vecOf (zss.getD 1 []), vecOf (zss.getD 0 [])] := by
    rcases zss with _ | ⟨z0, _ | ⟨z1, _ | ⟨z2, _ | ⟨z3, zs⟩⟩⟩⟩ <;> simp [vecs] at hl ⊢
  refine ⟨e, ?_⟩
  rw [e] at h
  exact Lat.vol2 h

/-- 3 rows of width 3: their index is their determinant's size -/
theorem vol_of3 {zss : List (List Int)} {T : Lat.St} (hl : zss.length = 3) (h : Lat.CanonOf T (vecs zss)) : vecs zss = [vecOf (zss.getD 2 []), vecOf (zss.getD 1 []), vecOf (zss.getD 0 [])] ∧ (idxOf 3 T = Lat.det (vecOf (zss.getD 0 [])) (vecOf (zss.getD 1 [])) (vecOf (zss.getD 2 [])) ∨ idxOf 3 T = -(Lat.det (vecOf (zss.getD 0 [])) (vecOf (zss.getD 1 [])) (vecOf (zss.getD 2 [])))) := by
  have e : vecs zss = [vecOf (zss.getD 2 []), vecOf (zss.getD 1 []), vecOf (zss.getD 0 [])] := by
    rcases zss with _ | ⟨z0, _ | ⟨z1, _ | ⟨z2, _ | ⟨z3, zs⟩⟩⟩⟩ <;> simp [vecs] at hl ⊢
  refine ⟨e, ?_⟩
  rw [e] at h
  exact Lat.vol3 h

end Go.Proofs.YtmlcblnndihjoaaGreat
