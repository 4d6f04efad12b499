import Derived.Test.YtmlcblnndihjoaaGreatSpare
namespace Go.Proofs.YtmlcblnndihjoaaGreat
open Go.RowKit

/-- a list of rows that the call itself made by append: each in a block of its own -/
structure RowsOwn (w : World) (B : Nat) (v : Value) (vs : List Value) (zss : List (List Int)) (n : Nat) : Prop where
  own : w.ownsRow B 23 1 v vs.length vs
  len : zss.length = vs.length
  row : ∀ i, i < vs.length → w.ownsRow B 3 1 (vs.getD i .nilIface) n ((zss.getD i []).map (Value.int .i64)) ∧ (zss.getD i []).length = n ∧ ∃ b, (vs.getD i .nilIface).ownBlock = some b ∧ v.ownBlock ≠ some b
  apart : ∀ i j, i < j → j < vs.length → (vs.getD i .nilIface).ownBlock ≠ (vs.getD j .nilIface).ownBlock
  spare : Spare w v (.slice none 0 0)

theorem getD_left {α : Type} {l : List α} {i : Nat} (h : i < l.length) (x d : α) : (l ++ [x]).getD i d = l.getD i d := by
  simp [List.getD_eq_getElem?_getD, List.getElem?_append_left h]

theorem getD_last {α : Type} (l : List α) (x d : α) : (l ++ [x]).getD l.length d = x := by
  simp [List.getD_eq_getElem?_getD]

theorem RowsOwn.snoc {w w1 : World} {B : Nat} {v v1 x : Value} {vs : List Value} {zss : List (List Int)} {n p g cap : Nat} {zs : List Int}
    (h : RowsOwn w B v vs zss n) (hz : zs.length = n) (hx : w.ownsRow B 3 1 x n (zs.map (Value.int .i64))) (hp : x.ownBlock = some p) (hnew : ∀ i, i < vs.length → (vs.getD i .nilIface).ownBlock ≠ some p) (hvp : v.ownBlock ≠ some p)
    (hv1 : v1 = .slice (some ⟨g, 0, none⟩) (vs.length + 1) cap) (ho : w1.ownsRow B 23 1 v1 (vs.length + 1) (vs ++ [x]))
    (hg : w.grownBy w1 v.ownBlock) (hat : v.ownBlock = some g ∨ g = w.heap.size) (hsp : Spare w1 v1 (.slice none 0 0)) : RowsOwn w1 B v1 (vs ++ [x]) (zss ++ [zs]) n := by
  have hl := h.len
  have hob : v1.ownBlock = some g := by rw [hv1]; rfl
  have keep : ∀ (y : Value) (b m : Nat) (xs : List Value), w.ownsRow B 3 1 y m xs → y.ownBlock = some b → v.ownBlock ≠ some b → w1.ownsRow B 3 1 y m xs := fun y b m xs hy hb hne =>
    hy.kept hg (Or.inr (by rw [hb]; exact fun e => hne e.symm))
  have far : ∀ (y : Value) (b m : Nat) (xs : List Value), w.ownsRow B 3 1 y m xs → y.ownBlock = some b → v.ownBlock ≠ some b → v1.ownBlock ≠ some b := fun y b m xs hy hb hne => by
    rw [hob]
    intro e
    injection e with e
    rcases hat with e2 | e2
    · rw [e] at e2; exact hne e2
    · have := (hy.lt b hb).2; omega
  refine ⟨?_, ?_, ?_, ?_, hsp⟩
  · rw [List.length_append]; exact ho
  · simp [hl]
  · intro i hi
    rw [List.length_append] at hi
    simp at hi
    by_cases hlt : i < vs.length
    · rw [getD_left hlt, getD_left (show i < zss.length by omega)]
      obtain ⟨r1, r2, b, r3, r4⟩ := h.row i hlt
      exact ⟨keep _ b _ _ r1 r3 r4, r2, b, r3, far _ b _ _ r1 r3 r4⟩
    · have ei : i = vs.length := by omega
      subst ei
      rw [getD_last]
      have e2 : (zss ++ [zs]).getD vs.length [] = zs := by rw [← hl]; exact getD_last _ _ _
      rw [e2]
      exact ⟨keep _ p _ _ hx hp hvp, hz, p, hp, far _ p _ _ hx hp hvp⟩
  · intro i j hij hj
    rw [List.length_append] at hj
    simp at hj
    by_cases hlt : j < vs.length
    · rw [getD_left (show i < vs.length by omega), getD_left hlt]
      exact h.apart i j hij hlt
    · have ej : j = vs.length := by omega
      subst ej
      rw [getD_last, getD_left hij, hp]
      exact hnew i hij

theorem RowsOwn.below {w w' : World} {B C : Nat} {v : Value} {vs : List Value} {zss : List (List Int)} {n : Nat} (h : RowsOwn w B v vs zss n) (hb : Below C w w') (hC : w.heap.size ≤ C) : RowsOwn w' B v vs zss n :=
  ⟨ownsRow_below h.own hb hC, h.len, fun i hi => ⟨ownsRow_below (h.row i hi).1 hb hC, (h.row i hi).2⟩, h.apart, h.spare.below (hb.mono hC)⟩

theorem RowsOwn.base {w : World} {B B' : Nat} {v : Value} {vs : List Value} {zss : List (List Int)} {n : Nat} (h : RowsOwn w B v vs zss n) (hB : B' ≤ B) : RowsOwn w B' v vs zss n :=
  ⟨ownsRow_base h.own hB, h.len, fun i hi => ⟨ownsRow_base (h.row i hi).1 hB, (h.row i hi).2⟩, h.apart, h.spare⟩

/-- what a row owns is there to be read -/
theorem ownsRow_cell {w : World} {B : Nat} {e : TypeId} {v : Value} {n : Nat} {xs : List Value} (h : w.ownsRow B e 1 v n xs) (h0 : 0 < n) :
    ∃ g cap, v = .slice (some ⟨g, 0, none⟩) n cap ∧ B ≤ g ∧ ∀ i, i < n → w.cell? ⟨g, i, none⟩ = xs[i]? := by
  rcases h.2 with ⟨h1, h2⟩ | ⟨g, cap, cur, h1, h2, h3, h4, h5, h6, h7⟩
  · omega
  · refine ⟨g, cap, h1, h2, fun i hi => ?_⟩
    rw [← h7, List.getElem?_take, if_pos (by omega)]
    simp [World.cell?, h3]

theorem RowsOwn.rowsAt {w : World} {B : Nat} {v : Value} {vs : List Value} {zss : List (List Int)} {n : Nat} (h : RowsOwn w B v vs zss n) (hn : 0 < n) : RowsAt w v zss := by
  have hl := h.len
  by_cases h0 : 0 < vs.length
  · obtain ⟨g, cap, hv, _, hc⟩ := ownsRow_cell h.own h0
    refine Or.inr ⟨by omega, g, 0, cap, by rw [hl]; exact hv, fun i hi => ?_⟩
    have hi' : i < vs.length := by omega
    have hr := h.row i hi'
    obtain ⟨g1, cap1, hv1, _, hc1⟩ := ownsRow_cell hr.1 hn
    refine ⟨vs.getD i .nilIface, ?_, ?_⟩
    · rw [Nat.zero_add, hc i hi', List.getD_eq_getElem?_getD, List.getElem?_eq_getElem hi']; rfl
    · refine Or.inr ⟨by omega, g1, 0, cap1, by rw [hr.2.1]; exact hv1, fun j hj => ?_⟩
      rw [Nat.zero_add, hc1 j (by omega), List.getElem?_map]
      generalize zss.getD i [] = zs at *
      rw [List.getElem?_eq_getElem hj, List.getD_eq_getElem?_getD, List.getElem?_eq_getElem hj]
      rfl
  · rcases h.own.2 with ⟨h1, h2⟩ | ⟨g, cap, cur, h1, _⟩
    · exact Or.inl ⟨List.length_eq_zero_iff.1 (by omega), none, 0, by rw [h1]⟩
    · have e : vs.length = 0 := by omega
      rw [e] at h1
      exact Or.inl ⟨List.length_eq_zero_iff.1 (by omega), _, cap, h1⟩

/-- the rows of a canonical basis, as lists of n numbers -/
def basisRows (n : Nat) (T : Lat.St) : List (List Int) :=
  (if T.a.x = 0 then [] else [cutV n T.a]) ++ (if T.b.y = 0 then [] else [cutV n T.b]) ++ (if T.c.z = 0 then [] else [cutV n T.c])

def RowsOut (B : Nat) (n : Nat) (T : Lat.St) (w' : World) (e : Ending) : Prop :=
  ∃ out vs, e = .returned out ∧ RowsOwn w' B out vs (basisRows n T) n ∧ out ≠ .slice none 0 0

set_option maxRecDepth 100000 in
set_option maxHeartbeats 2000000 in
theorem spanRows_any (S : Lat.St) (n : Nat) (w : World) (h1 : 0 < n) (h3 : n ≤ 3) :
    Calls Tryz.prog 34 #[.agg #[.int .i64 S.a.x, .int .i64 S.a.y, .int .i64 S.a.z, .int .i64 S.b.x, .int .i64 S.b.y, .int .i64 S.b.z, .int .i64 S.c.x, .int .i64 S.c.y, .int .i64 S.c.z], .int .i64 n] w fun e w' => RowsOut w.heap.size n S w' e ∧ Below w.heap.size w w' := by
  obtain ⟨i0, hi, hz0, hz1, hz2⟩ := info_parts Tryz.info23
  have HI : Hid (Tryz.prog.info? 23 = some i0 ∧ i0.zero = some (.slice none 0 0) ∧ i0.size = 1 ∧ i0.bytes = 24) := ⟨hi, hz0, hz1, hz2⟩
  clear hi hz0 hz1 hz2
  go_enter Tryz.func34, Tryz.ntmps34
  go_upto_region 2 with fail
  go_cut [5, 6] (fun u5 u6 wx => u6 = .int .i64 0 ∧ Blk wx w.heap.size #[.int .i64 S.a.x, .int .i64 S.a.y, .int .i64 S.a.z, .int .i64 S.b.x, .int .i64 S.b.y, .int .i64 S.b.z, .int .i64 S.c.x, .int .i64 S.c.y, .int .i64 S.c.z] 58 ∧ Below w.heap.size w wx ∧ u5 ≠ .slice none 0 0 ∧ ∃ vs, vs.length ≤ 0 ∧ RowsOwn wx (w.heap.size + 1) u5 vs [] n)
  case first =>
    go_wp2
    go_meet
    refine ⟨rfl, (Blk.new w _ _ rfl).alloc _, by go_grown, (by intro e; injection e with e; cases e), [], by simp, ⟨?_, rfl, fun i hi => by simp at hi, fun i j _ hj => by simp at hj, fun g n cap e j h1 h2 => by injection e with _ _ e3; omega⟩⟩
    have := World.ownsRow_made (base := w.heap.size + 1) (e := 23) (size := 1) (w.alloc (.cells #[.int .i64 S.a.x, .int .i64 S.a.y, .int .i64 S.a.z, .int .i64 S.b.x, .int .i64 S.b.y, .int .i64 S.b.z, .int .i64 S.c.x, .int .i64 S.c.y, .int .i64 S.c.z] 58)) #[] 0 (by simp) (by simp [maxLen]) rfl
    simp at this; exact this
  case rest =>
  rename World => wR
  obtain ⟨rfl, ks, hB, hnn, vs, hvl, hO⟩ := hcut
  have HVL : Hid (vs.length ≤ 0) := hvl
  clear hvl
  have HO : Hid (RowsOwn wR (w.heap.size + 1) u5 vs [] n) := hO
  have hl0 := ks.lt
  obtain ⟨s0, s1, s2, s3, s4, s5, s6, s7, s8⟩ := ks.nine
  clear hO
  go_wp2
  refine wp_loop_rounds 4 ?_
  rw [rounds_succ]
  go_upto_block 1 with fail
  go_cut [5] (fun u5 wx => Blk wx w.heap.size #[.int .i64 S.a.x, .int .i64 S.a.y, .int .i64 S.a.z, .int .i64 S.b.x, .int .i64 S.b.y, .int .i64 S.b.z, .int .i64 S.c.x, .int .i64 S.c.y, .int .i64 S.c.z] 58 ∧ Below w.heap.size w wx ∧ u5 ≠ .slice none 0 0 ∧ ∃ vs, vs.length ≤ 1 ∧ RowsOwn wx (w.heap.size + 1) u5 vs ((if S.a.x = 0 then [] else [cutV n S.a])) n)
  case first =>
    by_cases hz : S.a.x = 0
    · have hz' : (S.a.x != 0) = false := by simpa using hz
      have HN : Hid (((if S.a.x = 0 then [] else [cutV n S.a])) = ([])) := by show ((if S.a.x = 0 then [] else [cutV n S.a])) = ([]); simp [hz]
      clear hz
      go_wp2
      go_meet
      rw [HN.out]
      exact ⟨ks, hB, hnn, vs, by have := HVL.out; omega, HO.out⟩
    · have hz' : (S.a.x != 0) = true := by simpa using hz
      have HN : Hid (((if S.a.x = 0 then [] else [cutV n S.a])) = ([]) ++ [cutV n S.a]) := by show ((if S.a.x = 0 then [] else [cutV n S.a])) = ([]) ++ [cutV n S.a]; simp [hz]
      clear hz
      obtain ⟨hi, hz0, hz1, hz2⟩ := HI.out
      go_wp2_with fail
      refine (listOf_any S.a n _ h3).mono ?_
      rintro e w1 ⟨⟨x, rfl, hx⟩, hb1⟩
      have HX : Hid (w1.ownsRow wR.heap.size 3 1 _ n ((cutV n S.a).map (Value.int .i64))) := hx
      obtain ⟨p, capx, rfl, hpB, _⟩ := ownsRow_cell hx h1
      have hpl : p < w1.heap.size := (hx.lt p rfl).2
      have HO1 : Hid (RowsOwn w1 (w.heap.size + 1) u5 vs ([]) n) := HO.out.below hb1 (Nat.le_refl _)
      have hown := HO1.out.own
      have hvl6 : vs.length + 1 ≤ 6 := by have := HVL.out; omega
      have hs1 := hb1.size
      clear hx
      go_wp2_with (at_builtin; refine wpList_append_z _ rfl (.tmp 26) (.tmp 28) 33 rfl (w.heap.size + 1) 23 i0 (.slice none 0 0) 24 Tryz.underlying33 hi hz0 hz1 hz2 rfl _ _ _ rfl (hown.alloc _) (HO1.out.spare.below (by go_grown)) ⟨w1.heap.size, 0, none⟩ 1 1 [.slice (some ⟨p, 0, none⟩) n capx] rfl rfl (World.news_of_block (cs := #[.slice (some ⟨p, 0, none⟩) n capx]) (t := 23) (fr := (0, 0)) (Blk.new _ _ _ rfl)) (by intro u hu; simp at hu; subst hu; rfl) (by omega) (by unfold maxLen; omega) (by omega) (by simp; omega) _ rfl ?_; intro g cap1 w2 hown1 hgrow hat hglt hspn)
      go_meet
      have hOb := HO1.out.below (((Below.refl w1.heap.size w1).alloc (Nat.le_refl _) (.cells #[.slice (some ⟨p, 0, none⟩) n capx] 23))) (Nat.le_refl _)
      have hnp : ∀ i, i < vs.length → (vs.getD i .nilIface).ownBlock ≠ some p := fun i hi e => by
        have := ((HO.out.row i hi).1.lt p e).2; omega
      have hvp : u5.ownBlock ≠ some p := fun e => by have := (HO.out.own.lt p e).2; omega
      refine ⟨?_, ?_, ?_, vs ++ [.slice (some ⟨p, 0, none⟩) n capx], ?_, ?_⟩
      · unfold Blk
        rw [hgrow.block w.heap.size (by simp; omega) (fun e => ?_)]
        · exact (ks.below hb1 hl0).alloc _
        · have := (hown.lt _ e.symm).1; omega
      · exact ((hB.trans (hb1.mono (by omega))).alloc (by omega) _).grown hgrow (by simp; omega) (fun j hj => by have := (hown.lt j hj).1; omega)
      · intro e; injection e with e; cases e
      · have := HVL.out; simp only [List.length_append, List.length_cons, List.length_nil]; omega
      · rw [HN.out]
        exact RowsOwn.snoc hOb (cutV_length _ h3) ((ownsRow_base HX.out (by omega)).alloc _) rfl hnp hvp rfl hown1 hgrow hat hspn
  case rest =>
  rename World => wA
  clear ks hB hnn vs HVL HO hl0 s0 s1 s2 s3 s4 s5 s6 s7 s8
  obtain ⟨ks, hB, hnn, vs, hvl, hO⟩ := hcut
  have HVL : Hid (vs.length ≤ 1) := hvl
  clear hvl
  have HO : Hid (RowsOwn wA (w.heap.size + 1) u5 vs ((if S.a.x = 0 then [] else [cutV n S.a])) n) := hO
  have hl0 := ks.lt
  obtain ⟨s0, s1, s2, s3, s4, s5, s6, s7, s8⟩ := ks.nine
  clear hO
  go_wp2
  rw [rounds_succ]
  go_upto_block 1 with fail
  go_cut [5] (fun u5 wx => Blk wx w.heap.size #[.int .i64 S.a.x, .int .i64 S.a.y, .int .i64 S.a.z, .int .i64 S.b.x, .int .i64 S.b.y, .int .i64 S.b.z, .int .i64 S.c.x, .int .i64 S.c.y, .int .i64 S.c.z] 58 ∧ Below w.heap.size w wx ∧ u5 ≠ .slice none 0 0 ∧ ∃ vs, vs.length ≤ 2 ∧ RowsOwn wx (w.heap.size + 1) u5 vs ((if S.a.x = 0 then [] else [cutV n S.a]) ++ (if S.b.y = 0 then [] else [cutV n S.b])) n)
  case first =>
    by_cases hz : S.b.y = 0
    · have hz' : (S.b.y != 0) = false := by simpa using hz
      have HN : Hid (((if S.a.x = 0 then [] else [cutV n S.a]) ++ (if S.b.y = 0 then [] else [cutV n S.b])) = ((if S.a.x = 0 then [] else [cutV n S.a]))) := by show ((if S.a.x = 0 then [] else [cutV n S.a]) ++ (if S.b.y = 0 then [] else [cutV n S.b])) = ((if S.a.x = 0 then [] else [cutV n S.a])); simp [hz]
      clear hz
      go_wp2
      go_meet
      rw [HN.out]
      exact ⟨ks, hB, hnn, vs, by have := HVL.out; omega, HO.out⟩
    · have hz' : (S.b.y != 0) = true := by simpa using hz
      have HN : Hid (((if S.a.x = 0 then [] else [cutV n S.a]) ++ (if S.b.y = 0 then [] else [cutV n S.b])) = ((if S.a.x = 0 then [] else [cutV n S.a])) ++ [cutV n S.b]) := by show ((if S.a.x = 0 then [] else [cutV n S.a]) ++ (if S.b.y = 0 then [] else [cutV n S.b])) = ((if S.a.x = 0 then [] else [cutV n S.a])) ++ [cutV n S.b]; simp [hz]
      clear hz
      obtain ⟨hi, hz0, hz1, hz2⟩ := HI.out
      go_wp2_with fail
      refine (listOf_any S.b n _ h3).mono ?_
      rintro e w1 ⟨⟨x, rfl, hx⟩, hb1⟩
      have HX : Hid (w1.ownsRow wA.heap.size 3 1 _ n ((cutV n S.b).map (Value.int .i64))) := hx
      obtain ⟨p, capx, rfl, hpB, _⟩ := ownsRow_cell hx h1
      have hpl : p < w1.heap.size := (hx.lt p rfl).2
      have HO1 : Hid (RowsOwn w1 (w.heap.size + 1) u5 vs ((if S.a.x = 0 then [] else [cutV n S.a])) n) := HO.out.below hb1 (Nat.le_refl _)
      have hown := HO1.out.own
      have hvl6 : vs.length + 1 ≤ 6 := by have := HVL.out; omega
      have hs1 := hb1.size
      clear hx
      go_wp2_with (at_builtin; refine wpList_append_z _ rfl (.tmp 26) (.tmp 28) 33 rfl (w.heap.size + 1) 23 i0 (.slice none 0 0) 24 Tryz.underlying33 hi hz0 hz1 hz2 rfl _ _ _ rfl (hown.alloc _) (HO1.out.spare.below (by go_grown)) ⟨w1.heap.size, 0, none⟩ 1 1 [.slice (some ⟨p, 0, none⟩) n capx] rfl rfl (World.news_of_block (cs := #[.slice (some ⟨p, 0, none⟩) n capx]) (t := 23) (fr := (0, 0)) (Blk.new _ _ _ rfl)) (by intro u hu; simp at hu; subst hu; rfl) (by omega) (by unfold maxLen; omega) (by omega) (by simp; omega) _ rfl ?_; intro g cap1 w2 hown1 hgrow hat hglt hspn)
      go_meet
      have hOb := HO1.out.below (((Below.refl w1.heap.size w1).alloc (Nat.le_refl _) (.cells #[.slice (some ⟨p, 0, none⟩) n capx] 23))) (Nat.le_refl _)
      have hnp : ∀ i, i < vs.length → (vs.getD i .nilIface).ownBlock ≠ some p := fun i hi e => by
        have := ((HO.out.row i hi).1.lt p e).2; omega
      have hvp : u5.ownBlock ≠ some p := fun e => by have := (HO.out.own.lt p e).2; omega
      refine ⟨?_, ?_, ?_, vs ++ [.slice (some ⟨p, 0, none⟩) n capx], ?_, ?_⟩
      · unfold Blk
        rw [hgrow.block w.heap.size (by simp; omega) (fun e => ?_)]
        · exact (ks.below hb1 hl0).alloc _
        · have := (hown.lt _ e.symm).1; omega
      · exact ((hB.trans (hb1.mono (by omega))).alloc (by omega) _).grown hgrow (by simp; omega) (fun j hj => by have := (hown.lt j hj).1; omega)
      · intro e; injection e with e; cases e
      · have := HVL.out; simp only [List.length_append, List.length_cons, List.length_nil]; omega
      · rw [HN.out]
        exact RowsOwn.snoc hOb (cutV_length _ h3) ((ownsRow_base HX.out (by omega)).alloc _) rfl hnp hvp rfl hown1 hgrow hat hspn
  case rest =>
  rename World => wB
  clear ks hB hnn vs HVL HO hl0 s0 s1 s2 s3 s4 s5 s6 s7 s8
  obtain ⟨ks, hB, hnn, vs, hvl, hO⟩ := hcut
  have HVL : Hid (vs.length ≤ 2) := hvl
  clear hvl
  have HO : Hid (RowsOwn wB (w.heap.size + 1) u5 vs ((if S.a.x = 0 then [] else [cutV n S.a]) ++ (if S.b.y = 0 then [] else [cutV n S.b])) n) := hO
  have hl0 := ks.lt
  obtain ⟨s0, s1, s2, s3, s4, s5, s6, s7, s8⟩ := ks.nine
  clear hO
  go_wp2
  rw [rounds_succ]
  go_upto_block 1 with fail
  go_cut [5] (fun u5 wx => Blk wx w.heap.size #[.int .i64 S.a.x, .int .i64 S.a.y, .int .i64 S.a.z, .int .i64 S.b.x, .int .i64 S.b.y, .int .i64 S.b.z, .int .i64 S.c.x, .int .i64 S.c.y, .int .i64 S.c.z] 58 ∧ Below w.heap.size w wx ∧ u5 ≠ .slice none 0 0 ∧ ∃ vs, vs.length ≤ 3 ∧ RowsOwn wx (w.heap.size + 1) u5 vs ((if S.a.x = 0 then [] else [cutV n S.a]) ++ (if S.b.y = 0 then [] else [cutV n S.b]) ++ (if S.c.z = 0 then [] else [cutV n S.c])) n)
  case first =>
    by_cases hz : S.c.z = 0
    · have hz' : (S.c.z != 0) = false := by simpa using hz
      have HN : Hid (((if S.a.x = 0 then [] else [cutV n S.a]) ++ (if S.b.y = 0 then [] else [cutV n S.b]) ++ (if S.c.z = 0 then [] else [cutV n S.c])) = ((if S.a.x = 0 then [] else [cutV n S.a]) ++ (if S.b.y = 0 then [] else [cutV n S.b]))) := by show ((if S.a.x = 0 then [] else [cutV n S.a]) ++ (if S.b.y = 0 then [] else [cutV n S.b]) ++ (if S.c.z = 0 then [] else [cutV n S.c])) = ((if S.a.x = 0 then [] else [cutV n S.a]) ++ (if S.b.y = 0 then [] else [cutV n S.b])); simp [hz]
      clear hz
      go_wp2
      go_meet
      rw [HN.out]
      exact ⟨ks, hB, hnn, vs, by have := HVL.out; omega, HO.out⟩
    · have hz' : (S.c.z != 0) = true := by simpa using hz
      have HN : Hid (((if S.a.x = 0 then [] else [cutV n S.a]) ++ (if S.b.y = 0 then [] else [cutV n S.b]) ++ (if S.c.z = 0 then [] else [cutV n S.c])) = ((if S.a.x = 0 then [] else [cutV n S.a]) ++ (if S.b.y = 0 then [] else [cutV n S.b])) ++ [cutV n S.c]) := by show ((if S.a.x = 0 then [] else [cutV n S.a]) ++ (if S.b.y = 0 then [] else [cutV n S.b]) ++ (if S.c.z = 0 then [] else [cutV n S.c])) = ((if S.a.x = 0 then [] else [cutV n S.a]) ++ (if S.b.y = 0 then [] else [cutV n S.b])) ++ [cutV n S.c]; simp [hz]
      clear hz
      obtain ⟨hi, hz0, hz1, hz2⟩ := HI.out
      go_wp2_with fail
      refine (listOf_any S.c n _ h3).mono ?_
      rintro e w1 ⟨⟨x, rfl, hx⟩, hb1⟩
      have HX : Hid (w1.ownsRow wB.heap.size 3 1 _ n ((cutV n S.c).map (Value.int .i64))) := hx
      obtain ⟨p, capx, rfl, hpB, _⟩ := ownsRow_cell hx h1
      have hpl : p < w1.heap.size := (hx.lt p rfl).2
      have HO1 : Hid (RowsOwn w1 (w.heap.size + 1) u5 vs ((if S.a.x = 0 then [] else [cutV n S.a]) ++ (if S.b.y = 0 then [] else [cutV n S.b])) n) := HO.out.below hb1 (Nat.le_refl _)
      have hown := HO1.out.own
      have hvl6 : vs.length + 1 ≤ 6 := by have := HVL.out; omega
      have hs1 := hb1.size
      clear hx
      go_wp2_with (at_builtin; refine wpList_append_z _ rfl (.tmp 26) (.tmp 28) 33 rfl (w.heap.size + 1) 23 i0 (.slice none 0 0) 24 Tryz.underlying33 hi hz0 hz1 hz2 rfl _ _ _ rfl (hown.alloc _) (HO1.out.spare.below (by go_grown)) ⟨w1.heap.size, 0, none⟩ 1 1 [.slice (some ⟨p, 0, none⟩) n capx] rfl rfl (World.news_of_block (cs := #[.slice (some ⟨p, 0, none⟩) n capx]) (t := 23) (fr := (0, 0)) (Blk.new _ _ _ rfl)) (by intro u hu; simp at hu; subst hu; rfl) (by omega) (by unfold maxLen; omega) (by omega) (by simp; omega) _ rfl ?_; intro g cap1 w2 hown1 hgrow hat hglt hspn)
      go_meet
      have hOb := HO1.out.below (((Below.refl w1.heap.size w1).alloc (Nat.le_refl _) (.cells #[.slice (some ⟨p, 0, none⟩) n capx] 23))) (Nat.le_refl _)
      have hnp : ∀ i, i < vs.length → (vs.getD i .nilIface).ownBlock ≠ some p := fun i hi e => by
        have := ((HO.out.row i hi).1.lt p e).2; omega
      have hvp : u5.ownBlock ≠ some p := fun e => by have := (HO.out.own.lt p e).2; omega
      refine ⟨?_, ?_, ?_, vs ++ [.slice (some ⟨p, 0, none⟩) n capx], ?_, ?_⟩
      · unfold Blk
        rw [hgrow.block w.heap.size (by simp; omega) (fun e => ?_)]
        · exact (ks.below hb1 hl0).alloc _
        · have := (hown.lt _ e.symm).1; omega
      · exact ((hB.trans (hb1.mono (by omega))).alloc (by omega) _).grown hgrow (by simp; omega) (fun j hj => by have := (hown.lt j hj).1; omega)
      · intro e; injection e with e; cases e
      · have := HVL.out; simp only [List.length_append, List.length_cons, List.length_nil]; omega
      · rw [HN.out]
        exact RowsOwn.snoc hOb (cutV_length _ h3) ((ownsRow_base HX.out (by omega)).alloc _) rfl hnp hvp rfl hown1 hgrow hat hspn
  case rest =>
  rename World => wC
  clear ks hB hnn vs HVL HO hl0 s0 s1 s2 s3 s4 s5 s6 s7 s8
  obtain ⟨ks, hB, hnn, vs, hvl, hO⟩ := hcut
  have HVL : Hid (vs.length ≤ 3) := hvl
  clear hvl
  have HO : Hid (RowsOwn wC (w.heap.size + 1) u5 vs ((if S.a.x = 0 then [] else [cutV n S.a]) ++ (if S.b.y = 0 then [] else [cutV n S.b]) ++ (if S.c.z = 0 then [] else [cutV n S.c])) n) := hO
  have hl0 := ks.lt
  obtain ⟨s0, s1, s2, s3, s4, s5, s6, s7, s8⟩ := ks.nine
  clear hO
  go_wp2
  rw [rounds_succ]; go_wp2
  go_ret
  exact ⟨⟨u5, vs, rfl, HO.out.base (by omega), hnn⟩, hB⟩

end Go.Proofs.YtmlcblnndihjoaaGreat
