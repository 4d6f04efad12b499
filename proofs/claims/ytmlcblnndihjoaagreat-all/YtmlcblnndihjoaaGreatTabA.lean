import Derived.Test.YtmlcblnndihjoaaGreatInts
import Derived.StillTailTactics
import Derived.Laws.CopyRow
import Derived.Laws.OwnMore
import Derived.Laws.Tables
import Derived.Laws.CopyOwn
import Derived.Deep.OwnRows
set_option linter.unusedSimpArgs false
set_option linter.unusedVariables false
namespace Go.Proofs.YtmlcblnndihjoaaGreat
open Go.RowKit

def stepC (L a : Nat) (k : Int) : Nat := if k < 0 then 0 else min k.toNat (L - a)
def posC (L : Nat) (cuts : List Int) : Nat → Nat
  | 0 => 0
  | i + 1 => posC L cuts i + stepC L (posC L cuts i) (cuts.getD i 0)

theorem posC_le (L : Nat) (cuts : List Int) (i : Nat) : posC L cuts i ≤ L := by
  induction i with
  | zero => simp [posC]
  | succ i ih => simp only [posC, stepC]; split <;> omega

/-- how the i-th vector lies -/
def valC (o L : Nat) (cuts : List Int) (i : Nat) : Value :=
  if cuts.getD i 0 < 0 then .slice none 0 0 else sliced (some ⟨o, 0, none⟩) (posC L cuts i) (posC L cuts i + stepC L (posC L cuts i) (cuts.getD i 0)) L 1

theorem tinfo22 : (Tryz.prog.info? 23).map (fun i => (i.zero, i.size, i.bytes)) = some (some (.slice none 0 0), 1, 24) := by kernel_rfl
theorem tinfo3 : (Tryz.prog.info? 3).map (fun i => (i.zero, i.size, i.bytes)) = some (some (.int .i64 0), 1, 8) := by kernel_rfl

set_option maxHeartbeats 1000000 in
theorem few_any (a b : Option Addr) (m n c d : Nat) (w : World) :
    Calls Tryz.prog 10 #[.slice a m c, .slice b n d] w fun e w' => e = .returned (.bool (decide ((m : Int) ≤ 1073741824) && decide ((n : Int) ≤ 1073741824))) ∧ w = w' := by
  go_enter Tryz.func10, Tryz.ntmps10
  go_wp2
  · go_ret
    exact ⟨by simp_all, rfl⟩
  · go_ret
    exact ⟨by rw [decide_eq_false (show ¬ ((m : Int) ≤ 1073741824) by omega)]; rfl, rfl⟩

theorem addr_add0 (b o j : Nat) : (⟨b, o, none⟩ : Addr).add j = ⟨b, o + j, none⟩ := by unfold Addr.add; split <;> simp_all

theorem copy_all {wx : World} {u : Value} {cells : List Int} {o n : Nat} {cur : Array Value} (hn : cells.length = n) (hs : cur.size = n) (hu : IntsAt wx u cells) (hz : Blk wx o cur 3) :
    (Builtin.copy_ #[23, 23] 3 #[.slice (some ⟨o, 0, none⟩) n n, u]).run Tryz.prog wx = .ok (goInt n) (wx.setRow o (cells.map (Value.int .i64)).toArray) := by
  rcases hu with ⟨rfl, a, cap, rfl⟩ | ⟨h0, b, o', cap, rfl, hc⟩
  · have e0 : n = 0 := by simp at hn; omega
    subst e0
    have e1 : cur = #[] := Array.eq_empty_of_size_eq_zero hs
    subst e1
    have hself : wx.setRow o (List.map (Value.int .i64) []).toArray = wx := setRow_self wx o #[] 3 (0, 0) hz
    rw [hself]
    obtain ⟨i, hi, hzz⟩ := Option.map_eq_some_iff.1 tinfo3
    simp only [Prod.mk.injEq] at hzz
    cases a with
    | none => simp [Builtin.copy_, run_underlying Tryz.underlying23, Builtin.lenOf, Builtin.firstCells, sizeOf, typeInfo, hi, hzz, storeCells, Result.andThen]
    | some a =>
      have hl := run_loadCells_list (P := Tryz.prog) wx a [] (by simp)
      simp at hl
      simp [Builtin.copy_, run_underlying Tryz.underlying23, Builtin.lenOf, Builtin.firstCells, sizeOf, typeInfo, hi, hzz, storeCells, Result.andThen, hl]
  · subst hn
    have t := run_copy_row (P := Tryz.prog) wx 23 23 3 3 o 0 cells.length cells.length ⟨b, o', none⟩ cells.length cap cur 3 (cells.map (Value.int .i64)) Tryz.underlying23 (by kernel_rfl) hz (by simp) (fun j y hj => by
      rw [List.getElem?_map] at hj
      obtain ⟨z, hz1, rfl⟩ := Option.map_eq_some_iff.1 hj
      have hlt := (List.getElem?_eq_some_iff.1 hz1).1
      rw [addr_add0, hc j hlt, List.getD_eq_getElem?_getD, hz1]; rfl) (by simp [hs]) (by simp [Value.oneCell'])
    have e : cur.toList.take 0 ++ cells.map (Value.int .i64) ++ cur.toList.drop (0 + (cells.map (Value.int .i64)).length) = cells.map (Value.int .i64) := by
      rw [List.drop_eq_nil_of_le (by simp [hs])]; simp
    rw [e, List.length_map] at t; exact t

/-- the table, while the cuts up to the k-th are laid -/
structure TabK (w : World) (B p o l : Nat) (cells cuts : List Int) (k : Nat) : Prop where
  tp : Blk w p #[.slice (some ⟨o, 0, none⟩) cells.length cells.length, .slice (some ⟨l, 0, none⟩) (cuts.length + 1) (cuts.length + 1), .int .i64 cuts.length] 53
  own : Blk w o (cells.map (Value.int .i64)).toArray 3
  all : Blk w l ((List.range (cuts.length + 1)).map (fun j => if j < k then valC o cells.length cuts j else .slice none 0 0)).toArray 23
  pB : B ≤ p
  oB : B ≤ o
  lB : B ≤ l
  pl : p ≠ l
  ol : o ≠ l

theorem made_map (z : Value) (n : Nat) : madeCells #[z] n = ((List.range n).map (fun _ => z)).toArray := by
  unfold madeCells
  apply Array.toList_inj.1
  simp [Array.toList_range, Nat.mod_one]

theorem laid_start {wx : World} {B p o l : Nat} {cells cuts : List Int}
    (tp : Blk wx p #[.slice (some ⟨o, 0, none⟩) cells.length cells.length, .slice (some ⟨l, 0, none⟩) (cuts.length + 1) (cuts.length + 1), .int .i64 cuts.length] 53)
    (own : Blk wx o (madeCells #[.int .i64 0] cells.length) 3) (all : Blk wx l (madeCells #[.slice none 0 0] (cuts.length + 1)) 23) (pB : B ≤ p) (oB : B ≤ o) (lB : B ≤ l) (pl : p ≠ l) (ol : o ≠ l) (op : o ≠ p) :
    TabK (wx.setRow o (cells.map (Value.int .i64)).toArray) B p o l cells cuts 0 :=
  ⟨by unfold Blk; rw [setRow_other _ _ _ _ (fun e => op e.symm)]; exact tp,
   setRow_heap _ _ _ _ _ _ own,
   by unfold Blk; rw [setRow_other _ _ _ _ (fun e => ol e.symm)]; rw [made_map] at all; simpa [Blk] using all, pB, oB, lB, pl, ol⟩

theorem map_put (f : Nat → Value) {n c : Nat} (x : Value) : ((List.range n).map f).toArray.setIfInBounds c x = ((List.range n).map (fun j => if j = c then x else f j)).toArray := by
  apply Array.ext_getElem?
  intro i
  by_cases hi : i < n
  · by_cases hc : c = i
    · subst hc; simp [hi]
    · simp [Array.getElem?_setIfInBounds, hc, hi, Ne.symm (show c ≠ i from hc)]
  · simp [Array.getElem?_setIfInBounds, hi]

theorem map_same {f g : Nat → Value} {n : Nat} (h : ∀ j, j < n → f j = g j) : ((List.range n).map f).toArray = ((List.range n).map g).toArray := by
  congr 1
  apply List.map_congr_left
  intro j hj
  exact h j (by simpa using hj)

theorem TabK.skip {w : World} {B p o l : Nat} {cells cuts : List Int} {k : Nat} (h : TabK w B p o l cells cuts k) (hz : cuts.getD k 0 < 0) : TabK w B p o l cells cuts (k + 1) := by
  refine ⟨h.tp, h.own, ?_, h.pB, h.oB, h.lB, h.pl, h.ol⟩
  have := h.all
  rw [map_same (g := fun j => if j < k + 1 then valC o cells.length cuts j else .slice none 0 0) (fun j hj => ?_)] at this
  · exact this
  · by_cases e : j = k
    · subst e; simp only [valC, if_pos hz]; simp
    · by_cases e2 : j < k
      · rw [if_pos e2, if_pos (by omega)]
      · rw [if_neg e2, if_neg (by omega)]

theorem TabK.put {w : World} {B p o l : Nat} {cells cuts : List Int} {k : Nat} {V : Value} (h : TabK w B p o l cells cuts k) (hV : V = valC o cells.length cuts k) : TabK (w.setCell ⟨l, k, none⟩ V) B p o l cells cuts (k + 1) := by
  refine ⟨h.tp.other h.pl _, h.own.other h.ol _, ?_, h.pB, h.oB, h.lB, h.pl, h.ol⟩
  have := h.all.set k V
  rw [map_put, map_same (g := fun j => if j < k + 1 then valC o cells.length cuts j else .slice none 0 0) (fun j hj => ?_)] at this
  · exact this
  · by_cases e : j = k
    · subst e; simp [hV]
    · rw [if_neg e]
      by_cases e2 : j < k
      · rw [if_pos e2, if_pos (by omega)]
      · rw [if_neg e2, if_neg (by omega)]

theorem TabK.drew {w : World} {B p o l : Nat} {cells cuts : List Int} {k : Nat} (h : TabK w B p o l cells cuts k) : TabK w.drew B p o l cells cuts k := ⟨h.tp, h.own, h.all, h.pB, h.oB, h.lB, h.pl, h.ol⟩

/-- the table, laid -/
structure Tab (w : World) (B p o l x : Nat) (cells cuts : List Int) : Prop where
  tp : Blk w p #[.slice (some ⟨o, 0, none⟩) cells.length cells.length, .slice (some ⟨l, 0, none⟩) (cuts.length + 1) (cuts.length + 1), .int .i64 cuts.length] 53
  own : Blk w o (cells.map (Value.int .i64)).toArray 3
  all : Blk w l ((List.range (cuts.length + 1)).map (fun j => if j = cuts.length then .slice (some ⟨x, 0, none⟩) 1 1 else valC o cells.length cuts j)).toArray 23
  ext : Blk w x #[.int .i64 77] 3
  pB : B ≤ p
  oB : B ≤ o
  lB : B ≤ l
  xB : B ≤ x

theorem IntsAt.cellAt {w : World} {a : Option Addr} {m cap : Nat} {zs : List Int} (h : IntsAt w (.slice a m cap) zs) {i : Nat} (hi : i < zs.length) :
    ∃ b o, a = some ⟨b, o, none⟩ ∧ w.cell? ⟨b, o + i, none⟩ = some (.int .i64 (zs.getD i 0)) := by
  rcases h with ⟨rfl, _, _, _⟩ | ⟨_, b, o, cap', e, hc⟩
  · simp at hi
  · injection e with e1 e2 e3
    exact ⟨b, o, e1, hc i hi⟩

theorem slice22 (w : World) (o m q r : Nat) (h1 : q ≤ r) (h2 : r ≤ m) :
    (Instr.slice 23 (.slice (some ⟨o, 0, none⟩) m m) (some (.int .i64 q)) (some (.int .i64 r)) none).run Tryz.prog w = .ok (sliced (some ⟨o, 0, none⟩) q r m 1) w := by
  obtain ⟨i, hi, hzz⟩ := Option.map_eq_some_iff.1 tinfo3
  simp only [Prod.mk.injEq] at hzz
  have := run_slice_lh w 23 (some ⟨o, 0, none⟩) m m (P := Tryz.prog) (by kernel_rfl) .i64 .i64 q r (by omega) (by omega) (by omega)
  rw [this]
  have he : Tryz.prog.elem 23 = 3 := by kernel_rfl
  simp [he, sizeOf, typeInfo, hi, hzz, Result.andThen]

theorem hide0 {p : Prop} (h : p) : Hid p := h

theorem tab_end {w : World} {B p o l : Nat} {cells cuts : List Int} {k n : Nat} (h : TabK w B p o l cells cuts k) (hn : cuts.length = n) (hk : k = n) :
    Tab ((w.setCell ⟨l, n, none⟩ (.slice (some ⟨w.heap.size, 0, none⟩) 1 1)).alloc (.cells #[.int .i64 77] 3)) B p o l w.heap.size cells cuts := by
  subst hk
  have hx := h.all.lt
  refine ⟨(h.tp.other h.pl _).alloc _, (h.own.other h.ol _).alloc _, ?_, Blk.new _ _ _ (by simp), h.pB, h.oB, h.lB, by have := h.lB; omega⟩
  have := (h.all.set k (.slice (some ⟨w.heap.size, 0, none⟩) 1 1)).alloc (.cells #[.int .i64 77] 3)
  rw [map_put, map_same (g := fun j => if j = cuts.length then .slice (some ⟨w.heap.size, 0, none⟩) 1 1 else valC o cells.length cuts j) (fun j hj => ?_)] at this
  · exact this
  · by_cases e : j = k
    · rw [if_pos e, if_pos (by omega)]
    · rw [if_neg e, if_pos (show j < k by omega), if_neg (by omega)]

theorem Tab.drew {w : World} {B p o l x : Nat} {cells cuts : List Int} (h : Tab w B p o l x cells cuts) : Tab w.drew B p o l x cells cuts := ⟨h.tp, h.own, h.all, h.ext, h.pB, h.oB, h.lB, h.xB⟩

theorem below_drew {B : Nat} {w w' : World} (h : Below B w w') : Below B w w'.drew := h.drew

def LaidEnd (B : Nat) (cells cuts : List Int) (w' : World) (e : Ending) : Prop :=
  ∃ p o l x, e = .returned (.pointer (some ⟨p, 0, none⟩)) ∧ Tab w' B p o l x cells cuts

set_option maxRecDepth 100000 in
set_option maxHeartbeats 4000000 in
theorem laid_any (u v : Value) (cells cuts : List Int) (w : World) (hu : IntsAt w u cells) (hv : IntsAt w v cuts) (h1 : cells.length ≤ 1073741824) (h2 : cuts.length ≤ 1073741824) :
    Calls Tryz.prog 11 #[u, v] w fun e w' => LaidEnd w.heap.size cells cuts w' e ∧ Below w.heap.size w w' := by
  have HU := hide0 hu
  have HV := hide0 hv
  obtain ⟨a, c, rfl⟩ := hu.slice
  obtain ⟨b, d, rfl⟩ := hv.slice
  clear hu hv
  generalize hm : cells.length = m at *
  generalize hn : cuts.length = n at *
  have mk3 := run_make_row' (P := Tryz.prog) 23 3 (.int .i64 0) 8 Tryz.underlying23 tinfo3 rfl .i64 .i64 m (by omega) (by omega)
  have mk22 := run_make_row' (P := Tryz.prog) 33 23 (.slice none 0 0) 24 Tryz.underlying33 tinfo22 rfl .i64 .i64 (n + 1) (by omega) (by omega)
  have ec : ((n + 1 : Nat) : Int) = (n : Int) + 1 := by omega
  rw [ec] at mk22
  go_enter Tryz.func11, Tryz.ntmps11
  go_upto_region 1 with fail
  go_cut [5] (fun u5 wx => ∃ p o l, u5 = .pointer (some ⟨p, 0, none⟩) ∧ Blk wx p #[.slice (some ⟨o, 0, none⟩) m m, .slice (some ⟨l, 0, none⟩) (n + 1) (n + 1), .int .i64 n] 53 ∧ Blk wx o (madeCells #[.int .i64 0] m) 3 ∧ Blk wx l (madeCells #[.slice none 0 0] (n + 1)) 23 ∧ w.heap.size ≤ p ∧ w.heap.size ≤ o ∧ w.heap.size ≤ l ∧ p ≠ l ∧ o ≠ l ∧ o ≠ p ∧ Below w.heap.size w wx)
  case first =>
    go_region
    · go_wp2
      go_meet
      exact ⟨_, _, _, rfl, Blk.new _ _ _ (by simp), ((Blk.new _ _ _ rfl).alloc _).alloc _, (Blk.new _ _ _ (by simp)).alloc _, by omega, by omega, by omega, by omega, by omega, by omega, by go_grown⟩
    · go_wp2
      go_meet
      exact ⟨_, _, _, rfl, Blk.new _ _ _ (by simp), (Blk.new _ _ _ (by simp)).alloc _, ((Blk.new _ _ _ rfl).alloc _).alloc _, by omega, by omega, by omega, by omega, by omega, by omega, by go_grown⟩
  case rest =>
  rename World => wC
  obtain ⟨p, o, l, rfl, kp, ko, kl, hp, ho, hl, n1, n2, n3, hB⟩ := hcut
  have hcp := copy_all hm (size_madeCells _ _) (HU.out.below hB) ko
  have HK : Hid (TabK (wC.setRow o (cells.map (Value.int .i64)).toArray) w.heap.size p o l cells cuts 0) := laid_start (by rw [hm, hn]; exact kp) (by rw [hm]; exact ko) (by rw [hn]; exact kl) hp ho hl n1 n2 n3
  have hB2 : Hid (Below w.heap.size w (wC.setRow o (cells.map (Value.int .i64)).toArray)) := below_setRow hB ho _
  have hkp := kp.cell 0
  simp at hkp
  clear kp ko kl hB mk3 mk22 n1 n2 n3
  go_wp2
  go_loopg [6, 7, 8] (n) (fun mm at' i u8 wr => ∃ k : Nat, i = .int .i64 k ∧ k + mm = n ∧ at' = .int .i64 (posC m cuts k) ∧ TabK wr w.heap.size p o l cells cuts k ∧ Below w.heap.size w wr)
  case atStart =>
    exact ⟨0, rfl, by omega, rfl, HK.out, hB2.out⟩
  case round =>
    obtain ⟨k, rfl, hk, rfl, hK, hB⟩ := hrel
    have HT := hide0 hK
    have HB := hide0 hB
    have hB1 := hB.size
    clear HK hB2 hcp hkp
    obtain ⟨kc0, kc1, kc2⟩ := hK.tp.three
    have hpk := posC_le m cuts k
    have hps : posC m cuts (k + 1) = posC m cuts k + stepC m (posC m cuts k) (cuts.getD k 0) := rfl
    have HS := hide0 hps
    by_cases hlt : k < n
    · have hci := (HV.out.below hB).cellAt (show k < cuts.length by omega)
      obtain ⟨bb, bo, rfl, hc⟩ := hci
      have hcl : wr.cell? ⟨l, k, none⟩ = some (.slice none 0 0) := by
        rw [hK.all.cell k]; simp [hn, Nat.lt_succ_of_lt hlt]
      have hfl := hK.all.frozen k
      have hlt' : (k : Int) < (n : Int) := by omega
      have hlt1 : (k : Int) < (n : Int) + 1 := by omega
      have HZ : Hid (∃ z q, cuts.getD k 0 = z ∧ posC m cuts k = q) := ⟨_, _, rfl, rfl⟩
      clear hK hB
      generalize hz : cuts.getD k 0 = z at *
      generalize hq : posC m cuts k = q at *
      have HZ := hide0 hz
      have HQ := hide0 hq
      clear hz hq hps
      by_cases hneg : z < 0
      · go_wp2
        go_roundg (gk - 1)
        case measure => omega
        case rel =>
          refine ⟨k + 1, by go_num, by omega, ?_, HT.out.skip (by rw [HZ.out]; exact hneg), HB.out⟩
          rw [HS.out]
          simp [stepC, hneg]
      · have HN := hide0 hneg
        by_cases hgt : z > (m : Int) - q
        · obtain ⟨VA, VL, VC, hV, hs1, hs2⟩ : ∃ (VA : Option Addr) (VL VC : Nat), Hid (Value.slice VA VL VC = sliced (some ⟨o, 0, none⟩) q m m 1) ∧ (∀ w, (Instr.slice 23 (.slice (some ⟨o, 0, none⟩) m m) (some (.int .i64 q)) (some (.int .i64 ((q : Int) + ((m : Int) - q)))) none).run Tryz.prog w = .ok (.slice VA VL VC) w) ∧ (∀ w, (Instr.slice 23 (.slice (some ⟨o, 0, none⟩) m m) (some (.int .i64 q)) (some (.int .i64 m)) none).run Tryz.prog w = .ok (.slice VA VL VC) w) := by
            have t : ∀ w, (Instr.slice 23 (.slice (some ⟨o, 0, none⟩) m m) (some (.int .i64 q)) (some (.int .i64 m)) none).run Tryz.prog w = .ok (sliced (some ⟨o, 0, none⟩) q m m 1) w := fun w => by
              have := slice22 w o m q m (by omega) (by omega)
              exact this
            exact ⟨_, _, _, hide0 rfl, fun w => by rw [show (q : Int) + ((m : Int) - q) = m by omega]; exact t w, t⟩
          go_wp2
          have hw : IntKind.i64.wrap ((q : Int) + ((m : Int) - q)) = m := by rw [show (q : Int) + ((m : Int) - q) = m by omega]; exact IntWalk.i64_in _ (by omega)
          refine wp_region_still_tail 15 (by kernel_rfl) (by kernel_rfl) ?_
          change wpStill _ _ (World.drew _) (fun a' => wpList _ _ _ _ a' (World.drew _)) _ _
          simp only [List.take_succ_cons, List.take_zero, List.drop_succ_cons, List.drop_zero]
          repeat still_step
          try refine wpStill_nil ?_
          go_wp2
          go_roundg (gk - 1)
          case measure => omega
          case rel =>
            refine ⟨k + 1, by go_num, by omega, ?_, TabK.drew (HT.out.put ?_), below_drew (HB.out.setCell (p := ⟨l, k, none⟩) hl _)⟩
            · rw [HS.out]
              refine congrArg (Value.int IntKind.i64) ?_
              simp only [stepC, if_neg (Int.not_lt.2 HN.out)]
              omega
            · rw [hV.out, valC, HZ.out, if_neg (Int.not_lt.2 HN.out), hm, HQ.out]
              congr 1
              simp only [stepC, if_neg (Int.not_lt.2 HN.out)]
              omega
        · obtain ⟨VA, VL, VC, hV, hs1⟩ : ∃ (VA : Option Addr) (VL VC : Nat), Hid (Value.slice VA VL VC = sliced (some ⟨o, 0, none⟩) q (q + z.toNat) m 1) ∧ (∀ w, (Instr.slice 23 (.slice (some ⟨o, 0, none⟩) m m) (some (.int .i64 q)) (some (.int .i64 ((q : Int) + z))) none).run Tryz.prog w = .ok (.slice VA VL VC) w) := by
            refine ⟨_, _, _, hide0 rfl, fun w => ?_⟩
            have := slice22 w o m q (q + z.toNat) (by omega) (by omega)
            rw [show ((q + z.toNat : Nat) : Int) = (q : Int) + z by omega] at this
            exact this
          have hq0 : 0 ≤ (q : Int) + z := by omega
          have hq1 : (q : Int) + z ≤ 1073741824 := by omega
          have hz0 : 0 ≤ z := by omega
          have hz1 : z ≤ 1073741824 := by omega
          go_wp2
          have hw : IntKind.i64.wrap ((q : Int) + z) = (q : Int) + z := IntWalk.i64_in _ (by omega)
          refine wp_region_still_tail 15 (by kernel_rfl) (by kernel_rfl) ?_
          change wpStill _ _ (World.drew _) (fun a' => wpList _ _ _ _ a' (World.drew _)) _ _
          simp only [List.take_succ_cons, List.take_zero, List.drop_succ_cons, List.drop_zero]
          repeat still_step
          try refine wpStill_nil ?_
          go_wp2
          go_roundg (gk - 1)
          case measure => omega
          case rel =>
            refine ⟨k + 1, by go_num, by omega, ?_, TabK.drew (HT.out.put ?_), below_drew (HB.out.setCell (p := ⟨l, k, none⟩) hl _)⟩
            · rw [HS.out]
              refine congrArg (Value.int IntKind.i64) ?_
              simp only [stepC, if_neg (Int.not_lt.2 HN.out)]
              omega
            · rw [hV.out, valC, HZ.out, if_neg (Int.not_lt.2 HN.out), hm, HQ.out]
              congr 1
              simp only [stepC, if_neg (Int.not_lt.2 HN.out)]
              omega
    · have hkn : k = n := by omega
      have hd : decide ((k : Int) < (n : Int)) = false := by simp; omega
      have HKN := hide0 hkn
      have HN := hide0 hn
      have hcl : wr.cell? ⟨l, n, none⟩ = some (.slice none 0 0) := by
        rw [hK.all.cell n]; simp [hn, hkn]
      have hfl := hK.all.frozen n
      have hll := hK.all.lt
      have hpp := hK.tp.lt
      clear hK hB HV HU hkn hps
      go_wp2
      go_region
      go_wp2
      go_ret
      exact ⟨⟨p, o, l, wr.heap.size, rfl, (tab_end HT.out HN.out HKN.out).drew⟩, below_drew ((HB.out.setCell (p := ⟨l, n, none⟩) hl _).alloc (by simp; omega) _)⟩

end Go.Proofs.YtmlcblnndihjoaaGreat
