import Derived.Test.YtmlcblnndihjoaaGreatSRows
import Derived.StillTailTactics
set_option linter.unusedSimpArgs false
set_option linter.unusedVariables false
namespace Go.Proofs.YtmlcblnndihjoaaGreat
open Go.RowKit

def capOf : Value → Nat
  | .slice _ _ c => c
  | _ => 0
def blkOf (v : Value) : Nat := v.ownBlock.getD 0

/-- how a list of rows of the call's own lies: its block g, its room; the rows' blocks and rooms -/
structure Lies (w : World) (B : Nat) (g m cap n : Nat) (b c : Nat → Nat) : Prop where
  row : ∀ i, i < m → w.cell? ⟨g, i, none⟩ = some (.slice (some ⟨b i, 0, none⟩) n (c i))
  spare : ∀ i, m ≤ i → i < cap → w.cell? ⟨g, i, none⟩ = some (.slice none 0 0)
  mc : m ≤ cap
  capM : cap ≤ maxLen
  cM : ∀ i, i < m → c i ≤ maxLen
  gB : B ≤ g
  bB : ∀ i, i < m → B ≤ b i
  bg : ∀ i, i < m → b i ≠ g
  apart : ∀ i j, i < m → j < m → i ≠ j → b i ≠ b j
  blk : ∀ i, i < m → ∃ cur, Blk w (b i) cur 3 ∧ cur.size = c i

theorem RowsOwn.lies {w : World} {B : Nat} {v : Value} {vs : List Value} {zss : List (List Int)} {n : Nat} (h : RowsOwn w B v vs zss n) (hn : 0 < n) :
    v = .slice none 0 0 ∨ ∃ g cap, v = .slice (some ⟨g, 0, none⟩) vs.length cap ∧ Lies w B g vs.length cap n (fun i => blkOf (vs.getD i .nilIface)) (fun i => capOf (vs.getD i .nilIface)) := by
  rcases h.own.2 with ⟨h1, _⟩ | ⟨g, cap, cur, h1, h2, h3, h4, h5, h6, h7⟩
  · exact Or.inl h1
  · right
    have form : ∀ i, i < vs.length → ∃ b c cur', vs.getD i .nilIface = .slice (some ⟨b, 0, none⟩) n c ∧ B ≤ b ∧ w.heap[b]? = some (.cells cur' 3 (0, 0)) ∧ c ≤ maxLen ∧ cur'.size = c := fun i hi => by
      rcases (h.row i hi).1.2 with ⟨_, e⟩ | ⟨b, c, cur', e1, e2, e3, _, e5, e6, _⟩
      · omega
      · exact ⟨b, c, cur', e1, e2, e3, e5, by omega⟩
    refine ⟨g, cap, h1, ?_, ?_, h4, h5, ?_, h2, ?_, ?_, ?_, ?_⟩
    · intro i hi
      obtain ⟨b, c, cur', e, _⟩ := form i hi
      have hc : w.cell? ⟨g, i, none⟩ = cur[i]? := by simp [World.cell?, h3]
      rw [hc, ← Array.getElem?_toList]
      have : cur.toList[i]? = (cur.toList.take (vs.length * 1))[i]? := by rw [List.getElem?_take, if_pos (by omega)]
      rw [this, h7, List.getElem?_eq_getElem hi]
      have e' : vs[i] = vs.getD i .nilIface := by simp [List.getD_eq_getElem?_getD, hi]
      rw [e', e]; rfl
    · intro i h1' h2'
      exact h.spare g _ cap h1 i h1' h2'
    · intro i hi
      obtain ⟨b, c, cur', e, _, _, e5, _⟩ := form i hi
      simp only [e]; exact e5
    · intro i hi
      obtain ⟨b, c, cur', e, e2, _⟩ := form i hi
      simp only [e]; exact e2
    · intro i hi he
      obtain ⟨_, _, b, e1, e2⟩ := h.row i hi
      apply e2
      rw [h1]
      simp only [blkOf, e1] at he
      simp at he
      rw [he]; rfl
    · intro i j hi hj hne he
      obtain ⟨_, _, bi, e1, _⟩ := h.row i hi
      obtain ⟨_, _, bj, e2, _⟩ := h.row j hj
      simp only [blkOf, e1, e2] at he
      simp at he
      subst he
      rcases Nat.lt_or_gt_of_ne hne with hlt | hlt
      · exact h.apart i j hlt hj (by rw [e1, e2])
      · exact h.apart j i hlt hi (by rw [e1, e2])
    · intro i hi
      obtain ⟨b, c, cur', e, _, e3, _, e6⟩ := form i hi
      simp only [e]; exact ⟨cur', e3, e6⟩

def FF (i j : Nat) : Value := .int .i64 (wrap64 (wrap64 (((i : Int) + 1) * 1048576) + (j : Int)))
theorem hide1 {p : Prop} (h : p) : Hid p := h

/-- rows ahead of the k-th, and of it the cells ahead of the j-th, hold what was written -/
structure Wrote (F : Nat → Nat → Value) (w wr : World) (B g m : Nat) (b c : Nat → Nat) (k j : Nat) : Prop where
  below : Below B w wr
  gsame : wr.heap[g]? = w.heap[g]?
  rows : ∀ i, i < m → ∃ cur, Blk wr (b i) cur 3 ∧ cur.size = c i ∧ ∀ x, x < c i → (i < k ∨ (i = k ∧ x < j)) → cur[x]? = some (F i x)

theorem Wrote.start {F : Nat → Nat → Value} {w : World} {B g m cap n : Nat} {b c : Nat → Nat} (h : Lies w B g m cap n b c) : Wrote F w w B g m b c 0 0 :=
  ⟨Below.refl _ _, rfl, fun i hi => by obtain ⟨cur, h1, h2⟩ := h.blk i hi; exact ⟨cur, h1, h2, fun x _ hx => by omega⟩⟩

theorem Wrote.put {F : Nat → Nat → Value} {w wr : World} {B g m cap n : Nat} {b c : Nat → Nat} {k j : Nat} (h : Wrote F w wr B g m b c k j) (hl : Lies w B g m cap n b c) (hk : k < m) (hj : j < c k) {V : Value} (hV : V = F k j) :
    Wrote F w (wr.setCell ⟨b k, j, none⟩ V) B g m b c k (j + 1) := by
  refine ⟨h.below.setCell (p := ⟨b k, j, none⟩) (hl.bB k hk) _, ?_, fun i hi => ?_⟩
  · rw [Below.heap_setCell _ ⟨b k, j, none⟩ _ g (fun e => hl.bg k hk e.symm)]; exact h.gsame
  · obtain ⟨cur, h1, h2, h3⟩ := h.rows i hi
    by_cases e : i = k
    · subst e
      refine ⟨_, h1.set j V, by simp [h2], fun x hx hor => ?_⟩
      rw [Array.getElem?_setIfInBounds]
      by_cases ex : j = x
      · subst ex; simp [h2, hj, hV]
      · rw [if_neg ex]; exact h3 x hx (by omega)
    · exact ⟨cur, h1.other (a := ⟨b k, j, none⟩) (hl.apart i k hi hk e) _, h2, fun x hx hor => h3 x hx (by omega)⟩

theorem Wrote.next {F : Nat → Nat → Value} {w wr : World} {B g m : Nat} {b c : Nat → Nat} {k j : Nat} (h : Wrote F w wr B g m b c k j) (hj : k < m → c k ≤ j) : Wrote F w wr B g m b c (k + 1) 0 :=
  ⟨h.below, h.gsame, fun i hi => by
    obtain ⟨cur, h1, h2, h3⟩ := h.rows i hi
    exact ⟨cur, h1, h2, fun x hx hor => h3 x hx (by
      rcases hor with h' | h'
      · by_cases e : i = k
        · subst e; right; exact ⟨rfl, by have := hj hi; omega⟩
        · left; omega
      · omega)⟩⟩

theorem Wrote.drew {F : Nat → Nat → Value} {w wr : World} {B g m : Nat} {b c : Nat → Nat} {k j : Nat} (h : Wrote F w wr B g m b c k j) : Wrote F w wr.drew B g m b c k j := ⟨h.below.drew, h.gsame, h.rows⟩

theorem Wrote.gcell {F : Nat → Nat → Value} {w wr : World} {B g m : Nat} {b c : Nat → Nat} {k j : Nat} (h : Wrote F w wr B g m b c k j) (i : Nat) : wr.cell? ⟨g, i, none⟩ = w.cell? ⟨g, i, none⟩ :=
  World.cell?_of_block h.gsame

theorem slice26f (w : World) (a : Option Addr) (m cap : Nat) :
    (Instr.slice 33 (.slice a m cap) none (some (.int .i64 cap)) none).run Tryz.prog w = .ok (.slice a cap cap) w := by
  obtain ⟨i, hi, hzz⟩ := Option.map_eq_some_iff.1 Tryz.info23
  simp only [Prod.mk.injEq] at hzz
  have := run_slice_h w 33 a m cap (P := Tryz.prog) (by kernel_rfl) .i64 cap (by omega) (by omega)
  rw [this]
  have he : Tryz.prog.elem 33 = 23 := by kernel_rfl
  simp [he, sizeOf, typeInfo, hi, hzz, Result.andThen, sliced]
  intro hc
  cases a <;> simp [Addr.add]

theorem slice22f (w : World) (a : Option Addr) (m cap : Nat) :
    (Instr.slice 23 (.slice a m cap) none (some (.int .i64 cap)) none).run Tryz.prog w = .ok (.slice a cap cap) w := by
  obtain ⟨i, hi, hzz⟩ := Option.map_eq_some_iff.1 Tryz.info3
  simp only [Prod.mk.injEq] at hzz
  have := run_slice_h w 23 a m cap (P := Tryz.prog) (by kernel_rfl) .i64 cap (by omega) (by omega)
  rw [this]
  have he : Tryz.prog.elem 23 = 3 := by kernel_rfl
  simp [he, sizeOf, typeInfo, hi, hzz, Result.andThen, sliced]
  intro hc
  cases a <;> simp [Addr.add]

set_option maxRecDepth 100000 in
set_option maxHeartbeats 4000000 in
theorem owned_lies (w : World) (B g m cap n : Nat) (b c : Nat → Nat) (hL : Lies w B g m cap n b c) :
    Calls Tryz.prog 16 #[.slice (some ⟨g, 0, none⟩) m cap] w fun e w' => e = .returned (.bool true) ∧ Below B w w' := by
  have HL : Hid (Lies w B g m cap n b c) := hL
  have hs26 := slice26f
  have hs22 := slice22f
  have hcM := hL.capM
  unfold maxLen at hcM
  clear hL
  go_enter Tryz.func16, Tryz.ntmps16
  go_wp2
  go_loopg [4, 5, 6] (cap) (fun mm i u5 u6 wr => ∃ k : Nat, i = .int .i64 k ∧ k + mm = cap ∧ Wrote FF w wr B g m b c k 0)
  case atStart => exact ⟨0, rfl, by omega, Wrote.start HL.out⟩
  case round =>
    obtain ⟨k, rfl, hk, hW⟩ := hrel
    have HW := hide1 hW
    by_cases hlt : k < cap
    · have hlt' : (k : Int) < (cap : Int) := by omega
      obtain ⟨g0, hg0⟩ : ∃ g0, g0 = gk := ⟨_, rfl⟩
      by_cases hkm : k < m
      · have hc := (hW.gcell k).trans (HL.out.row k hkm)
        have HKM := hide1 hkm
        have hck : c k ≤ 2 ^ 63 - 1 := HL.out.cM k hkm
        clear hW hkm
        generalize hbk : b k = bk at *
        generalize hcc : c k = ck at *
        have HBK := hide1 hbk
        have HCK := hide1 hcc
        clear hbk hcc
        go_wp2
        go_region
        go_wp2
        go_loopg [6] (ck) (fun mm j wy => ∃ jj : Nat, j = .int .i64 jj ∧ jj + mm = ck ∧ Wrote FF w wy B g m b c k jj)
        case atStart => exact ⟨0, rfl, by omega, HW.out.drew⟩
        case round =>
        obtain ⟨jj, rfl, hj, hW2⟩ := hrel
        have HW2 := hide1 hW2
        by_cases hjl : jj < ck
        · obtain ⟨cur, q1, q2, q3⟩ := hW2.rows k HKM.out
          rw [HBK.out] at q1
          rw [HCK.out] at q2
          have hfr := q1.frozen jj
          obtain ⟨old, hold⟩ : ∃ old, wr.cell? ⟨bk, jj, none⟩ = some old := ⟨cur[jj]'(by omega), by rw [q1.cell jj]; simp [q2, hjl]⟩
          have hjl' : (jj : Int) < (ck : Int) := by omega
          clear q1 q2 q3 hW2
          go_wp2
          go_roundg (gk - 1)
          case measure => omega
          case rel =>
            refine ⟨jj + 1, by go_num, by omega, ?_⟩
            have := HW2.out.put HL.out HKM.out (by rw [HCK.out]; exact hjl) (V := FF k jj) rfl
            rw [HBK.out] at this
            exact this
        · have hd2 : decide ((jj : Int) < (ck : Int)) = false := by simp; omega
          have hje : jj = ck := by omega
          have HJE := hide1 hje
          clear hje hW2
          go_wp2
          go_roundg (g0 - 1)
          case measure => omega
          case rel => exact ⟨k + 1, by go_num, by omega, HW2.out.next (fun _ => by rw [HCK.out, HJE.out]; exact Nat.le_refl _)⟩
      · have hc := (hW.gcell k).trans (HL.out.spare k (by omega) hlt)
        have HKM := hide1 hkm
        clear hW hkm
        go_wp2
        go_region
        go_wp2
        refine wp_loop_rounds 1 ?_
        rw [rounds_succ]
        go_wp2
        go_roundg (g0 - 1)
        case measure => omega
        case rel => exact ⟨k + 1, by go_num, by omega, (HW.out.next (fun h => absurd h HKM.out)).drew⟩
    · have hd : decide ((k : Int) < (cap : Int)) = false := by simp; omega
      have hke : k = cap := by omega
      have HKE := hide1 hke
      clear hke hW hk
      go_wp2
      go_loopg [7, 8, 9] (cap) (fun mm i u8 u9 wx => ∃ q : Nat, i = .int .i64 q ∧ q + mm = cap ∧ Wrote FF w wx B g m b c k 0)
      case atStart => exact ⟨0, rfl, by omega, HW.out⟩
      case round =>
      clear HW
      obtain ⟨q, rfl, hq, hW⟩ := hrel
      have HW := hide1 hW
      by_cases hlt : q < cap
      · have hlt' : (q : Int) < (cap : Int) := by omega
        obtain ⟨g0, hg0⟩ : ∃ g0, g0 = gk := ⟨_, rfl⟩
        by_cases hkm : q < m
        · have hc := (hW.gcell q).trans (HL.out.row q hkm)
          have HKM := hide1 hkm
          have hck : c q ≤ 2 ^ 63 - 1 := HL.out.cM q hkm
          clear hW hkm
          generalize hbk : b q = bk at *
          generalize hcc : c q = ck at *
          have HBK := hide1 hbk
          have HCK := hide1 hcc
          clear hbk hcc
          go_wp2
          go_region
          go_wp2
          go_loopg [9] (ck) (fun mm j wy => ∃ jj : Nat, j = .int .i64 jj ∧ jj + mm = ck ∧ Wrote FF w wy B g m b c k 0)
          case atStart => exact ⟨0, rfl, by omega, HW.out.drew⟩
          case round =>
          obtain ⟨jj, rfl, hj, hW2⟩ := hrel
          have HW2 := hide1 hW2
          by_cases hjl : jj < ck
          · obtain ⟨cur, q1, q2, q3⟩ := hW2.rows q HKM.out
            rw [HBK.out] at q1
            have hold : wr.cell? ⟨bk, jj, none⟩ = some (FF q jj) := by
              rw [q1.cell jj]; exact q3 jj (by rw [HCK.out]; exact hjl) (Or.inl (by have := HKE.out; omega))
            have hjl' : (jj : Int) < (ck : Int) := by omega
            unfold FF at hold
            clear q1 q2 q3 hW2
            go_wp2
            go_roundg (gk - 1)
            case measure => omega
            case rel => exact ⟨jj + 1, by go_num, by omega, HW2.out⟩
          · have hd2 : decide ((jj : Int) < (ck : Int)) = false := by simp; omega
            clear hW2
            go_wp2
            go_roundg (g0 - 1)
            case measure => omega
            case rel => exact ⟨q + 1, by go_num, by omega, HW2.out⟩
        · have hc := (hW.gcell q).trans (HL.out.spare q (by omega) hlt)
          clear hW hkm
          go_wp2
          go_region
          go_wp2
          refine wp_loop_rounds 1 ?_
          rw [rounds_succ]
          go_wp2
          go_roundg (g0 - 1)
          case measure => omega
          case rel => exact ⟨q + 1, by go_num, by omega, HW.out.drew⟩
      · have hd3 : decide ((q : Int) < (cap : Int)) = false := by simp; omega
        clear hW hq
        go_wp2
        go_ret
        exact ⟨rfl, HW.out.below⟩

set_option maxRecDepth 100000 in
set_option maxHeartbeats 4000000 in
theorem owned_nil (w : World) : Calls Tryz.prog 16 #[.slice none 0 0] w fun e w' => e = .returned (.bool true) ∧ Below w.heap.size w w' := by
  have hs26 := slice26f w none 0 0
  go_enter Tryz.func16, Tryz.ntmps16
  go_wp2
  refine wp_loop_rounds 1 ?_
  rw [rounds_succ]
  go_wp2
  refine wp_loop_rounds 1 ?_
  rw [rounds_succ]
  go_wp2
  go_ret
  exact ⟨rfl, Below.refl _ _⟩

theorem owned_any {w : World} {B : Nat} {v : Value} {vs : List Value} {zss : List (List Int)} {n : Nat} (h : RowsOwn w B v vs zss n) (hn : 0 < n) (hB : B ≤ w.heap.size) :
    Calls Tryz.prog 16 #[v] w fun e w' => e = .returned (.bool true) ∧ Below B w w' := by
  rcases h.lies hn with rfl | ⟨g, cap, rfl, hL⟩
  · exact (owned_nil w).mono fun e w' ⟨h1, h2⟩ => ⟨h1, h2.mono hB⟩
  · exact owned_lies w B g _ cap n _ _ hL

end Go.Proofs.YtmlcblnndihjoaaGreat
