import Derived.Test.YtmlcblnndihjoaaGreatTabA
set_option linter.unusedSimpArgs false
set_option linter.unusedVariables false
namespace Go.Proofs.YtmlcblnndihjoaaGreat
open Go.RowKit

/-- the vectors that were handed over -/
def tabRow (cells cuts : List Int) (i : Nat) : List Int := (cells.drop (posC cells.length cuts i)).take (stepC cells.length (posC cells.length cuts i) (cuts.getD i 0))
def tabRows (cells cuts : List Int) : List (List Int) := (List.range cuts.length).map (tabRow cells cuts)

theorem stepC_le (L a : Nat) (k : Int) : stepC L a k ≤ L - a := by unfold stepC; split <;> omega

theorem tabRow_length (cells cuts : List Int) (i : Nat) : (tabRow cells cuts i).length = stepC cells.length (posC cells.length cuts i) (cuts.getD i 0) := by
  have := stepC_le cells.length (posC cells.length cuts i) (cuts.getD i 0)
  rw [tabRow, List.length_take, List.length_drop]; omega

theorem tabRow_getD (cells cuts : List Int) (i j : Nat) (hj : j < (tabRow cells cuts i).length) : (tabRow cells cuts i).getD j 0 = cells.getD (posC cells.length cuts i + j) 0 := by
  rw [tabRow_length] at hj
  rw [tabRow, List.getD_eq_getElem?_getD, List.getElem?_take, if_pos hj, List.getElem?_drop, List.getD_eq_getElem?_getD]

theorem Tab.below {w w' : World} {B p o l x : Nat} {cells cuts : List Int} (h : Tab w B p o l x cells cuts) {C : Nat} (hb : Below C w w') (hC : p < C ∧ o < C ∧ l < C ∧ x < C) : Tab w' B p o l x cells cuts :=
  ⟨h.tp.below hb hC.1, h.own.below hb hC.2.1, h.all.below hb hC.2.2.1, h.ext.below hb hC.2.2.2, h.pB, h.oB, h.lB, h.xB⟩

theorem Tab.lts {w : World} {B p o l x : Nat} {cells cuts : List Int} (h : Tab w B p o l x cells cuts) : p < w.heap.size ∧ o < w.heap.size ∧ l < w.heap.size ∧ x < w.heap.size :=
  ⟨h.tp.lt, h.own.lt, h.all.lt, h.ext.lt⟩

theorem Tab.ownCell {w : World} {B p o l x : Nat} {cells cuts : List Int} (h : Tab w B p o l x cells cuts) {i : Nat} (hi : i < cells.length) : w.cell? ⟨o, i, none⟩ = some (.int .i64 (cells.getD i 0)) := by
  rw [h.own.cell i]; simp [hi, List.getD_eq_getElem?_getD]

theorem Tab.allCell {w : World} {B p o l x : Nat} {cells cuts : List Int} (h : Tab w B p o l x cells cuts) {i : Nat} (hi : i < cuts.length) : w.cell? ⟨l, i, none⟩ = some (valC o cells.length cuts i) := by
  rw [h.all.cell i]
  have : i ≠ cuts.length := by omega
  simp [Nat.lt_succ_of_lt hi, this]

theorem Tab.endCell {w : World} {B p o l x : Nat} {cells cuts : List Int} (h : Tab w B p o l x cells cuts) : w.cell? ⟨l, cuts.length, none⟩ = some (.slice (some ⟨x, 0, none⟩) 1 1) := by
  rw [h.all.cell]; simp

/-- what a vector's value is -/
theorem valC_slice (o L : Nat) (cuts : List Int) (i : Nat) : ∃ a c, valC o L cuts i = .slice a (stepC L (posC L cuts i) (cuts.getD i 0)) c ∧ (cuts.getD i 0 < 0 → a = none ∧ c = 0) ∧ (¬ cuts.getD i 0 < 0 → 0 < stepC L (posC L cuts i) (cuts.getD i 0) → a = some ⟨o, posC L cuts i, none⟩) := by
  have hs := stepC_le L (posC L cuts i) (cuts.getD i 0)
  unfold valC
  by_cases h : cuts.getD i 0 < 0
  · rw [if_pos h]
    exact ⟨none, 0, by simp only [stepC, if_pos h], fun _ => ⟨rfl, rfl⟩, fun h' => absurd h h'⟩
  · rw [if_neg h]
    unfold sliced
    refine ⟨(if L = posC L cuts i then some ⟨o, 0, none⟩ else Option.map (fun x => Addr.add x (posC L cuts i * 1)) (some ⟨o, 0, none⟩)), L - posC L cuts i, ?_, fun h' => absurd h' h, fun _ h0 => ?_⟩
    · rw [Nat.add_sub_cancel_left]
    · have hp := posC_le L cuts i
      rw [if_neg (by omega)]
      simp [addr_add0]

theorem Tab.rowsAt {w : World} {B p o l x : Nat} {cells cuts : List Int} (h : Tab w B p o l x cells cuts) : RowsAt w (.slice (some ⟨l, 0, none⟩) cuts.length (cuts.length + 1)) (tabRows cells cuts) := by
  have hlen : (tabRows cells cuts).length = cuts.length := by simp [tabRows]
  by_cases h0 : cuts.length = 0
  · have : tabRows cells cuts = [] := List.length_eq_zero_iff.1 (by omega)
    exact Or.inl ⟨this, _, _, by rw [h0]⟩
  · refine Or.inr ⟨by omega, l, 0, _, by rw [hlen], fun i hi => ?_⟩
    rw [hlen] at hi
    refine ⟨_, by rw [Nat.zero_add]; exact h.allCell hi, ?_⟩
    have hr : (tabRows cells cuts).getD i [] = tabRow cells cuts i := by
      simp [tabRows, List.getD_eq_getElem?_getD, hi]
    rw [hr]
    have hL := tabRow_length cells cuts i
    obtain ⟨a, c, e, h1, h2⟩ := valC_slice o cells.length cuts i
    rw [e]
    by_cases hz : stepC cells.length (posC cells.length cuts i) (cuts.getD i 0) = 0
    · exact Or.inl ⟨List.length_eq_zero_iff.1 (by omega), a, c, by rw [hz]⟩
    · have hn : ¬ cuts.getD i 0 < 0 := fun hh => hz (by simp only [stepC, if_pos hh])
      have ha := h2 hn (by omega)
      refine Or.inr ⟨by omega, o, posC cells.length cuts i, c, by rw [hL, ha], fun j hj => ?_⟩
      have := stepC_le cells.length (posC cells.length cuts i) (cuts.getD i 0)
      have hp := posC_le cells.length cuts i
      rw [tabRow_getD cells cuts i j hj]
      exact h.ownCell (by omega)

set_option maxHeartbeats 1000000 in
theorem trows_any (w : World) (B p o l x : Nat) (cells cuts : List Int) (h : Tab w B p o l x cells cuts) (hc : cuts.length ≤ 1073741824) :
    Calls Tryz.prog 12 #[.pointer (some ⟨p, 0, none⟩)] w fun e w' => e = .returned (.slice (some ⟨l, 0, none⟩) cuts.length (cuts.length + 1)) ∧ Below w.heap.size w w' := by
  obtain ⟨c0, c1, c2⟩ := h.tp.three
  clear h
  generalize cuts.length = n at *
  have hn : (n : Int) ≤ (n : Int) + 1 := by omega
  have hn0 : (0 : Int) ≤ (n : Int) := by omega
  go_enter Tryz.func12, Tryz.ntmps12
  go_wp2
  go_region
  go_wp2
  go_ret
  exact ⟨rfl, Below.drew (Below.refl _ _)⟩


theorem tne22n (w : World) : (binOp .neq 23 (.slice none 0 0) (.slice none 0 0)).run Tryz.prog w = .ok (.bool false) w := run_neq_slice_nil w _ _ none _ _ Tryz.underlying23

set_option maxRecDepth 100000 in
set_option maxHeartbeats 4000000 in
theorem whole_any (w : World) (B p o l x : Nat) (u v : Value) (cells cuts : List Int) (h : Tab w B p o l x cells cuts) (hu : IntsAt w u cells) (hv : IntsAt w v cuts) (h1 : cells.length ≤ 1073741824) (h2 : cuts.length ≤ 1073741824) :
    Calls Tryz.prog 19 #[.pointer (some ⟨p, 0, none⟩), u, v] w fun e w' => e = .returned (.bool true) ∧ Below w.heap.size w w' := by
  have HT := hide0 h
  have HU := hide0 hu
  have HV := hide0 hv
  obtain ⟨a, c, rfl⟩ := hu.slice
  obtain ⟨b, d, rfl⟩ := hv.slice
  clear hu hv h
  generalize hm : cells.length = L at *
  generalize hn : cuts.length = n at *
  have HM := hide0 hm
  have HN := hide0 hn
  have hne := tne22n
  clear hm hn
  go_enter Tryz.func19, Tryz.ntmps19
  go_wp2
  go_loopg [8] (L) (fun mm i wr => ∃ k : Nat, i = .int .i64 k ∧ k + mm = L ∧ Below w.heap.size w wr)
  case atStart => exact ⟨0, rfl, by omega, Below.refl _ _⟩
  case round =>
    obtain ⟨k, rfl, hk, hB⟩ := hrel
    have HB := hide0 hB
    have ht := HT.out.below hB HT.out.lts
    obtain ⟨t0, t1, t2⟩ := ht.tp.three
    rw [HM.out] at t0
    rw [HN.out] at t1 t2
    clear hB
    by_cases hlt : k < L
    · have co := ht.ownCell (i := k) (by rw [HM.out]; exact hlt)
      obtain ⟨bb, bo, rfl, hc⟩ := (HU.out.below HB.out).cellAt (i := k) (by rw [HM.out]; exact hlt)
      have hlt' : (k : Int) < (L : Int) := by omega
      clear ht
      generalize cells.getD k 0 = z at *
      go_wp2
      go_region
      go_wp2
      go_roundg (gk - 1)
      case measure => omega
      case rel => exact ⟨k + 1, by go_num, by omega, HB.out.drew⟩
    · have hkn : k = L := by omega
      have hd : decide ((k : Int) < (L : Int)) = false := by simp; omega
      clear ht t0 t1 t2 hkn hk
      go_wp2
      go_loopg [7, 9, 10, 11] (n) (fun mm at' i u10 u11 wr => ∃ k : Nat, i = .int .i64 k ∧ k + mm = n ∧ at' = .int .i64 (posC L cuts k) ∧ Below w.heap.size w wr)
      case atStart => exact ⟨0, rfl, by omega, rfl, HB.out⟩
      case round =>
      clear HB
      obtain ⟨k, rfl, hk, rfl, hB⟩ := hrel
      have HB := hide0 hB
      have ht := HT.out.below hB HT.out.lts
      obtain ⟨t0, t1, t2⟩ := ht.tp.three
      rw [HM.out] at t0
      rw [HN.out] at t1 t2
      have HP : Hid (posC L cuts (k + 1) = posC L cuts k + stepC L (posC L cuts k) (cuts.getD k 0)) := rfl
      have hpk := posC_le L cuts k
      clear hB
      by_cases hlt : k < n
      · have cl := ht.allCell (i := k) (by rw [HN.out]; exact hlt)
        rw [HM.out] at cl
        obtain ⟨bb, bo, rfl, hc⟩ := (HV.out.below HB.out).cellAt (i := k) (by rw [HN.out]; exact hlt)
        have hlt' : (k : Int) < (n : Int) := by omega
        have hlt1 : (k : Int) < (n : Int) + 1 := by omega
        clear ht
        generalize hz : cuts.getD k 0 = z at *
        generalize hq : posC L cuts k = q at *
        have HZ := hide0 hz
        have HQ := hide0 hq
        clear hz hq
        by_cases hneg : z < 0
        · have ev : valC o L cuts k = .slice none 0 0 := by unfold valC; rw [HZ.out, if_pos hneg]
          rw [ev] at cl
          clear ev
          go_wp2
          go_roundg (gk - 1)
          case measure => omega
          case rel =>
            refine ⟨k + 1, by go_num, by omega, ?_, HB.out⟩
            rw [HP.out]; simp [stepC, hneg]
        · by_cases hgt : z > (L : Int) - q
          · obtain ⟨s, hs⟩ : ∃ s : Nat, (L : Int) - q = s := ⟨L - q, by omega⟩
            have hz0 : (0 : Int) ≤ z := by omega
            have hstep : stepC L q z = s := by simp only [stepC, if_neg hneg]; omega
            have hval : ∃ a c, valC o L cuts k = .slice a s c ∧ (0 < s → a = some ⟨o, q, none⟩) := by
              obtain ⟨a, c, e, _, e2⟩ := valC_slice o L cuts k
              rw [HZ.out, HQ.out, hstep] at e e2
              exact ⟨a, c, e, fun h0 => e2 hneg h0⟩
            obtain ⟨va, vc, ev, hva⟩ := hval
            rw [ev] at cl
            have HVA := hide0 hva
            have HST := hide0 hstep
            have HNG := hide0 hneg
            have HEV := hide0 ev
            clear hva hstep ev
            obtain ⟨g0, hg0⟩ : ∃ g0, g0 = gk := ⟨_, rfl⟩
            go_wp2
            go_loopg [11] (s) (fun mm j wy => ∃ jj : Nat, j = .int .i64 jj ∧ jj + mm = s ∧ Below w.heap.size w wy)
            case atStart => exact ⟨0, rfl, by omega, HB.out⟩
            case round =>
            obtain ⟨jj, rfl, hj, hB⟩ := hrel
            rename_i wy
            clear HB t0 t1 t2 cl
            have HB := hide0 hB
            have ht := HT.out.below hB HT.out.lts
            obtain ⟨t0, t1, t2⟩ := ht.tp.three
            rw [HM.out] at t0
            rw [HN.out] at t1 t2
            clear hB
            by_cases hjl : jj < s
            · have eva := HVA.out (by omega)
              subst eva
              have cl := ht.allCell (i := k) (by rw [HN.out]; exact hlt)
              rw [HM.out, HEV.out] at cl
              have co := ht.ownCell (i := q + jj) (by rw [HM.out]; omega)
              obtain ⟨cb, co', rfl, hc'⟩ := (HU.out.below HB.out).cellAt (i := q + jj) (by rw [HM.out]; omega)
              have hjl' : (jj : Int) < (s : Int) := by omega
              have hql : (q : Int) + (jj : Int) < (L : Int) := by omega
              clear ht
              generalize cells.getD (q + jj) 0 = zz at *
              go_wp2
              go_region
              go_wp2
              go_roundg (gk - 1)
              case measure => omega
              case rel => exact ⟨jj + 1, by go_num, by omega, HB.out.drew⟩
            · have hd2 : decide ((jj : Int) < (s : Int)) = false := by simp; omega
              clear ht t0 t1 t2
              go_wp2
              go_roundg (g0 - 1)
              case measure => omega
              case rel =>
                refine ⟨k + 1, by go_num, by omega, ?_, HB.out⟩
                rw [HP.out, HST.out]; simp
          · obtain ⟨s, rfl⟩ : ∃ s : Nat, z = s := ⟨z.toNat, by omega⟩
            have hz0 : (0 : Int) ≤ (s : Int) := by omega
            have hstep : stepC L q (s : Int) = s := by simp only [stepC, if_neg hneg]; omega
            have hval : ∃ a c, valC o L cuts k = .slice a s c ∧ (0 < s → a = some ⟨o, q, none⟩) := by
              obtain ⟨a, c, e, _, e2⟩ := valC_slice o L cuts k
              rw [HZ.out, HQ.out, hstep] at e e2
              exact ⟨a, c, e, fun h0 => e2 hneg h0⟩
            obtain ⟨va, vc, ev, hva⟩ := hval
            rw [ev] at cl
            have HVA := hide0 hva
            have HST := hide0 hstep
            have HNG := hide0 hneg
            have HEV := hide0 ev
            clear hva hstep ev
            obtain ⟨g0, hg0⟩ : ∃ g0, g0 = gk := ⟨_, rfl⟩
            go_wp2
            go_loopg [11] (s) (fun mm j wy => ∃ jj : Nat, j = .int .i64 jj ∧ jj + mm = s ∧ Below w.heap.size w wy)
            case atStart => exact ⟨0, rfl, by omega, HB.out⟩
            case round =>
            obtain ⟨jj, rfl, hj, hB⟩ := hrel
            rename_i wy
            clear HB t0 t1 t2 cl
            have HB := hide0 hB
            have ht := HT.out.below hB HT.out.lts
            obtain ⟨t0, t1, t2⟩ := ht.tp.three
            rw [HM.out] at t0
            rw [HN.out] at t1 t2
            clear hB
            by_cases hjl : jj < s
            · have eva := HVA.out (by omega)
              subst eva
              have cl := ht.allCell (i := k) (by rw [HN.out]; exact hlt)
              rw [HM.out, HEV.out] at cl
              have co := ht.ownCell (i := q + jj) (by rw [HM.out]; omega)
              obtain ⟨cb, co', rfl, hc'⟩ := (HU.out.below HB.out).cellAt (i := q + jj) (by rw [HM.out]; omega)
              have hjl' : (jj : Int) < (s : Int) := by omega
              have hql : (q : Int) + (jj : Int) < (L : Int) := by omega
              clear ht
              generalize cells.getD (q + jj) 0 = zz at *
              go_wp2
              go_region
              go_wp2
              go_roundg (gk - 1)
              case measure => omega
              case rel => exact ⟨jj + 1, by go_num, by omega, HB.out.drew⟩
            · have hd2 : decide ((jj : Int) < (s : Int)) = false := by simp; omega
              clear ht t0 t1 t2
              go_wp2
              go_roundg (g0 - 1)
              case measure => omega
              case rel =>
                refine ⟨k + 1, by go_num, by omega, ?_, HB.out⟩
                rw [HP.out, HST.out]; simp
      · have hkn : k = n := by omega
        have hd : decide ((k : Int) < (n : Int)) = false := by simp; omega
        have ce := ht.endCell
        rw [HN.out] at ce
        have cx := ht.ext.cell 0
        simp at cx
        clear ht hkn hk
        go_wp2
        go_region
        go_wp2
        go_ret
        exact ⟨rfl, HB.out.drew⟩
end Go.Proofs.YtmlcblnndihjoaaGreat
