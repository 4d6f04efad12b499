import Derived.Test.YtmlcblnndihjoaaGreatRefH
import Derived.Deep.AppendLies
set_option linter.unusedSimpArgs false
set_option linter.unusedVariables false
namespace Go.Proofs.YtmlcblnndihjoaaGreat
open Go.RowKit

theorem ne22s (w : World) (a : Addr) (m c : Nat) : (binOp .neq 23 (.slice (some a) m c) (.slice none 0 0)).run Tryz.prog w = .ok (.bool true) w := run_neq_slice_nil w _ _ (some a) _ _ Tryz.underlying23
theorem ne22n (w : World) : (binOp .neq 23 (.slice none 0 0) (.slice none 0 0)).run Tryz.prog w = .ok (.bool false) w := run_neq_slice_nil w _ _ none _ _ Tryz.underlying23

/-- the row of column d, if there is one -/
def pr (n : Nat) (xs : Nat → Value) (S : Lat.St) (d : Nat) : List (Value × List Int) := if (rw3 S d).at d = 0 then [] else [(xs d, cutV n (rw3 S d))]
def prs (n : Nat) (xs : Nat → Value) (S : Lat.St) : Nat → List (Value × List Int)
  | 0 => []
  | c + 1 => prs n xs S c ++ pr n xs S c

theorem prs_len (n : Nat) (xs : Nat → Value) (S : Lat.St) : ∀ c, (prs n xs S c).length ≤ c
  | 0 => by simp [prs]
  | c + 1 => by
    have := prs_len n xs S c
    simp only [prs, List.length_append]
    unfold pr; split <;> simp <;> omega

theorem prs_mem {n : Nat} {xs : Nat → Value} {S : Lat.St} {p : Value × List Int} : ∀ {c}, p ∈ prs n xs S c → ∃ d, d < c ∧ (rw3 S d).at d ≠ 0 ∧ p = (xs d, cutV n (rw3 S d))
  | 0, h => by simp [prs] at h
  | c + 1, h => by
    simp only [prs, List.mem_append] at h
    rcases h with h | h
    · obtain ⟨d, h1, h2⟩ := prs_mem h; exact ⟨d, by omega, h2⟩
    · unfold pr at h
      split at h
      · simp at h
      · next hz => simp at h; exact ⟨c, by omega, hz, h⟩

theorem rowsAt_pairs {w : World} {B : Nat} {u : Value} (L : List (Value × List Int)) (h : w.ownsRow B 23 1 u L.length (L.map (·.1))) (hi : ∀ p ∈ L, IntsAt w p.1 p.2) : RowsAt w u (L.map (·.2)) := by
  by_cases h0 : 0 < L.length
  · obtain ⟨g, cap, hv, _, hc⟩ := ownsRow_cell h h0
    refine Or.inr ⟨by simpa using h0, g, 0, cap, by simpa using hv, fun i hi' => ?_⟩
    rw [List.length_map] at hi'
    refine ⟨L[i].1, ?_, ?_⟩
    · rw [Nat.zero_add, hc i hi', List.getElem?_map, List.getElem?_eq_getElem hi']; rfl
    · have := hi L[i] (List.getElem_mem hi')
      rw [List.getD_eq_getElem?_getD, List.getElem?_map, List.getElem?_eq_getElem hi']; exact this
  · have e : L = [] := List.length_eq_zero_iff.1 (by omega)
    subst e
    rcases h.2 with ⟨h1, h2⟩ | ⟨g, cap, cur, h1, _⟩
    · exact Or.inl ⟨rfl, none, 0, by rw [h1]⟩
    · exact Or.inl ⟨rfl, _, cap, h1⟩

theorem intsAt_blk {w : World} {b n : Nat} {v : Lat.V} (h0 : 0 < n) (h3 : n ≤ 3) (h : Blk w b ((cutV n v).map (Value.int .i64)).toArray 3) : IntsAt w (.slice (some ⟨b, 0, none⟩) n n) (cutV n v) := by
  have hl := cutV_length v h3
  refine Or.inr ⟨by omega, b, 0, n, by rw [hl], fun i hi => ?_⟩
  rw [Nat.zero_add, h.cell i, List.getD_eq_getElem?_getD]
  simp [List.getElem?_eq_getElem hi]

theorem ownsRow_fresh {w w9 : World} {B base : Nat} {e : TypeId} {size : Nat} {v : Value} {n : Nat} {xs : List Value} (h : w.ownsRow base e size v n xs) (hB : B ≤ base) (k : ∀ b, B ≤ b → b < w.heap.size → w9.heap[b]? = w.heap[b]?) : w9.ownsRow base e size v n xs := by
  refine ⟨h.1, ?_⟩
  rcases h.2 with q | ⟨g, cap, cur, h1, h2, h3, h4⟩
  · exact Or.inl q
  · exact Or.inr ⟨g, cap, cur, h1, h2, by rw [k g (by omega) (Array.getElem?_eq_some_iff.1 h3).1]; exact h3, h4⟩

/-- what Canon hands back -/
def CanonEnd (n : Nat) (w : World) (zss : List (List Int)) (e : Ending) (w' : World) : Prop :=
  ∃ S out, Lat.CanonOf S (vecs zss) ∧ e = .returned out ∧ Fresh w.heap.size w' (fun w9 => RowsAt w9 out (basisRows n S)) ∧ Below w.heap.size w w'

theorem prs_basis {n : Nat} {xs : Nat → Value} {S : Lat.St} (h0 : 0 < n) (h3 : n ≤ 3) (hs : Lat.Shape S) (hf : Flat n S) : (prs n xs S n).map (·.2) = basisRows n S := by
  have e0 : (pr n xs S 0).map (·.2) = if S.a.x = 0 then [] else [cutV n S.a] := by unfold pr; show List.map _ (if S.a.x = 0 then _ else _) = _; split <;> rfl
  have e1 : (pr n xs S 1).map (·.2) = if S.b.y = 0 then [] else [cutV n S.b] := by unfold pr; show List.map _ (if S.b.y = 0 then _ else _) = _; split <;> rfl
  have e2 : (pr n xs S 2).map (·.2) = if S.c.z = 0 then [] else [cutV n S.c] := by unfold pr; show List.map _ (if S.c.z = 0 then _ else _) = _; split <;> rfl
  unfold basisRows
  have hn : n = 1 ∨ n = 2 ∨ n = 3 := by omega
  rcases hn with rfl | rfl | rfl
  · simp only [prs, List.map_append, e0, (hf.y (by omega)).2, (hf.z (by omega)).2.2]; simp
  · simp only [prs, List.map_append, e0, e1, (hf.z (by omega)).2.2]; simp
  · simp only [prs, List.map_append, e0, e1, e2]; simp


set_option maxRecDepth 100000 in
set_option maxHeartbeats 4000000 in
theorem canon1 (v : Value) (zss : List (List Int)) (w : World) (hv : RowsAt w v zss) (hl : zss.length ≤ 100) (hg : zss.all (goodB 1) = true) :
    Calls Tryz.prog 36 #[.int .i64 1, v] w fun e w' => CanonEnd 1 w zss e w' := by
  have HST : Hid (Calls Tryz.prog 60 #[.int .i64 1, v] w fun e w' => StairsEnd 1 w zss e w') := stairs1 v zss w hv hl hg
  have HFL : Hid (∀ S, Lat.CanonOf S (vecs zss) → Flat 1 S) := fun S hS => flat_of hS (fun zs hz => by
    rw [List.all_eq_true] at hg
    have := (good_le (hg zs hz)).2; omega)
  obtain ⟨i0, hi, hz0, hz1, hz2⟩ := info_parts Tryz.info23
  have HI : Hid (Tryz.prog.info? 23 = some i0 ∧ i0.zero = some (.slice none 0 0) ∧ i0.size = 1 ∧ i0.bytes = 24) := ⟨hi, hz0, hz1, hz2⟩
  have hq1 := ne22s
  have hq2 := ne22n
  clear hi hz0 hz1 hz2 hg hl
  obtain ⟨a, cap, rfl⟩ := hv.slice
  clear hv
  go_enter Tryz.func36, Tryz.ntmps36
  go_wp2_with fail
  refine HST.out.mono ?_
  rintro e w1 ⟨g, xs, bs, S, hC, rfl, hA, hB⟩
  have HC := hide hC
  have HA := hide hA
  have HB := hide hB
  clear hC hA hB
  go_wp2
  have HV0 : Hid (Below w1.heap.size w1 w1 ∧ w1.ownsRow w1.heap.size 23 1 (.slice none 0 0) (prs 1 xs S 0).length ((prs 1 xs S 0).map (·.1))) := ⟨Below.refl _ _, World.ownsRow_nil _ _ _ _⟩
  refine wp_loop_rounds 2 ?_

  rw [rounds_succ]
  go_upto_block 1 with fail
  go_cut [6] (fun u6 wx => Below w1.heap.size w1 wx ∧ wx.ownsRow w1.heap.size 23 1 u6 (prs 1 xs S 1).length ((prs 1 xs S 1).map (·.1)))
  case first =>
    have hrow := HA.out.row 0 (by omega)
    have kg : w1.cell? ⟨g, 0, none⟩ = some (xs 0) := by
      have t : w1.cell? ⟨g, 0, none⟩ = some (xs 0) := by rw [HA.out.blk.cell 0]; simp
      exact cell_below HV0.out.1 t
    rcases hrow with ⟨hx, hR⟩ | ⟨hx, hpos, hblk, hbase, hbg⟩
    · have HN : Hid (prs 1 xs S 1 = prs 1 xs S 0) := by
        show prs 1 xs S 1 = prs 1 xs S 0
        have : pr 1 xs S 0 = [] := by unfold pr; rw [hR]; rfl
        simp only [prs, this, List.append_nil]
      rw [hx] at kg
      unfold nilS at kg
      clear hx hR
      go_wp2
      go_meet
      rw [HN.out]; exact HV0.out
    · have HN : Hid (prs 1 xs S 1 = prs 1 xs S 0 ++ [(.slice (some ⟨(bs 0), 0, none⟩) 1 1, cutV 1 (rw3 S 0))]) := by
        show prs 1 xs S 1 = prs 1 xs S 0 ++ _
        have : pr 1 xs S 0 = [(.slice (some ⟨(bs 0), 0, none⟩) 1 1, cutV 1 (rw3 S 0))] := by unfold pr; rw [if_neg (by omega), hx]
        rw [← this]; rfl
      rw [hx] at kg
      obtain ⟨hi, hz0, hz1, hz2⟩ := HI.out
      have hown := HV0.out.2
      have hsz := HV0.out.1.size
      have hpl := prs_len 1 xs S 0
      clear hx hpos hblk hbase hbg
      go_wp2_with (at_builtin; refine wpList_append_lies _ rfl (.tmp 21) (.tmp 26) 33 rfl w1.heap.size 23 i0 (.slice none 0 0) 1 24 Tryz.underlying33 hi hz0 hz1 hz2 rfl (by decide) _ _ _ rfl (hown.alloc _) ⟨w1.heap.size, 0, none⟩ 1 1 [.slice (some ⟨(bs 0), 0, none⟩) 1 1] rfl rfl (World.news_of_block (cs := #[.slice (some ⟨(bs 0), 0, none⟩) 1 1]) (t := 23) (fr := (0, 0)) (Blk.new _ _ _ rfl)) (by intro u hu; simp at hu; subst hu; rfl) (by omega) (by unfold maxLen; omega) (by omega) (by simp <;> omega) _ rfl ?_; intro g cap1 w2 hown1 hgrow hat hglt)
      go_meet
      refine ⟨?_, ?_⟩
      · exact (HV0.out.1.alloc (by omega) _).grown hgrow (by simp <;> omega) (fun j hj => by have := (hown.lt j hj).1; omega)
      · rw [HN.out, List.length_append, List.map_append]; exact hown1
  case rest =>
  rename World => wr0
  have HV1 := hide hcut
  clear hcut
  go_wp2

  rw [rounds_succ]; go_wp2
  go_ret
  refine ⟨S, _, HC.out, rfl, fun w9 hw9 => ?_, HB.out.trans (HV1.out.1.mono HB.out.size)⟩
  have hF := HFL.out S HC.out
  rw [← prs_basis (xs := xs) (by omega) (by omega) HC.out.shape hF]
  refine rowsAt_pairs _ (ownsRow_fresh HV1.out.2 HB.out.size hw9) (fun p hp => ?_)
  obtain ⟨d, hd, hne, rfl⟩ := prs_mem hp
  rcases HA.out.row d hd with ⟨_, hR⟩ | ⟨hx, hpos, hblk, hbase, hbg⟩
  · exfalso; apply hne; rw [hR]
    have hcs : d = 0 := by omega
    subst hcs <;> rfl
  · show IntsAt _ (xs d) _
    rw [hx]; exact intsAt_blk (by omega) (by omega) (blk_fresh (hblk.below HV1.out.1 hblk.lt) hbase w9 hw9)


set_option maxRecDepth 100000 in
set_option maxHeartbeats 4000000 in
theorem canon2 (v : Value) (zss : List (List Int)) (w : World) (hv : RowsAt w v zss) (hl : zss.length ≤ 100) (hg : zss.all (goodB 2) = true) :
    Calls Tryz.prog 36 #[.int .i64 2, v] w fun e w' => CanonEnd 2 w zss e w' := by
  have HST : Hid (Calls Tryz.prog 60 #[.int .i64 2, v] w fun e w' => StairsEnd 2 w zss e w') := stairs2 v zss w hv hl hg
  have HFL : Hid (∀ S, Lat.CanonOf S (vecs zss) → Flat 2 S) := fun S hS => flat_of hS (fun zs hz => by
    rw [List.all_eq_true] at hg
    have := (good_le (hg zs hz)).2; omega)
  obtain ⟨i0, hi, hz0, hz1, hz2⟩ := info_parts Tryz.info23
  have HI : Hid (Tryz.prog.info? 23 = some i0 ∧ i0.zero = some (.slice none 0 0) ∧ i0.size = 1 ∧ i0.bytes = 24) := ⟨hi, hz0, hz1, hz2⟩
  have hq1 := ne22s
  have hq2 := ne22n
  clear hi hz0 hz1 hz2 hg hl
  obtain ⟨a, cap, rfl⟩ := hv.slice
  clear hv
  go_enter Tryz.func36, Tryz.ntmps36
  go_wp2_with fail
  refine HST.out.mono ?_
  rintro e w1 ⟨g, xs, bs, S, hC, rfl, hA, hB⟩
  have HC := hide hC
  have HA := hide hA
  have HB := hide hB
  clear hC hA hB
  go_wp2
  have HV0 : Hid (Below w1.heap.size w1 w1 ∧ w1.ownsRow w1.heap.size 23 1 (.slice none 0 0) (prs 2 xs S 0).length ((prs 2 xs S 0).map (·.1))) := ⟨Below.refl _ _, World.ownsRow_nil _ _ _ _⟩
  refine wp_loop_rounds 3 ?_

  rw [rounds_succ]
  go_upto_block 1 with fail
  go_cut [6] (fun u6 wx => Below w1.heap.size w1 wx ∧ wx.ownsRow w1.heap.size 23 1 u6 (prs 2 xs S 1).length ((prs 2 xs S 1).map (·.1)))
  case first =>
    have hrow := HA.out.row 0 (by omega)
    have kg : w1.cell? ⟨g, 0, none⟩ = some (xs 0) := by
      have t : w1.cell? ⟨g, 0, none⟩ = some (xs 0) := by rw [HA.out.blk.cell 0]; simp
      exact cell_below HV0.out.1 t
    rcases hrow with ⟨hx, hR⟩ | ⟨hx, hpos, hblk, hbase, hbg⟩
    · have HN : Hid (prs 2 xs S 1 = prs 2 xs S 0) := by
        show prs 2 xs S 1 = prs 2 xs S 0
        have : pr 2 xs S 0 = [] := by unfold pr; rw [hR]; rfl
        simp only [prs, this, List.append_nil]
      rw [hx] at kg
      unfold nilS at kg
      clear hx hR
      go_wp2
      go_meet
      rw [HN.out]; exact HV0.out
    · have HN : Hid (prs 2 xs S 1 = prs 2 xs S 0 ++ [(.slice (some ⟨(bs 0), 0, none⟩) 2 2, cutV 2 (rw3 S 0))]) := by
        show prs 2 xs S 1 = prs 2 xs S 0 ++ _
        have : pr 2 xs S 0 = [(.slice (some ⟨(bs 0), 0, none⟩) 2 2, cutV 2 (rw3 S 0))] := by unfold pr; rw [if_neg (by omega), hx]
        rw [← this]; rfl
      rw [hx] at kg
      obtain ⟨hi, hz0, hz1, hz2⟩ := HI.out
      have hown := HV0.out.2
      have hsz := HV0.out.1.size
      have hpl := prs_len 2 xs S 0
      clear hx hpos hblk hbase hbg
      go_wp2_with (at_builtin; refine wpList_append_lies _ rfl (.tmp 21) (.tmp 26) 33 rfl w1.heap.size 23 i0 (.slice none 0 0) 1 24 Tryz.underlying33 hi hz0 hz1 hz2 rfl (by decide) _ _ _ rfl (hown.alloc _) ⟨w1.heap.size, 0, none⟩ 1 1 [.slice (some ⟨(bs 0), 0, none⟩) 2 2] rfl rfl (World.news_of_block (cs := #[.slice (some ⟨(bs 0), 0, none⟩) 2 2]) (t := 23) (fr := (0, 0)) (Blk.new _ _ _ rfl)) (by intro u hu; simp at hu; subst hu; rfl) (by omega) (by unfold maxLen; omega) (by omega) (by simp <;> omega) _ rfl ?_; intro g cap1 w2 hown1 hgrow hat hglt)
      go_meet
      refine ⟨?_, ?_⟩
      · exact (HV0.out.1.alloc (by omega) _).grown hgrow (by simp <;> omega) (fun j hj => by have := (hown.lt j hj).1; omega)
      · rw [HN.out, List.length_append, List.map_append]; exact hown1
  case rest =>
  rename World => wr0
  have HV1 := hide hcut
  clear hcut
  go_wp2

  rw [rounds_succ]
  go_upto_block 1 with fail
  go_cut [6] (fun u6 wx => Below w1.heap.size w1 wx ∧ wx.ownsRow w1.heap.size 23 1 u6 (prs 2 xs S 2).length ((prs 2 xs S 2).map (·.1)))
  case first =>
    have hrow := HA.out.row 1 (by omega)
    have kg : wr0.cell? ⟨g, 1, none⟩ = some (xs 1) := by
      have t : w1.cell? ⟨g, 1, none⟩ = some (xs 1) := by rw [HA.out.blk.cell 1]; simp
      exact cell_below HV1.out.1 t
    rcases hrow with ⟨hx, hR⟩ | ⟨hx, hpos, hblk, hbase, hbg⟩
    · have HN : Hid (prs 2 xs S 2 = prs 2 xs S 1) := by
        show prs 2 xs S 2 = prs 2 xs S 1
        have : pr 2 xs S 1 = [] := by unfold pr; rw [hR]; rfl
        simp only [prs, this, List.append_nil]
      rw [hx] at kg
      unfold nilS at kg
      clear hx hR
      go_wp2
      go_meet
      rw [HN.out]; exact HV1.out
    · have HN : Hid (prs 2 xs S 2 = prs 2 xs S 1 ++ [(.slice (some ⟨(bs 1), 0, none⟩) 2 2, cutV 2 (rw3 S 1))]) := by
        show prs 2 xs S 2 = prs 2 xs S 1 ++ _
        have : pr 2 xs S 1 = [(.slice (some ⟨(bs 1), 0, none⟩) 2 2, cutV 2 (rw3 S 1))] := by unfold pr; rw [if_neg (by omega), hx]
        rw [← this]; rfl
      rw [hx] at kg
      obtain ⟨hi, hz0, hz1, hz2⟩ := HI.out
      have hown := HV1.out.2
      have hsz := HV1.out.1.size
      have hpl := prs_len 2 xs S 1
      clear hx hpos hblk hbase hbg
      go_wp2_with (at_builtin; refine wpList_append_lies _ rfl (.tmp 21) (.tmp 26) 33 rfl w1.heap.size 23 i0 (.slice none 0 0) 1 24 Tryz.underlying33 hi hz0 hz1 hz2 rfl (by decide) _ _ _ rfl (hown.alloc _) ⟨wr0.heap.size, 0, none⟩ 1 1 [.slice (some ⟨(bs 1), 0, none⟩) 2 2] rfl rfl (World.news_of_block (cs := #[.slice (some ⟨(bs 1), 0, none⟩) 2 2]) (t := 23) (fr := (0, 0)) (Blk.new _ _ _ rfl)) (by intro u hu; simp at hu; subst hu; rfl) (by omega) (by unfold maxLen; omega) (by omega) (by simp <;> omega) _ rfl ?_; intro g cap1 w2 hown1 hgrow hat hglt)
      go_meet
      refine ⟨?_, ?_⟩
      · exact (HV1.out.1.alloc (by omega) _).grown hgrow (by simp <;> omega) (fun j hj => by have := (hown.lt j hj).1; omega)
      · rw [HN.out, List.length_append, List.map_append]; exact hown1
  case rest =>
  rename World => wr1
  have HV2 := hide hcut
  clear hcut
  go_wp2

  rw [rounds_succ]; go_wp2
  go_ret
  refine ⟨S, _, HC.out, rfl, fun w9 hw9 => ?_, HB.out.trans (HV2.out.1.mono HB.out.size)⟩
  have hF := HFL.out S HC.out
  rw [← prs_basis (xs := xs) (by omega) (by omega) HC.out.shape hF]
  refine rowsAt_pairs _ (ownsRow_fresh HV2.out.2 HB.out.size hw9) (fun p hp => ?_)
  obtain ⟨d, hd, hne, rfl⟩ := prs_mem hp
  rcases HA.out.row d hd with ⟨_, hR⟩ | ⟨hx, hpos, hblk, hbase, hbg⟩
  · exfalso; apply hne; rw [hR]
    have hcs : d = 0 ∨ d = 1 := by omega
    rcases hcs with rfl | rfl <;> rfl
  · show IntsAt _ (xs d) _
    rw [hx]; exact intsAt_blk (by omega) (by omega) (blk_fresh (hblk.below HV2.out.1 hblk.lt) hbase w9 hw9)


set_option maxRecDepth 100000 in
set_option maxHeartbeats 4000000 in
theorem canon3 (v : Value) (zss : List (List Int)) (w : World) (hv : RowsAt w v zss) (hl : zss.length ≤ 100) (hg : zss.all (goodB 3) = true) :
    Calls Tryz.prog 36 #[.int .i64 3, v] w fun e w' => CanonEnd 3 w zss e w' := by
  have HST : Hid (Calls Tryz.prog 60 #[.int .i64 3, v] w fun e w' => StairsEnd 3 w zss e w') := stairs3 v zss w hv hl hg
  have HFL : Hid (∀ S, Lat.CanonOf S (vecs zss) → Flat 3 S) := fun S hS => flat_of hS (fun zs hz => by
    rw [List.all_eq_true] at hg
    have := (good_le (hg zs hz)).2; omega)
  obtain ⟨i0, hi, hz0, hz1, hz2⟩ := info_parts Tryz.info23
  have HI : Hid (Tryz.prog.info? 23 = some i0 ∧ i0.zero = some (.slice none 0 0) ∧ i0.size = 1 ∧ i0.bytes = 24) := ⟨hi, hz0, hz1, hz2⟩
  have hq1 := ne22s
  have hq2 := ne22n
  clear hi hz0 hz1 hz2 hg hl
  obtain ⟨a, cap, rfl⟩ := hv.slice
  clear hv
  go_enter Tryz.func36, Tryz.ntmps36
  go_wp2_with fail
  refine HST.out.mono ?_
  rintro e w1 ⟨g, xs, bs, S, hC, rfl, hA, hB⟩
  have HC := hide hC
  have HA := hide hA
  have HB := hide hB
  clear hC hA hB
  go_wp2
  have HV0 : Hid (Below w1.heap.size w1 w1 ∧ w1.ownsRow w1.heap.size 23 1 (.slice none 0 0) (prs 3 xs S 0).length ((prs 3 xs S 0).map (·.1))) := ⟨Below.refl _ _, World.ownsRow_nil _ _ _ _⟩
  refine wp_loop_rounds 4 ?_

  rw [rounds_succ]
  go_upto_block 1 with fail
  go_cut [6] (fun u6 wx => Below w1.heap.size w1 wx ∧ wx.ownsRow w1.heap.size 23 1 u6 (prs 3 xs S 1).length ((prs 3 xs S 1).map (·.1)))
  case first =>
    have hrow := HA.out.row 0 (by omega)
    have kg : w1.cell? ⟨g, 0, none⟩ = some (xs 0) := by
      have t : w1.cell? ⟨g, 0, none⟩ = some (xs 0) := by rw [HA.out.blk.cell 0]; simp
      exact cell_below HV0.out.1 t
    rcases hrow with ⟨hx, hR⟩ | ⟨hx, hpos, hblk, hbase, hbg⟩
    · have HN : Hid (prs 3 xs S 1 = prs 3 xs S 0) := by
        show prs 3 xs S 1 = prs 3 xs S 0
        have : pr 3 xs S 0 = [] := by unfold pr; rw [hR]; rfl
        simp only [prs, this, List.append_nil]
      rw [hx] at kg
      unfold nilS at kg
      clear hx hR
      go_wp2
      go_meet
      rw [HN.out]; exact HV0.out
    · have HN : Hid (prs 3 xs S 1 = prs 3 xs S 0 ++ [(.slice (some ⟨(bs 0), 0, none⟩) 3 3, cutV 3 (rw3 S 0))]) := by
        show prs 3 xs S 1 = prs 3 xs S 0 ++ _
        have : pr 3 xs S 0 = [(.slice (some ⟨(bs 0), 0, none⟩) 3 3, cutV 3 (rw3 S 0))] := by unfold pr; rw [if_neg (by omega), hx]
        rw [← this]; rfl
      rw [hx] at kg
      obtain ⟨hi, hz0, hz1, hz2⟩ := HI.out
      have hown := HV0.out.2
      have hsz := HV0.out.1.size
      have hpl := prs_len 3 xs S 0
      clear hx hpos hblk hbase hbg
      go_wp2_with (at_builtin; refine wpList_append_lies _ rfl (.tmp 21) (.tmp 26) 33 rfl w1.heap.size 23 i0 (.slice none 0 0) 1 24 Tryz.underlying33 hi hz0 hz1 hz2 rfl (by decide) _ _ _ rfl (hown.alloc _) ⟨w1.heap.size, 0, none⟩ 1 1 [.slice (some ⟨(bs 0), 0, none⟩) 3 3] rfl rfl (World.news_of_block (cs := #[.slice (some ⟨(bs 0), 0, none⟩) 3 3]) (t := 23) (fr := (0, 0)) (Blk.new _ _ _ rfl)) (by intro u hu; simp at hu; subst hu; rfl) (by omega) (by unfold maxLen; omega) (by omega) (by simp <;> omega) _ rfl ?_; intro g cap1 w2 hown1 hgrow hat hglt)
      go_meet
      refine ⟨?_, ?_⟩
      · exact (HV0.out.1.alloc (by omega) _).grown hgrow (by simp <;> omega) (fun j hj => by have := (hown.lt j hj).1; omega)
      · rw [HN.out, List.length_append, List.map_append]; exact hown1
  case rest =>
  rename World => wr0
  have HV1 := hide hcut
  clear hcut
  go_wp2

  rw [rounds_succ]
  go_upto_block 1 with fail
  go_cut [6] (fun u6 wx => Below w1.heap.size w1 wx ∧ wx.ownsRow w1.heap.size 23 1 u6 (prs 3 xs S 2).length ((prs 3 xs S 2).map (·.1)))
  case first =>
    have hrow := HA.out.row 1 (by omega)
    have kg : wr0.cell? ⟨g, 1, none⟩ = some (xs 1) := by
      have t : w1.cell? ⟨g, 1, none⟩ = some (xs 1) := by rw [HA.out.blk.cell 1]; simp
      exact cell_below HV1.out.1 t
    rcases hrow with ⟨hx, hR⟩ | ⟨hx, hpos, hblk, hbase, hbg⟩
    · have HN : Hid (prs 3 xs S 2 = prs 3 xs S 1) := by
        show prs 3 xs S 2 = prs 3 xs S 1
        have : pr 3 xs S 1 = [] := by unfold pr; rw [hR]; rfl
        simp only [prs, this, List.append_nil]
      rw [hx] at kg
      unfold nilS at kg
      clear hx hR
      go_wp2
      go_meet
      rw [HN.out]; exact HV1.out
    · have HN : Hid (prs 3 xs S 2 = prs 3 xs S 1 ++ [(.slice (some ⟨(bs 1), 0, none⟩) 3 3, cutV 3 (rw3 S 1))]) := by
        show prs 3 xs S 2 = prs 3 xs S 1 ++ _
        have : pr 3 xs S 1 = [(.slice (some ⟨(bs 1), 0, none⟩) 3 3, cutV 3 (rw3 S 1))] := by unfold pr; rw [if_neg (by omega), hx]
        rw [← this]; rfl
      rw [hx] at kg
      obtain ⟨hi, hz0, hz1, hz2⟩ := HI.out
      have hown := HV1.out.2
      have hsz := HV1.out.1.size
      have hpl := prs_len 3 xs S 1
      clear hx hpos hblk hbase hbg
      go_wp2_with (at_builtin; refine wpList_append_lies _ rfl (.tmp 21) (.tmp 26) 33 rfl w1.heap.size 23 i0 (.slice none 0 0) 1 24 Tryz.underlying33 hi hz0 hz1 hz2 rfl (by decide) _ _ _ rfl (hown.alloc _) ⟨wr0.heap.size, 0, none⟩ 1 1 [.slice (some ⟨(bs 1), 0, none⟩) 3 3] rfl rfl (World.news_of_block (cs := #[.slice (some ⟨(bs 1), 0, none⟩) 3 3]) (t := 23) (fr := (0, 0)) (Blk.new _ _ _ rfl)) (by intro u hu; simp at hu; subst hu; rfl) (by omega) (by unfold maxLen; omega) (by omega) (by simp <;> omega) _ rfl ?_; intro g cap1 w2 hown1 hgrow hat hglt)
      go_meet
      refine ⟨?_, ?_⟩
      · exact (HV1.out.1.alloc (by omega) _).grown hgrow (by simp <;> omega) (fun j hj => by have := (hown.lt j hj).1; omega)
      · rw [HN.out, List.length_append, List.map_append]; exact hown1
  case rest =>
  rename World => wr1
  have HV2 := hide hcut
  clear hcut
  go_wp2

  rw [rounds_succ]
  go_upto_block 1 with fail
  go_cut [6] (fun u6 wx => Below w1.heap.size w1 wx ∧ wx.ownsRow w1.heap.size 23 1 u6 (prs 3 xs S 3).length ((prs 3 xs S 3).map (·.1)))
  case first =>
    have hrow := HA.out.row 2 (by omega)
    have kg : wr1.cell? ⟨g, 2, none⟩ = some (xs 2) := by
      have t : w1.cell? ⟨g, 2, none⟩ = some (xs 2) := by rw [HA.out.blk.cell 2]; simp
      exact cell_below HV2.out.1 t
    rcases hrow with ⟨hx, hR⟩ | ⟨hx, hpos, hblk, hbase, hbg⟩
    · have HN : Hid (prs 3 xs S 3 = prs 3 xs S 2) := by
        show prs 3 xs S 3 = prs 3 xs S 2
        have : pr 3 xs S 2 = [] := by unfold pr; rw [hR]; rfl
        simp only [prs, this, List.append_nil]
      rw [hx] at kg
      unfold nilS at kg
      clear hx hR
      go_wp2
      go_meet
      rw [HN.out]; exact HV2.out
    · have HN : Hid (prs 3 xs S 3 = prs 3 xs S 2 ++ [(.slice (some ⟨(bs 2), 0, none⟩) 3 3, cutV 3 (rw3 S 2))]) := by
        show prs 3 xs S 3 = prs 3 xs S 2 ++ _
        have : pr 3 xs S 2 = [(.slice (some ⟨(bs 2), 0, none⟩) 3 3, cutV 3 (rw3 S 2))] := by unfold pr; rw [if_neg (by omega), hx]
        rw [← this]; rfl
      rw [hx] at kg
      obtain ⟨hi, hz0, hz1, hz2⟩ := HI.out
      have hown := HV2.out.2
      have hsz := HV2.out.1.size
      have hpl := prs_len 3 xs S 2
      clear hx hpos hblk hbase hbg
      go_wp2_with (at_builtin; refine wpList_append_lies _ rfl (.tmp 21) (.tmp 26) 33 rfl w1.heap.size 23 i0 (.slice none 0 0) 1 24 Tryz.underlying33 hi hz0 hz1 hz2 rfl (by decide) _ _ _ rfl (hown.alloc _) ⟨wr1.heap.size, 0, none⟩ 1 1 [.slice (some ⟨(bs 2), 0, none⟩) 3 3] rfl rfl (World.news_of_block (cs := #[.slice (some ⟨(bs 2), 0, none⟩) 3 3]) (t := 23) (fr := (0, 0)) (Blk.new _ _ _ rfl)) (by intro u hu; simp at hu; subst hu; rfl) (by omega) (by unfold maxLen; omega) (by omega) (by simp <;> omega) _ rfl ?_; intro g cap1 w2 hown1 hgrow hat hglt)
      go_meet
      refine ⟨?_, ?_⟩
      · exact (HV2.out.1.alloc (by omega) _).grown hgrow (by simp <;> omega) (fun j hj => by have := (hown.lt j hj).1; omega)
      · rw [HN.out, List.length_append, List.map_append]; exact hown1
  case rest =>
  rename World => wr2
  have HV3 := hide hcut
  clear hcut
  go_wp2

  rw [rounds_succ]; go_wp2
  go_ret
  refine ⟨S, _, HC.out, rfl, fun w9 hw9 => ?_, HB.out.trans (HV3.out.1.mono HB.out.size)⟩
  have hF := HFL.out S HC.out
  rw [← prs_basis (xs := xs) (by omega) (by omega) HC.out.shape hF]
  refine rowsAt_pairs _ (ownsRow_fresh HV3.out.2 HB.out.size hw9) (fun p hp => ?_)
  obtain ⟨d, hd, hne, rfl⟩ := prs_mem hp
  rcases HA.out.row d hd with ⟨_, hR⟩ | ⟨hx, hpos, hblk, hbase, hbg⟩
  · exfalso; apply hne; rw [hR]
    have hcs : d = 0 ∨ d = 1 ∨ d = 2 := by omega
    rcases hcs with rfl | rfl | rfl <;> rfl
  · show IntsAt _ (xs d) _
    rw [hx]; exact intsAt_blk (by omega) (by omega) (blk_fresh (hblk.below HV3.out.1 hblk.lt) hbase w9 hw9)

end Go.Proofs.YtmlcblnndihjoaaGreat
