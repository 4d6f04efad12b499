import Derived.Test.YtmlcblnndihjoaaGreatTabB
set_option linter.unusedSimpArgs false
set_option linter.unusedVariables false
namespace Go.Proofs.YtmlcblnndihjoaaGreat
open Go.RowKit

theorem copy_into {wx : World} {u : Value} {cells : List Int} {o D : Nat} {cur : Array Value} (hD : cells.length ≤ D) (hs : cur.size = D) (hu : IntsAt wx u cells) (hz : Blk wx o cur 3) :
    (Builtin.copy_ #[23, 23] 3 #[.slice (some ⟨o, 0, none⟩) D D, u]).run Tryz.prog wx = .ok (goInt cells.length) (wx.setRow o (cells.map (Value.int .i64) ++ cur.toList.drop cells.length).toArray) := by
  rcases hu with ⟨rfl, a, cap, rfl⟩ | ⟨h0, b, o', cap, rfl, hc⟩
  · have hself : wx.setRow o (List.map (Value.int .i64) [] ++ cur.toList.drop ([] : List Int).length).toArray = wx := by
      have := setRow_self wx o cur 3 (0, 0) hz
      simpa using this
    rw [hself]
    obtain ⟨i, hi, hzz⟩ := Option.map_eq_some_iff.1 tinfo3
    simp only [Prod.mk.injEq] at hzz
    cases a with
    | none => simp [Builtin.copy_, run_underlying Tryz.underlying23, Builtin.lenOf, Builtin.firstCells, sizeOf, typeInfo, hi, hzz, storeCells, Result.andThen]
    | some a =>
      have hl := run_loadCells_list (P := Tryz.prog) wx a [] (by simp)
      simp at hl
      simp [Builtin.copy_, run_underlying Tryz.underlying23, Builtin.lenOf, Builtin.firstCells, sizeOf, typeInfo, hi, hzz, storeCells, Result.andThen, hl]
  · have t := run_copy_row (P := Tryz.prog) wx 23 23 3 3 o 0 D D ⟨b, o', none⟩ cells.length cap cur 3 (cells.map (Value.int .i64)) Tryz.underlying23 (by kernel_rfl) hz (by rw [List.length_map]; exact (Nat.min_eq_left hD).symm) (fun j y hj => by
      rw [List.getElem?_map] at hj
      obtain ⟨z, hz1, rfl⟩ := Option.map_eq_some_iff.1 hj
      have hlt := (List.getElem?_eq_some_iff.1 hz1).1
      rw [addr_add0, hc j hlt, List.getD_eq_getElem?_getD, hz1]; rfl) (by simp [hs]; exact hD) (by simp [Value.oneCell'])
    have e : cur.toList.take 0 ++ cells.map (Value.int .i64) ++ cur.toList.drop (0 + (cells.map (Value.int .i64)).length) = cells.map (Value.int .i64) ++ cur.toList.drop cells.length := by simp
    rw [e, List.length_map] at t; exact t

/-- a vector that was lent -/
structure Lent (w : World) (g : Nat) (zs : List Int) : Prop where
  blk : Blk w g (zs.map (Value.int .i64) ++ [Value.int .i64 77]).toArray 3

theorem Lent.ints {w : World} {g : Nat} {zs : List Int} (h : Lent w g zs) : IntsAt w (.slice (some ⟨g, 0, none⟩) zs.length (zs.length + 1)) zs := by
  by_cases h0 : zs.length = 0
  · exact Or.inl ⟨List.length_eq_zero_iff.1 h0, _, _, by rw [h0]⟩
  · refine Or.inr ⟨by omega, g, 0, _, rfl, fun i hi => ?_⟩
    rw [Nat.zero_add, h.blk.cell i]
    simp [List.getElem?_append_left, hi, List.getD_eq_getElem?_getD]

theorem Lent.last {w : World} {g : Nat} {zs : List Int} (h : Lent w g zs) : w.cell? ⟨g, zs.length, none⟩ = some (.int .i64 77) := by
  rw [h.blk.cell]; simp

theorem slice22h (w : World) (o m c r : Nat) (h2 : r < c) :
    (Instr.slice 23 (.slice (some ⟨o, 0, none⟩) m c) none (some (.int .i64 r)) none).run Tryz.prog w = .ok (.slice (some ⟨o, 0, none⟩) r c) w := by
  obtain ⟨i, hi, hzz⟩ := Option.map_eq_some_iff.1 tinfo3
  simp only [Prod.mk.injEq] at hzz
  have := run_slice_h w 23 (some ⟨o, 0, none⟩) m c (P := Tryz.prog) (by kernel_rfl) .i64 r (by omega) (by omega)
  rw [this]
  have he : Tryz.prog.elem 23 = 3 := by kernel_rfl
  have hc : ¬ c = 0 := by omega
  simp [he, sizeOf, typeInfo, hi, hzz, Result.andThen, sliced, hc, Addr.add]

theorem slice22g (w : World) (o m c : Nat) :
    (Instr.slice 23 (.slice (some ⟨o, 0, none⟩) m c) none (some (.int .i64 c)) none).run Tryz.prog w = .ok (.slice (some ⟨o, 0, none⟩) c c) w := by
  obtain ⟨i, hi, hzz⟩ := Option.map_eq_some_iff.1 tinfo3
  simp only [Prod.mk.injEq] at hzz
  have := run_slice_h w 23 (some ⟨o, 0, none⟩) m c (P := Tryz.prog) (by kernel_rfl) .i64 c (by omega) (by omega)
  rw [this]
  have he : Tryz.prog.elem 23 = 3 := by kernel_rfl
  simp [he, sizeOf, typeInfo, hi, hzz, Result.andThen, sliced, Addr.add]

set_option maxRecDepth 100000 in
set_option maxHeartbeats 2000000 in
theorem lent_any (v : Value) (zs : List Int) (w : World) (hv : IntsAt w v zs) (hl : zs.length ≤ 1073741824) :
    Calls Tryz.prog 21 #[v] w fun e w' => (e = .returned (.slice (some ⟨w.heap.size, 0, none⟩) zs.length (zs.length + 1)) ∧ Lent w' w.heap.size zs) ∧ Below w.heap.size w w' := by
  have HV := hide0 hv
  obtain ⟨a, c, rfl⟩ := hv.slice
  clear hv
  generalize hn : zs.length = n at *
  have HN := hide0 hn
  clear hn
  have mk3 := run_make_row' (P := Tryz.prog) 23 3 (.int .i64 0) 8 Tryz.underlying23 tinfo3 rfl .i64 .i64 (n + 1) (by omega) (by omega)
  have ec : ((n + 1 : Nat) : Int) = (n : Int) + 1 := by omega
  rw [ec] at mk3
  have hK : Blk (w.alloc (.cells (madeCells #[.int .i64 0] (n + 1)) 3)) w.heap.size (madeCells #[.int .i64 0] (n + 1)) 3 := Blk.new _ _ _ rfl
  have hcp := copy_into (D := n + 1) (by rw [HN.out]; omega) (size_madeCells _ _) (HV.out.below (by go_grown)) hK
  have hdrop : (madeCells #[Value.int .i64 0] (n + 1)).toList.drop zs.length = [.int .i64 0] := by
    rw [toList_madeCells_one, HN.out, List.drop_replicate, show n + 1 - n = 1 by omega]; rfl
  rw [hdrop, HN.out] at hcp
  have hK2 : Blk ((w.alloc (.cells (madeCells #[.int .i64 0] (n + 1)) 3)).setRow w.heap.size (zs.map (Value.int .i64) ++ [Value.int .i64 0]).toArray) w.heap.size (zs.map (Value.int .i64) ++ [Value.int .i64 0]).toArray 3 := setRow_heap _ _ _ _ _ _ hK
  have HB : Hid (Below w.heap.size w ((w.alloc (.cells (madeCells #[.int .i64 0] (n + 1)) 3)).setRow w.heap.size (zs.map (Value.int .i64) ++ [Value.int .i64 0]).toArray)) := below_setRow (by go_grown) (Nat.le_refl _) _
  have HK2 := hide0 hK2
  have hsl := fun w0 m => slice22h w0 w.heap.size m (n + 1) n (by omega)
  clear hK hdrop hK2
  go_enter Tryz.func21, Tryz.ntmps21
  go_upto_region 3 with fail
  have hc0 := HK2.out.cell n
  have hf0 := HK2.out.frozen n
  have hc1 : (zs.map (Value.int .i64) ++ [Value.int .i64 0]).toArray[n]? = some (.int .i64 0) := by
    have := HN.out; subst this; simp
  rw [hc1] at hc0
  clear hc1 hcp mk3
  generalize ((w.alloc (.cells (madeCells #[Value.int .i64 0] (n + 1)) 3)).setRow w.heap.size (zs.map (Value.int .i64) ++ [Value.int .i64 0]).toArray) = wS at *
  have hlt1 : (n : Int) < (n : Int) + 1 := by omega
  go_wp2
  go_ret
  refine ⟨⟨rfl, ⟨?_⟩⟩, HB.out.setCell (p := ⟨w.heap.size, n, none⟩) (Nat.le_refl _) _⟩
  have := HK2.out.set n (.int .i64 77)
  have e : (zs.map (Value.int .i64) ++ [Value.int .i64 0]).toArray.setIfInBounds n (.int .i64 77) = (zs.map (Value.int .i64) ++ [Value.int .i64 77]).toArray := by
    have := HN.out; subst this
    simp [List.set_append]
  rw [e] at this
  exact this

set_option maxHeartbeats 2000000 in
theorem sameInts_any (v v' : Value) (zs : List Int) (w : World) (hv : IntsAt w v zs) (hv' : IntsAt w v' zs) (hl : zs.length ≤ 1073741824) :
    Calls Tryz.prog 48 #[v, v'] w fun e w' => e = .returned (.bool true) ∧ Below w.heap.size w w' := by
  have HV := hide0 hv
  have HV' := hide0 hv'
  obtain ⟨a, c, rfl⟩ := hv.slice
  obtain ⟨a', c', rfl⟩ := hv'.slice
  clear hv hv'
  generalize hn : zs.length = n at *
  have HN := hide0 hn
  clear hn
  have hnn : ((n : Int) != (n : Int)) = false := by simp
  go_enter Tryz.func48, Tryz.ntmps48
  go_wp2
  go_loopg [5] (n) (fun mm i wr => ∃ k : Nat, i = .int .i64 k ∧ k + mm = n ∧ Below w.heap.size w wr)
  case atStart => exact ⟨0, rfl, by omega, Below.refl _ _⟩
  case round =>
    obtain ⟨k, rfl, hk, hB⟩ := hrel
    have HB := hide0 hB
    clear hB
    by_cases hlt : k < n
    · obtain ⟨b1, o1, rfl, h1⟩ := (HV.out.below HB.out).cellAt (i := k) (by rw [HN.out]; exact hlt)
      obtain ⟨b2, o2, rfl, h2⟩ := (HV'.out.below HB.out).cellAt (i := k) (by rw [HN.out]; exact hlt)
      have hlt' : (k : Int) < (n : Int) := by omega
      generalize zs.getD k 0 = z at *
      go_wp2
      go_region
      go_wp2
      go_roundg (gk - 1)
      case measure => omega
      case rel => exact ⟨k + 1, by go_num, by omega, HB.out.drew⟩
    · have hd : decide ((k : Int) < (n : Int)) = false := by simp; omega
      go_wp2
      go_ret
      exact ⟨rfl, HB.out⟩

set_option maxHeartbeats 2000000 in
theorem returned_any (v : Value) (g : Nat) (zs : List Int) (w : World) (hg : Lent w g zs) (hv : IntsAt w v zs) (hl : zs.length ≤ 1073741824) :
    Calls Tryz.prog 24 #[.slice (some ⟨g, 0, none⟩) zs.length (zs.length + 1), v] w fun e w' => e = .returned (.bool true) ∧ Below w.heap.size w w' := by
  have HS := hide0 (sameInts_any _ _ zs w hg.ints hv hl)
  have HG := hide0 hg
  obtain ⟨a, c, rfl⟩ := hv.slice
  clear hv hg
  generalize hn : zs.length = n at *
  have HN := hide0 hn
  clear hn
  have hsl := fun w0 m => slice22g w0 g m (n + 1)
  have ec : ((n + 1 : Nat) : Int) = (n : Int) + 1 := by omega
  rw [ec] at hsl
  go_enter Tryz.func24, Tryz.ntmps24
  go_wp2_with fail
  refine HS.out.mono ?_
  rintro e w1 ⟨rfl, hb1⟩
  have hlast := (Lent.mk (HG.out.blk.below hb1 HG.out.blk.lt)).last
  rw [HN.out] at hlast
  have hlt1 : (n : Int) < (n : Int) + 1 := by omega
  have HB := hide0 hb1
  clear hb1
  go_wp2
  go_ret
  exact ⟨rfl, HB.out⟩

end Go.Proofs.YtmlcblnndihjoaaGreat
