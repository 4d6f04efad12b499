import Derived.Test.YtmlcblnndihjoaaGreatRefC
namespace Go.Proofs.YtmlcblnndihjoaaGreat
open Go.RowKit

/-- a tidied by b at column c -/
def Lat.tid (c : Nat) (a b : Lat.V) : Lat.V := Lat.less a (a.at c / b.at c) b

/-- what the walk of one step wants -/
structure Lat.Ok (c : Nat) (a b : Lat.V) : Prop where
  pos : 0 < b.at c
  top : b.at c ≤ 4611686018427387904
  lx : a.x.natAbs ≤ 4611686018427387903
  mx : (a.at c / b.at c * b.x).natAbs ≤ 4611686018427387903
  ly : a.y.natAbs ≤ 4611686018427387903
  my : (a.at c / b.at c * b.y).natAbs ≤ 4611686018427387903
  lz : a.z.natAbs ≤ 4611686018427387903
  mz : (a.at c / b.at c * b.z).natAbs ≤ 4611686018427387903

set_option maxRecDepth 100000 in
set_option maxHeartbeats 4000000 in
theorem tidy1_0 (b0 : Nat) (b1 : Nat) (g : Nat)  (w : World) (hg : Blk w g #[nilS] 23) :
    Calls Tryz.prog 80 #[.int .i64 1, .slice (some ⟨g, 0, none⟩) 1 1] w fun e w' => e = .returned (.tuple #[]) ∧ Upd2 w w' b0 b1 ∧ Blk w' g #[nilS] 23 := by
  have hU : Upd2 w w b0 b1 := Upd2.refl _ _ _
  have kg0 := hg.cell 0
  simp at kg0
  go_enter Tryz.func80, Tryz.ntmps80
  unfold nilS at *
  go_wp2
  refine wp_loop_rounds 2 ?_
  rw [rounds_succ]; go_wp2
  refine wp_loop_rounds 1 ?_
  rw [rounds_succ]; go_wp2
  have HU := hide hU
  clear hU
  rw [rounds_succ]; go_wp2
  go_end0
  exact ⟨rfl, HU.out, hg⟩

set_option maxRecDepth 100000 in
set_option maxHeartbeats 4000000 in
theorem tidy1_1 (b0 : Nat) (b1 : Nat) (g : Nat) (r0 : Lat.V) (w : World) (hg : Blk w g #[.slice (some ⟨b0, 0, none⟩) 1 1] 23) (h0 : Blk w b0 #[.int .i64 r0.x] 3) (hg0 : ¬ b0 = g) :
    Calls Tryz.prog 80 #[.int .i64 1, .slice (some ⟨g, 0, none⟩) 1 1] w fun e w' => e = .returned (.tuple #[]) ∧ Upd2 w w' b0 b1 ∧ Blk w' g #[.slice (some ⟨b0, 0, none⟩) 1 1] 23 ∧ Blk w' b0 #[.int .i64 r0.x] 3 := by
  have gh0 : ¬ g = b0 := fun e => hg0 e.symm
  have hU : Upd2 w w b0 b1 := Upd2.refl _ _ _
  have kg0 := hg.cell 0
  simp at kg0
  go_enter Tryz.func80, Tryz.ntmps80
  go_wp2
  refine wp_loop_rounds 2 ?_
  rw [rounds_succ]; go_wp2
  refine wp_loop_rounds 1 ?_
  rw [rounds_succ]; go_wp2
  have HU := hide hU
  clear hU
  rw [rounds_succ]; go_wp2
  go_end0
  exact ⟨rfl, HU.out, hg, h0⟩

set_option maxRecDepth 100000 in
set_option maxHeartbeats 4000000 in
theorem tidy2_0 (b0 : Nat) (b1 : Nat) (g : Nat)  (w : World) (hg : Blk w g #[nilS, nilS] 23) :
    Calls Tryz.prog 80 #[.int .i64 2, .slice (some ⟨g, 0, none⟩) 2 2] w fun e w' => e = .returned (.tuple #[]) ∧ Upd2 w w' b0 b1 ∧ Blk w' g #[nilS, nilS] 23 := by
  have hU : Upd2 w w b0 b1 := Upd2.refl _ _ _
  have kg0 := hg.cell 0
  have kg1 := hg.cell 1
  simp at kg0 kg1
  go_enter Tryz.func80, Tryz.ntmps80
  unfold nilS at *
  go_wp2
  refine wp_loop_rounds 3 ?_
  rw [rounds_succ]; go_wp2
  refine wp_loop_rounds 1 ?_
  rw [rounds_succ]; go_wp2
  rw [rounds_succ]; go_wp2
  refine wp_loop_rounds 1 ?_
  rw [rounds_succ]; go_wp2
  have HU := hide hU
  clear hU
  rw [rounds_succ]; go_wp2
  go_end0
  exact ⟨rfl, HU.out, hg⟩

set_option maxRecDepth 100000 in
set_option maxHeartbeats 4000000 in
theorem tidy2_1 (b0 : Nat) (b1 : Nat) (g : Nat) (r0 : Lat.V) (w : World) (hg : Blk w g #[.slice (some ⟨b0, 0, none⟩) 2 2, nilS] 23) (h0 : Blk w b0 #[.int .i64 r0.x, .int .i64 r0.y] 3) (hg0 : ¬ b0 = g) :
    Calls Tryz.prog 80 #[.int .i64 2, .slice (some ⟨g, 0, none⟩) 2 2] w fun e w' => e = .returned (.tuple #[]) ∧ Upd2 w w' b0 b1 ∧ Blk w' g #[.slice (some ⟨b0, 0, none⟩) 2 2, nilS] 23 ∧ Blk w' b0 #[.int .i64 r0.x, .int .i64 r0.y] 3 := by
  have gh0 : ¬ g = b0 := fun e => hg0 e.symm
  have hU : Upd2 w w b0 b1 := Upd2.refl _ _ _
  have kg0 := hg.cell 0
  have kg1 := hg.cell 1
  simp at kg0 kg1
  go_enter Tryz.func80, Tryz.ntmps80
  unfold nilS at *
  go_wp2
  refine wp_loop_rounds 3 ?_
  rw [rounds_succ]; go_wp2
  refine wp_loop_rounds 1 ?_
  rw [rounds_succ]; go_wp2
  rw [rounds_succ]; go_wp2
  refine wp_loop_rounds 2 ?_
  rw [rounds_succ]; go_wp2
  rw [rounds_succ]; go_wp2
  have HU := hide hU
  clear hU
  rw [rounds_succ]; go_wp2
  go_end0
  exact ⟨rfl, HU.out, hg, h0⟩

set_option maxRecDepth 100000 in
set_option maxHeartbeats 4000000 in
theorem tidy2_2 (b0 : Nat) (b1 : Nat) (g : Nat) (r1 : Lat.V) (w : World) (hg : Blk w g #[nilS, .slice (some ⟨b1, 0, none⟩) 2 2] 23) (h1 : Blk w b1 #[.int .i64 r1.x, .int .i64 r1.y] 3) (hg1 : ¬ b1 = g) :
    Calls Tryz.prog 80 #[.int .i64 2, .slice (some ⟨g, 0, none⟩) 2 2] w fun e w' => e = .returned (.tuple #[]) ∧ Upd2 w w' b0 b1 ∧ Blk w' g #[nilS, .slice (some ⟨b1, 0, none⟩) 2 2] 23 ∧ Blk w' b1 #[.int .i64 r1.x, .int .i64 r1.y] 3 := by
  have gh1 : ¬ g = b1 := fun e => hg1 e.symm
  have hU : Upd2 w w b0 b1 := Upd2.refl _ _ _
  have kg0 := hg.cell 0
  have kg1 := hg.cell 1
  simp at kg0 kg1
  go_enter Tryz.func80, Tryz.ntmps80
  unfold nilS at *
  go_wp2
  refine wp_loop_rounds 3 ?_
  rw [rounds_succ]; go_wp2
  refine wp_loop_rounds 1 ?_
  rw [rounds_succ]; go_wp2
  rw [rounds_succ]; go_wp2
  refine wp_loop_rounds 1 ?_
  rw [rounds_succ]; go_wp2
  have HU := hide hU
  clear hU
  rw [rounds_succ]; go_wp2
  go_end0
  exact ⟨rfl, HU.out, hg, h1⟩

set_option maxRecDepth 100000 in
set_option maxHeartbeats 4000000 in
theorem tidy2_3 (b0 : Nat) (b1 : Nat) (g : Nat) (r0 : Lat.V) (r1 : Lat.V) (w : World) (hg : Blk w g #[.slice (some ⟨b0, 0, none⟩) 2 2, .slice (some ⟨b1, 0, none⟩) 2 2] 23) (h0 : Blk w b0 #[.int .i64 r0.x, .int .i64 r0.y] 3) (hg0 : ¬ b0 = g) (h1 : Blk w b1 #[.int .i64 r1.x, .int .i64 r1.y] 3) (hg1 : ¬ b1 = g) (n01 : ¬ b0 = b1) (k01 : Lat.Ok 1 r0 r1) :
    Calls Tryz.prog 80 #[.int .i64 2, .slice (some ⟨g, 0, none⟩) 2 2] w fun e w' => e = .returned (.tuple #[]) ∧ Upd2 w w' b0 b1 ∧ Blk w' g #[.slice (some ⟨b0, 0, none⟩) 2 2, .slice (some ⟨b1, 0, none⟩) 2 2] 23 ∧ Blk w' b0 #[.int .i64 (Lat.tid 1 r0 r1).x, .int .i64 (Lat.tid 1 r0 r1).y] 3 ∧ Blk w' b1 #[.int .i64 r1.x, .int .i64 r1.y] 3 := by
  have n10 : ¬ b1 = b0 := fun e => n01 e.symm
  have gh0 : ¬ g = b0 := fun e => hg0 e.symm
  have gh1 : ¬ g = b1 := fun e => hg1 e.symm
  have hU : Upd2 w w b0 b1 := Upd2.refl _ _ _
  have kg0 := hg.cell 0
  have kg1 := hg.cell 1
  simp at kg0 kg1
  go_enter Tryz.func80, Tryz.ntmps80
  go_wp2
  refine wp_loop_rounds 3 ?_
  rw [rounds_succ]; go_wp2
  refine wp_loop_rounds 1 ?_
  rw [rounds_succ]; go_wp2
  rw [rounds_succ]; go_wp2
  refine wp_loop_rounds 2 ?_
  rw [rounds_succ]
  go_upto_block 3 with fail
  go_cut [] (fun wx => Upd2 w wx b0 b1 ∧ Blk wx g #[.slice (some ⟨b0, 0, none⟩) 2 2, .slice (some ⟨b1, 0, none⟩) 2 2] 23 ∧ Blk wx b0 #[.int .i64 (Lat.tid 1 r0 r1).x, .int .i64 (Lat.tid 1 r0 r1).y] 3 ∧ Blk wx b1 #[.int .i64 r1.x, .int .i64 r1.y] 3)
  case first =>
    have ci := h0.cell 1
    have cc := h1.cell 1
    simp at ci cc
    have hQ := hide k01
    have HT : Hid (∀ w0, w0.heap = w.heap → Calls Tryz.prog 92 #[.slice (some ⟨b0, 0, none⟩) 2 2, .int .i64 (r0.y / r1.y), .slice (some ⟨b1, 0, none⟩) 2 2] w0 fun e w' => e = .returned (.tuple #[]) ∧ Upd w0 w' b0 #[.int .i64 (Lat.tid 1 r0 r1).x, .int .i64 (Lat.tid 1 r0 r1).y]) := fun w0 hw0 => by
      exact less2 r0 r1 _ b0 b1 w0 (by unfold Blk; rw [hw0]; exact h0) (by unfold Blk; rw [hw0]; exact h1) n01 hQ.out.lx hQ.out.mx hQ.out.ly hQ.out.my
    have HF : Hid (∀ w0, Calls Tryz.prog 93 #[.int .i64 r0.y, .int .i64 r1.y] w0 fun e w' => e = .returned (.int .i64 (r0.y / r1.y)) ∧ w' = w0) := fun w0 => by
      exact floor_any _ _ w0 (by have := hQ.out.ly; omega) (by have := hQ.out.ly; omega) hQ.out.pos hQ.out.top
    have HU := hide hU
    clear hU k01
    go_wp2
    refine wp_region_still_tail 14 (by kernel_rfl) (by kernel_rfl) ?_
    change wpStill _ _ (World.drew _) (fun a' => wpList _ _ _ _ a' (World.drew _)) _ _
    simp only [List.take_succ_cons, List.take_zero, List.drop_succ_cons, List.drop_zero]
    repeat still_step
    try refine wpStill_nil ?_
    go_wp2_with fail
    refine (HF.out _).mono ?_
    rintro e w1 ⟨rfl, rfl⟩
    go_wp2
    refine wp_region_still_tail 9 (by kernel_rfl) (by kernel_rfl) ?_
    change wpStill _ _ (World.drew _) (fun a' => wpList _ _ _ _ a' (World.drew _)) _ _
    simp only [List.take_succ_cons, List.take_zero, List.drop_succ_cons, List.drop_zero]
    repeat still_step
    try refine wpStill_nil ?_
    go_wp2_with fail
    refine (HT.out w.drew.drew rfl).mono ?_
    rintro e w1 ⟨rfl, hu⟩
    have hu2 : Upd w w1 b0 #[.int .i64 (Lat.tid 1 r0 r1).x, .int .i64 (Lat.tid 1 r0 r1).y] := ⟨hu.blk, hu.keep, hu.size, hu.os, hu.tape, hu.output⟩
    have HU2 := hide hu2
    clear hu hu2
    go_wp2
    go_meet
    exact ⟨HU.out.upd HU2.out (Or.inl rfl), by unfold Blk; rw [HU2.out.keep g gh0]; exact hg, HU2.out.blk, by unfold Blk; rw [HU2.out.keep b1 n10]; exact h1⟩
  case rest =>
  rename World => wA1
  clear hU hg h0 h1 kg0 kg1
  obtain ⟨hU, hg, h0, h1⟩ := hcut
  have kg0 := hg.cell 0
  have kg1 := hg.cell 1
  simp at kg0 kg1
  go_wp2
  rw [rounds_succ]; go_wp2
  have HU := hide hU
  clear hU
  rw [rounds_succ]; go_wp2
  go_end0
  exact ⟨rfl, HU.out, hg, h0, h1⟩

set_option maxRecDepth 100000 in
set_option maxHeartbeats 4000000 in
theorem tidy3_0 (b0 : Nat) (b1 : Nat) (g : Nat)  (w : World) (hg : Blk w g #[nilS, nilS, nilS] 23) :
    Calls Tryz.prog 80 #[.int .i64 3, .slice (some ⟨g, 0, none⟩) 3 3] w fun e w' => e = .returned (.tuple #[]) ∧ Upd2 w w' b0 b1 ∧ Blk w' g #[nilS, nilS, nilS] 23 := by
  have hU : Upd2 w w b0 b1 := Upd2.refl _ _ _
  have kg0 := hg.cell 0
  have kg1 := hg.cell 1
  have kg2 := hg.cell 2
  simp at kg0 kg1 kg2
  go_enter Tryz.func80, Tryz.ntmps80
  unfold nilS at *
  go_wp2
  refine wp_loop_rounds 4 ?_
  rw [rounds_succ]; go_wp2
  refine wp_loop_rounds 1 ?_
  rw [rounds_succ]; go_wp2
  rw [rounds_succ]; go_wp2
  refine wp_loop_rounds 1 ?_
  rw [rounds_succ]; go_wp2
  rw [rounds_succ]; go_wp2
  refine wp_loop_rounds 1 ?_
  rw [rounds_succ]; go_wp2
  have HU := hide hU
  clear hU
  rw [rounds_succ]; go_wp2
  go_end0
  exact ⟨rfl, HU.out, hg⟩

set_option maxRecDepth 100000 in
set_option maxHeartbeats 4000000 in
theorem tidy3_1 (b0 : Nat) (b1 : Nat) (g : Nat) (r0 : Lat.V) (w : World) (hg : Blk w g #[.slice (some ⟨b0, 0, none⟩) 3 3, nilS, nilS] 23) (h0 : Blk w b0 #[.int .i64 r0.x, .int .i64 r0.y, .int .i64 r0.z] 3) (hg0 : ¬ b0 = g) :
    Calls Tryz.prog 80 #[.int .i64 3, .slice (some ⟨g, 0, none⟩) 3 3] w fun e w' => e = .returned (.tuple #[]) ∧ Upd2 w w' b0 b1 ∧ Blk w' g #[.slice (some ⟨b0, 0, none⟩) 3 3, nilS, nilS] 23 ∧ Blk w' b0 #[.int .i64 r0.x, .int .i64 r0.y, .int .i64 r0.z] 3 := by
  have gh0 : ¬ g = b0 := fun e => hg0 e.symm
  have hU : Upd2 w w b0 b1 := Upd2.refl _ _ _
  have kg0 := hg.cell 0
  have kg1 := hg.cell 1
  have kg2 := hg.cell 2
  simp at kg0 kg1 kg2
  go_enter Tryz.func80, Tryz.ntmps80
  unfold nilS at *
  go_wp2
  refine wp_loop_rounds 4 ?_
  rw [rounds_succ]; go_wp2
  refine wp_loop_rounds 1 ?_
  rw [rounds_succ]; go_wp2
  rw [rounds_succ]; go_wp2
  refine wp_loop_rounds 1 ?_
  rw [rounds_succ]; go_wp2
  rw [rounds_succ]; go_wp2
  refine wp_loop_rounds 3 ?_
  rw [rounds_succ]; go_wp2
  rw [rounds_succ]; go_wp2
  rw [rounds_succ]; go_wp2
  have HU := hide hU
  clear hU
  rw [rounds_succ]; go_wp2
  go_end0
  exact ⟨rfl, HU.out, hg, h0⟩

set_option maxRecDepth 100000 in
set_option maxHeartbeats 4000000 in
theorem tidy3_2 (b0 : Nat) (b1 : Nat) (g : Nat) (r1 : Lat.V) (w : World) (hg : Blk w g #[nilS, .slice (some ⟨b1, 0, none⟩) 3 3, nilS] 23) (h1 : Blk w b1 #[.int .i64 r1.x, .int .i64 r1.y, .int .i64 r1.z] 3) (hg1 : ¬ b1 = g) :
    Calls Tryz.prog 80 #[.int .i64 3, .slice (some ⟨g, 0, none⟩) 3 3] w fun e w' => e = .returned (.tuple #[]) ∧ Upd2 w w' b0 b1 ∧ Blk w' g #[nilS, .slice (some ⟨b1, 0, none⟩) 3 3, nilS] 23 ∧ Blk w' b1 #[.int .i64 r1.x, .int .i64 r1.y, .int .i64 r1.z] 3 := by
  have gh1 : ¬ g = b1 := fun e => hg1 e.symm
  have hU : Upd2 w w b0 b1 := Upd2.refl _ _ _
  have kg0 := hg.cell 0
  have kg1 := hg.cell 1
  have kg2 := hg.cell 2
  simp at kg0 kg1 kg2
  go_enter Tryz.func80, Tryz.ntmps80
  unfold nilS at *
  go_wp2
  refine wp_loop_rounds 4 ?_
  rw [rounds_succ]; go_wp2
  refine wp_loop_rounds 1 ?_
  rw [rounds_succ]; go_wp2
  rw [rounds_succ]; go_wp2
  refine wp_loop_rounds 2 ?_
  rw [rounds_succ]; go_wp2
  rw [rounds_succ]; go_wp2
  rw [rounds_succ]; go_wp2
  refine wp_loop_rounds 1 ?_
  rw [rounds_succ]; go_wp2
  have HU := hide hU
  clear hU
  rw [rounds_succ]; go_wp2
  go_end0
  exact ⟨rfl, HU.out, hg, h1⟩

set_option maxRecDepth 100000 in
set_option maxHeartbeats 4000000 in
theorem tidy3_3 (b0 : Nat) (b1 : Nat) (g : Nat) (r0 : Lat.V) (r1 : Lat.V) (w : World) (hg : Blk w g #[.slice (some ⟨b0, 0, none⟩) 3 3, .slice (some ⟨b1, 0, none⟩) 3 3, nilS] 23) (h0 : Blk w b0 #[.int .i64 r0.x, .int .i64 r0.y, .int .i64 r0.z] 3) (hg0 : ¬ b0 = g) (h1 : Blk w b1 #[.int .i64 r1.x, .int .i64 r1.y, .int .i64 r1.z] 3) (hg1 : ¬ b1 = g) (n01 : ¬ b0 = b1) (k01 : Lat.Ok 1 r0 r1) :
    Calls Tryz.prog 80 #[.int .i64 3, .slice (some ⟨g, 0, none⟩) 3 3] w fun e w' => e = .returned (.tuple #[]) ∧ Upd2 w w' b0 b1 ∧ Blk w' g #[.slice (some ⟨b0, 0, none⟩) 3 3, .slice (some ⟨b1, 0, none⟩) 3 3, nilS] 23 ∧ Blk w' b0 #[.int .i64 (Lat.tid 1 r0 r1).x, .int .i64 (Lat.tid 1 r0 r1).y, .int .i64 (Lat.tid 1 r0 r1).z] 3 ∧ Blk w' b1 #[.int .i64 r1.x, .int .i64 r1.y, .int .i64 r1.z] 3 := by
  have n10 : ¬ b1 = b0 := fun e => n01 e.symm
  have gh0 : ¬ g = b0 := fun e => hg0 e.symm
  have gh1 : ¬ g = b1 := fun e => hg1 e.symm
  have hU : Upd2 w w b0 b1 := Upd2.refl _ _ _
  have kg0 := hg.cell 0
  have kg1 := hg.cell 1
  have kg2 := hg.cell 2
  simp at kg0 kg1 kg2
  go_enter Tryz.func80, Tryz.ntmps80
  unfold nilS at *
  go_wp2
  refine wp_loop_rounds 4 ?_
  rw [rounds_succ]; go_wp2
  refine wp_loop_rounds 1 ?_
  rw [rounds_succ]; go_wp2
  rw [rounds_succ]; go_wp2
  refine wp_loop_rounds 2 ?_
  rw [rounds_succ]; go_wp2
  rw [rounds_succ]; go_wp2
  rw [rounds_succ]; go_wp2
  refine wp_loop_rounds 3 ?_
  rw [rounds_succ]
  go_upto_block 3 with fail
  go_cut [] (fun wx => Upd2 w wx b0 b1 ∧ Blk wx g #[.slice (some ⟨b0, 0, none⟩) 3 3, .slice (some ⟨b1, 0, none⟩) 3 3, .slice none 0 0] 23 ∧ Blk wx b0 #[.int .i64 (Lat.tid 1 r0 r1).x, .int .i64 (Lat.tid 1 r0 r1).y, .int .i64 (Lat.tid 1 r0 r1).z] 3 ∧ Blk wx b1 #[.int .i64 r1.x, .int .i64 r1.y, .int .i64 r1.z] 3)
  case first =>
    have ci := h0.cell 1
    have cc := h1.cell 1
    simp at ci cc
    have hQ := hide k01
    have HT : Hid (∀ w0, w0.heap = w.heap → Calls Tryz.prog 92 #[.slice (some ⟨b0, 0, none⟩) 3 3, .int .i64 (r0.y / r1.y), .slice (some ⟨b1, 0, none⟩) 3 3] w0 fun e w' => e = .returned (.tuple #[]) ∧ Upd w0 w' b0 #[.int .i64 (Lat.tid 1 r0 r1).x, .int .i64 (Lat.tid 1 r0 r1).y, .int .i64 (Lat.tid 1 r0 r1).z]) := fun w0 hw0 => by
      exact less3 r0 r1 _ b0 b1 w0 (by unfold Blk; rw [hw0]; exact h0) (by unfold Blk; rw [hw0]; exact h1) n01 hQ.out.lx hQ.out.mx hQ.out.ly hQ.out.my hQ.out.lz hQ.out.mz
    have HF : Hid (∀ w0, Calls Tryz.prog 93 #[.int .i64 r0.y, .int .i64 r1.y] w0 fun e w' => e = .returned (.int .i64 (r0.y / r1.y)) ∧ w' = w0) := fun w0 => by
      exact floor_any _ _ w0 (by have := hQ.out.ly; omega) (by have := hQ.out.ly; omega) hQ.out.pos hQ.out.top
    have HU := hide hU
    clear hU k01
    go_wp2
    refine wp_region_still_tail 14 (by kernel_rfl) (by kernel_rfl) ?_
    change wpStill _ _ (World.drew _) (fun a' => wpList _ _ _ _ a' (World.drew _)) _ _
    simp only [List.take_succ_cons, List.take_zero, List.drop_succ_cons, List.drop_zero]
    repeat still_step
    try refine wpStill_nil ?_
    go_wp2_with fail
    refine (HF.out _).mono ?_
    rintro e w1 ⟨rfl, rfl⟩
    go_wp2
    refine wp_region_still_tail 9 (by kernel_rfl) (by kernel_rfl) ?_
    change wpStill _ _ (World.drew _) (fun a' => wpList _ _ _ _ a' (World.drew _)) _ _
    simp only [List.take_succ_cons, List.take_zero, List.drop_succ_cons, List.drop_zero]
    repeat still_step
    try refine wpStill_nil ?_
    go_wp2_with fail
    refine (HT.out w.drew.drew rfl).mono ?_
    rintro e w1 ⟨rfl, hu⟩
    have hu2 : Upd w w1 b0 #[.int .i64 (Lat.tid 1 r0 r1).x, .int .i64 (Lat.tid 1 r0 r1).y, .int .i64 (Lat.tid 1 r0 r1).z] := ⟨hu.blk, hu.keep, hu.size, hu.os, hu.tape, hu.output⟩
    have HU2 := hide hu2
    clear hu hu2
    go_wp2
    go_meet
    exact ⟨HU.out.upd HU2.out (Or.inl rfl), by unfold Blk; rw [HU2.out.keep g gh0]; exact hg, HU2.out.blk, by unfold Blk; rw [HU2.out.keep b1 n10]; exact h1⟩
  case rest =>
  rename World => wA1
  clear hU hg h0 h1 kg0 kg1 kg2
  obtain ⟨hU, hg, h0, h1⟩ := hcut
  have kg0 := hg.cell 0
  have kg1 := hg.cell 1
  have kg2 := hg.cell 2
  simp at kg0 kg1 kg2
  go_wp2
  rw [rounds_succ]; go_wp2
  rw [rounds_succ]; go_wp2
  have HU := hide hU
  clear hU
  rw [rounds_succ]; go_wp2
  go_end0
  exact ⟨rfl, HU.out, hg, h0, h1⟩

set_option maxRecDepth 100000 in
set_option maxHeartbeats 4000000 in
theorem tidy3_4 (b0 : Nat) (b1 : Nat) (b2 : Nat) (g : Nat) (r2 : Lat.V) (w : World) (hg : Blk w g #[nilS, nilS, .slice (some ⟨b2, 0, none⟩) 3 3] 23) (h2 : Blk w b2 #[.int .i64 r2.x, .int .i64 r2.y, .int .i64 r2.z] 3) (hg2 : ¬ b2 = g) :
    Calls Tryz.prog 80 #[.int .i64 3, .slice (some ⟨g, 0, none⟩) 3 3] w fun e w' => e = .returned (.tuple #[]) ∧ Upd2 w w' b0 b1 ∧ Blk w' g #[nilS, nilS, .slice (some ⟨b2, 0, none⟩) 3 3] 23 ∧ Blk w' b2 #[.int .i64 r2.x, .int .i64 r2.y, .int .i64 r2.z] 3 := by
  have gh2 : ¬ g = b2 := fun e => hg2 e.symm
  have hU : Upd2 w w b0 b1 := Upd2.refl _ _ _
  have kg0 := hg.cell 0
  have kg1 := hg.cell 1
  have kg2 := hg.cell 2
  simp at kg0 kg1 kg2
  go_enter Tryz.func80, Tryz.ntmps80
  unfold nilS at *
  go_wp2
  refine wp_loop_rounds 4 ?_
  rw [rounds_succ]; go_wp2
  refine wp_loop_rounds 1 ?_
  rw [rounds_succ]; go_wp2
  rw [rounds_succ]; go_wp2
  refine wp_loop_rounds 1 ?_
  rw [rounds_succ]; go_wp2
  rw [rounds_succ]; go_wp2
  refine wp_loop_rounds 1 ?_
  rw [rounds_succ]; go_wp2
  have HU := hide hU
  clear hU
  rw [rounds_succ]; go_wp2
  go_end0
  exact ⟨rfl, HU.out, hg, h2⟩

set_option maxRecDepth 100000 in
set_option maxHeartbeats 4000000 in
theorem tidy3_5 (b0 : Nat) (b1 : Nat) (b2 : Nat) (g : Nat) (r0 : Lat.V) (r2 : Lat.V) (w : World) (hg : Blk w g #[.slice (some ⟨b0, 0, none⟩) 3 3, nilS, .slice (some ⟨b2, 0, none⟩) 3 3] 23) (h0 : Blk w b0 #[.int .i64 r0.x, .int .i64 r0.y, .int .i64 r0.z] 3) (hg0 : ¬ b0 = g) (h2 : Blk w b2 #[.int .i64 r2.x, .int .i64 r2.y, .int .i64 r2.z] 3) (hg2 : ¬ b2 = g) (n02 : ¬ b0 = b2) (k02 : Lat.Ok 2 r0 r2) :
    Calls Tryz.prog 80 #[.int .i64 3, .slice (some ⟨g, 0, none⟩) 3 3] w fun e w' => e = .returned (.tuple #[]) ∧ Upd2 w w' b0 b1 ∧ Blk w' g #[.slice (some ⟨b0, 0, none⟩) 3 3, nilS, .slice (some ⟨b2, 0, none⟩) 3 3] 23 ∧ Blk w' b0 #[.int .i64 (Lat.tid 2 r0 r2).x, .int .i64 (Lat.tid 2 r0 r2).y, .int .i64 (Lat.tid 2 r0 r2).z] 3 ∧ Blk w' b2 #[.int .i64 r2.x, .int .i64 r2.y, .int .i64 r2.z] 3 := by
  have n20 : ¬ b2 = b0 := fun e => n02 e.symm
  have gh0 : ¬ g = b0 := fun e => hg0 e.symm
  have gh2 : ¬ g = b2 := fun e => hg2 e.symm
  have hU : Upd2 w w b0 b1 := Upd2.refl _ _ _
  have kg0 := hg.cell 0
  have kg1 := hg.cell 1
  have kg2 := hg.cell 2
  simp at kg0 kg1 kg2
  go_enter Tryz.func80, Tryz.ntmps80
  unfold nilS at *
  go_wp2
  refine wp_loop_rounds 4 ?_
  rw [rounds_succ]; go_wp2
  refine wp_loop_rounds 1 ?_
  rw [rounds_succ]; go_wp2
  rw [rounds_succ]; go_wp2
  refine wp_loop_rounds 1 ?_
  rw [rounds_succ]; go_wp2
  rw [rounds_succ]; go_wp2
  refine wp_loop_rounds 3 ?_
  rw [rounds_succ]; go_wp2
  rw [rounds_succ]
  go_upto_block 3 with fail
  go_cut [] (fun wx => Upd2 w wx b0 b1 ∧ Blk wx g #[.slice (some ⟨b0, 0, none⟩) 3 3, .slice none 0 0, .slice (some ⟨b2, 0, none⟩) 3 3] 23 ∧ Blk wx b0 #[.int .i64 (Lat.tid 2 r0 r2).x, .int .i64 (Lat.tid 2 r0 r2).y, .int .i64 (Lat.tid 2 r0 r2).z] 3 ∧ Blk wx b2 #[.int .i64 r2.x, .int .i64 r2.y, .int .i64 r2.z] 3)
  case first =>
    have ci := h0.cell 2
    have cc := h2.cell 2
    simp at ci cc
    have hQ := hide k02
    have HT : Hid (∀ w0, w0.heap = w.heap → Calls Tryz.prog 92 #[.slice (some ⟨b0, 0, none⟩) 3 3, .int .i64 (r0.z / r2.z), .slice (some ⟨b2, 0, none⟩) 3 3] w0 fun e w' => e = .returned (.tuple #[]) ∧ Upd w0 w' b0 #[.int .i64 (Lat.tid 2 r0 r2).x, .int .i64 (Lat.tid 2 r0 r2).y, .int .i64 (Lat.tid 2 r0 r2).z]) := fun w0 hw0 => by
      exact less3 r0 r2 _ b0 b2 w0 (by unfold Blk; rw [hw0]; exact h0) (by unfold Blk; rw [hw0]; exact h2) n02 hQ.out.lx hQ.out.mx hQ.out.ly hQ.out.my hQ.out.lz hQ.out.mz
    have HF : Hid (∀ w0, Calls Tryz.prog 93 #[.int .i64 r0.z, .int .i64 r2.z] w0 fun e w' => e = .returned (.int .i64 (r0.z / r2.z)) ∧ w' = w0) := fun w0 => by
      exact floor_any _ _ w0 (by have := hQ.out.lz; omega) (by have := hQ.out.lz; omega) hQ.out.pos hQ.out.top
    have HU := hide hU
    clear hU k02
    go_wp2
    refine wp_region_still_tail 14 (by kernel_rfl) (by kernel_rfl) ?_
    change wpStill _ _ (World.drew _) (fun a' => wpList _ _ _ _ a' (World.drew _)) _ _
    simp only [List.take_succ_cons, List.take_zero, List.drop_succ_cons, List.drop_zero]
    repeat still_step
    try refine wpStill_nil ?_
    go_wp2_with fail
    refine (HF.out _).mono ?_
    rintro e w1 ⟨rfl, rfl⟩
    go_wp2
    refine wp_region_still_tail 9 (by kernel_rfl) (by kernel_rfl) ?_
    change wpStill _ _ (World.drew _) (fun a' => wpList _ _ _ _ a' (World.drew _)) _ _
    simp only [List.take_succ_cons, List.take_zero, List.drop_succ_cons, List.drop_zero]
    repeat still_step
    try refine wpStill_nil ?_
    go_wp2_with fail
    refine (HT.out w.drew.drew rfl).mono ?_
    rintro e w1 ⟨rfl, hu⟩
    have hu2 : Upd w w1 b0 #[.int .i64 (Lat.tid 2 r0 r2).x, .int .i64 (Lat.tid 2 r0 r2).y, .int .i64 (Lat.tid 2 r0 r2).z] := ⟨hu.blk, hu.keep, hu.size, hu.os, hu.tape, hu.output⟩
    have HU2 := hide hu2
    clear hu hu2
    go_wp2
    go_meet
    exact ⟨HU.out.upd HU2.out (Or.inl rfl), by unfold Blk; rw [HU2.out.keep g gh0]; exact hg, HU2.out.blk, by unfold Blk; rw [HU2.out.keep b2 n20]; exact h2⟩
  case rest =>
  rename World => wA1
  clear hU hg h0 h2 kg0 kg1 kg2
  obtain ⟨hU, hg, h0, h2⟩ := hcut
  have kg0 := hg.cell 0
  have kg1 := hg.cell 1
  have kg2 := hg.cell 2
  simp at kg0 kg1 kg2
  go_wp2
  rw [rounds_succ]; go_wp2
  have HU := hide hU
  clear hU
  rw [rounds_succ]; go_wp2
  go_end0
  exact ⟨rfl, HU.out, hg, h0, h2⟩

set_option maxRecDepth 100000 in
set_option maxHeartbeats 4000000 in
theorem tidy3_6 (b0 : Nat) (b1 : Nat) (b2 : Nat) (g : Nat) (r1 : Lat.V) (r2 : Lat.V) (w : World) (hg : Blk w g #[nilS, .slice (some ⟨b1, 0, none⟩) 3 3, .slice (some ⟨b2, 0, none⟩) 3 3] 23) (h1 : Blk w b1 #[.int .i64 r1.x, .int .i64 r1.y, .int .i64 r1.z] 3) (hg1 : ¬ b1 = g) (h2 : Blk w b2 #[.int .i64 r2.x, .int .i64 r2.y, .int .i64 r2.z] 3) (hg2 : ¬ b2 = g) (n12 : ¬ b1 = b2) (k12 : Lat.Ok 2 r1 r2) :
    Calls Tryz.prog 80 #[.int .i64 3, .slice (some ⟨g, 0, none⟩) 3 3] w fun e w' => e = .returned (.tuple #[]) ∧ Upd2 w w' b0 b1 ∧ Blk w' g #[nilS, .slice (some ⟨b1, 0, none⟩) 3 3, .slice (some ⟨b2, 0, none⟩) 3 3] 23 ∧ Blk w' b1 #[.int .i64 (Lat.tid 2 r1 r2).x, .int .i64 (Lat.tid 2 r1 r2).y, .int .i64 (Lat.tid 2 r1 r2).z] 3 ∧ Blk w' b2 #[.int .i64 r2.x, .int .i64 r2.y, .int .i64 r2.z] 3 := by
  have n21 : ¬ b2 = b1 := fun e => n12 e.symm
  have gh1 : ¬ g = b1 := fun e => hg1 e.symm
  have gh2 : ¬ g = b2 := fun e => hg2 e.symm
  have hU : Upd2 w w b0 b1 := Upd2.refl _ _ _
  have kg0 := hg.cell 0
  have kg1 := hg.cell 1
  have kg2 := hg.cell 2
  simp at kg0 kg1 kg2
  go_enter Tryz.func80, Tryz.ntmps80
  unfold nilS at *
  go_wp2
  refine wp_loop_rounds 4 ?_
  rw [rounds_succ]; go_wp2
  refine wp_loop_rounds 1 ?_
  rw [rounds_succ]; go_wp2
  rw [rounds_succ]; go_wp2
  refine wp_loop_rounds 2 ?_
  rw [rounds_succ]
  go_upto_block 3 with fail
  go_cut [] (fun wx => Upd2 w wx b0 b1 ∧ Blk wx g #[.slice none 0 0, .slice (some ⟨b1, 0, none⟩) 3 3, .slice (some ⟨b2, 0, none⟩) 3 3] 23 ∧ Blk wx b1 #[.int .i64 (Lat.tid 2 r1 r2).x, .int .i64 (Lat.tid 2 r1 r2).y, .int .i64 (Lat.tid 2 r1 r2).z] 3 ∧ Blk wx b2 #[.int .i64 r2.x, .int .i64 r2.y, .int .i64 r2.z] 3)
  case first =>
    have ci := h1.cell 2
    have cc := h2.cell 2
    simp at ci cc
    have hQ := hide k12
    have HT : Hid (∀ w0, w0.heap = w.heap → Calls Tryz.prog 92 #[.slice (some ⟨b1, 0, none⟩) 3 3, .int .i64 (r1.z / r2.z), .slice (some ⟨b2, 0, none⟩) 3 3] w0 fun e w' => e = .returned (.tuple #[]) ∧ Upd w0 w' b1 #[.int .i64 (Lat.tid 2 r1 r2).x, .int .i64 (Lat.tid 2 r1 r2).y, .int .i64 (Lat.tid 2 r1 r2).z]) := fun w0 hw0 => by
      exact less3 r1 r2 _ b1 b2 w0 (by unfold Blk; rw [hw0]; exact h1) (by unfold Blk; rw [hw0]; exact h2) n12 hQ.out.lx hQ.out.mx hQ.out.ly hQ.out.my hQ.out.lz hQ.out.mz
    have HF : Hid (∀ w0, Calls Tryz.prog 93 #[.int .i64 r1.z, .int .i64 r2.z] w0 fun e w' => e = .returned (.int .i64 (r1.z / r2.z)) ∧ w' = w0) := fun w0 => by
      exact floor_any _ _ w0 (by have := hQ.out.lz; omega) (by have := hQ.out.lz; omega) hQ.out.pos hQ.out.top
    have HU := hide hU
    clear hU k12
    go_wp2
    refine wp_region_still_tail 14 (by kernel_rfl) (by kernel_rfl) ?_
    change wpStill _ _ (World.drew _) (fun a' => wpList _ _ _ _ a' (World.drew _)) _ _
    simp only [List.take_succ_cons, List.take_zero, List.drop_succ_cons, List.drop_zero]
    repeat still_step
    try refine wpStill_nil ?_
    go_wp2_with fail
    refine (HF.out _).mono ?_
    rintro e w1 ⟨rfl, rfl⟩
    go_wp2
    refine wp_region_still_tail 9 (by kernel_rfl) (by kernel_rfl) ?_
    change wpStill _ _ (World.drew _) (fun a' => wpList _ _ _ _ a' (World.drew _)) _ _
    simp only [List.take_succ_cons, List.take_zero, List.drop_succ_cons, List.drop_zero]
    repeat still_step
    try refine wpStill_nil ?_
    go_wp2_with fail
    refine (HT.out w.drew.drew rfl).mono ?_
    rintro e w1 ⟨rfl, hu⟩
    have hu2 : Upd w w1 b1 #[.int .i64 (Lat.tid 2 r1 r2).x, .int .i64 (Lat.tid 2 r1 r2).y, .int .i64 (Lat.tid 2 r1 r2).z] := ⟨hu.blk, hu.keep, hu.size, hu.os, hu.tape, hu.output⟩
    have HU2 := hide hu2
    clear hu hu2
    go_wp2
    go_meet
    exact ⟨HU.out.upd HU2.out (Or.inr rfl), by unfold Blk; rw [HU2.out.keep g gh1]; exact hg, HU2.out.blk, by unfold Blk; rw [HU2.out.keep b2 n21]; exact h2⟩
  case rest =>
  rename World => wA1
  clear hU hg h1 h2 kg0 kg1 kg2
  obtain ⟨hU, hg, h1, h2⟩ := hcut
  have kg0 := hg.cell 0
  have kg1 := hg.cell 1
  have kg2 := hg.cell 2
  simp at kg0 kg1 kg2
  go_wp2
  rw [rounds_succ]; go_wp2
  rw [rounds_succ]; go_wp2
  refine wp_loop_rounds 1 ?_
  rw [rounds_succ]; go_wp2
  have HU := hide hU
  clear hU
  rw [rounds_succ]; go_wp2
  go_end0
  exact ⟨rfl, HU.out, hg, h1, h2⟩

set_option maxRecDepth 100000 in
set_option maxHeartbeats 4000000 in
theorem tidy3_7 (b0 : Nat) (b1 : Nat) (b2 : Nat) (g : Nat) (r0 : Lat.V) (r1 : Lat.V) (r2 : Lat.V) (w : World) (hg : Blk w g #[.slice (some ⟨b0, 0, none⟩) 3 3, .slice (some ⟨b1, 0, none⟩) 3 3, .slice (some ⟨b2, 0, none⟩) 3 3] 23) (h0 : Blk w b0 #[.int .i64 r0.x, .int .i64 r0.y, .int .i64 r0.z] 3) (hg0 : ¬ b0 = g) (h1 : Blk w b1 #[.int .i64 r1.x, .int .i64 r1.y, .int .i64 r1.z] 3) (hg1 : ¬ b1 = g) (h2 : Blk w b2 #[.int .i64 r2.x, .int .i64 r2.y, .int .i64 r2.z] 3) (hg2 : ¬ b2 = g) (n01 : ¬ b0 = b1) (n02 : ¬ b0 = b2) (n12 : ¬ b1 = b2) (k12 : Lat.Ok 2 r1 r2) (k01 : Lat.Ok 1 r0 (Lat.tid 2 r1 r2)) (k02 : Lat.Ok 2 (Lat.tid 1 r0 (Lat.tid 2 r1 r2)) r2) :
    Calls Tryz.prog 80 #[.int .i64 3, .slice (some ⟨g, 0, none⟩) 3 3] w fun e w' => e = .returned (.tuple #[]) ∧ Upd2 w w' b0 b1 ∧ Blk w' g #[.slice (some ⟨b0, 0, none⟩) 3 3, .slice (some ⟨b1, 0, none⟩) 3 3, .slice (some ⟨b2, 0, none⟩) 3 3] 23 ∧ Blk w' b0 #[.int .i64 (Lat.tid 2 (Lat.tid 1 r0 (Lat.tid 2 r1 r2)) r2).x, .int .i64 (Lat.tid 2 (Lat.tid 1 r0 (Lat.tid 2 r1 r2)) r2).y, .int .i64 (Lat.tid 2 (Lat.tid 1 r0 (Lat.tid 2 r1 r2)) r2).z] 3 ∧ Blk w' b1 #[.int .i64 (Lat.tid 2 r1 r2).x, .int .i64 (Lat.tid 2 r1 r2).y, .int .i64 (Lat.tid 2 r1 r2).z] 3 ∧ Blk w' b2 #[.int .i64 r2.x, .int .i64 r2.y, .int .i64 r2.z] 3 := by
  have n10 : ¬ b1 = b0 := fun e => n01 e.symm
  have n20 : ¬ b2 = b0 := fun e => n02 e.symm
  have n21 : ¬ b2 = b1 := fun e => n12 e.symm
  have gh0 : ¬ g = b0 := fun e => hg0 e.symm
  have gh1 : ¬ g = b1 := fun e => hg1 e.symm
  have gh2 : ¬ g = b2 := fun e => hg2 e.symm
  have hU : Upd2 w w b0 b1 := Upd2.refl _ _ _
  have kg0 := hg.cell 0
  have kg1 := hg.cell 1
  have kg2 := hg.cell 2
  simp at kg0 kg1 kg2
  go_enter Tryz.func80, Tryz.ntmps80
  go_wp2
  refine wp_loop_rounds 4 ?_
  rw [rounds_succ]; go_wp2
  refine wp_loop_rounds 1 ?_
  rw [rounds_succ]; go_wp2
  rw [rounds_succ]; go_wp2
  refine wp_loop_rounds 2 ?_
  rw [rounds_succ]
  go_upto_block 3 with fail
  go_cut [] (fun wx => Upd2 w wx b0 b1 ∧ Blk wx g #[.slice (some ⟨b0, 0, none⟩) 3 3, .slice (some ⟨b1, 0, none⟩) 3 3, .slice (some ⟨b2, 0, none⟩) 3 3] 23 ∧ Blk wx b0 #[.int .i64 r0.x, .int .i64 r0.y, .int .i64 r0.z] 3 ∧ Blk wx b1 #[.int .i64 (Lat.tid 2 r1 r2).x, .int .i64 (Lat.tid 2 r1 r2).y, .int .i64 (Lat.tid 2 r1 r2).z] 3 ∧ Blk wx b2 #[.int .i64 r2.x, .int .i64 r2.y, .int .i64 r2.z] 3)
  case first =>
    have ci := h1.cell 2
    have cc := h2.cell 2
    simp at ci cc
    have hQ := hide k12
    have HT : Hid (∀ w0, w0.heap = w.heap → Calls Tryz.prog 92 #[.slice (some ⟨b1, 0, none⟩) 3 3, .int .i64 (r1.z / r2.z), .slice (some ⟨b2, 0, none⟩) 3 3] w0 fun e w' => e = .returned (.tuple #[]) ∧ Upd w0 w' b1 #[.int .i64 (Lat.tid 2 r1 r2).x, .int .i64 (Lat.tid 2 r1 r2).y, .int .i64 (Lat.tid 2 r1 r2).z]) := fun w0 hw0 => by
      exact less3 r1 r2 _ b1 b2 w0 (by unfold Blk; rw [hw0]; exact h1) (by unfold Blk; rw [hw0]; exact h2) n12 hQ.out.lx hQ.out.mx hQ.out.ly hQ.out.my hQ.out.lz hQ.out.mz
    have HF : Hid (∀ w0, Calls Tryz.prog 93 #[.int .i64 r1.z, .int .i64 r2.z] w0 fun e w' => e = .returned (.int .i64 (r1.z / r2.z)) ∧ w' = w0) := fun w0 => by
      exact floor_any _ _ w0 (by have := hQ.out.lz; omega) (by have := hQ.out.lz; omega) hQ.out.pos hQ.out.top
    have HU := hide hU
    clear hU k12
    go_wp2
    refine wp_region_still_tail 14 (by kernel_rfl) (by kernel_rfl) ?_
    change wpStill _ _ (World.drew _) (fun a' => wpList _ _ _ _ a' (World.drew _)) _ _
    simp only [List.take_succ_cons, List.take_zero, List.drop_succ_cons, List.drop_zero]
    repeat still_step
    try refine wpStill_nil ?_
    go_wp2_with fail
    refine (HF.out _).mono ?_
    rintro e w1 ⟨rfl, rfl⟩
    go_wp2
    refine wp_region_still_tail 9 (by kernel_rfl) (by kernel_rfl) ?_
    change wpStill _ _ (World.drew _) (fun a' => wpList _ _ _ _ a' (World.drew _)) _ _
    simp only [List.take_succ_cons, List.take_zero, List.drop_succ_cons, List.drop_zero]
    repeat still_step
    try refine wpStill_nil ?_
    go_wp2_with fail
    refine (HT.out w.drew.drew rfl).mono ?_
    rintro e w1 ⟨rfl, hu⟩
    have hu2 : Upd w w1 b1 #[.int .i64 (Lat.tid 2 r1 r2).x, .int .i64 (Lat.tid 2 r1 r2).y, .int .i64 (Lat.tid 2 r1 r2).z] := ⟨hu.blk, hu.keep, hu.size, hu.os, hu.tape, hu.output⟩
    have HU2 := hide hu2
    clear hu hu2
    go_wp2
    go_meet
    exact ⟨HU.out.upd HU2.out (Or.inr rfl), by unfold Blk; rw [HU2.out.keep g gh1]; exact hg, by unfold Blk; rw [HU2.out.keep b0 n01]; exact h0, HU2.out.blk, by unfold Blk; rw [HU2.out.keep b2 n21]; exact h2⟩
  case rest =>
  rename World => wA1
  clear hU hg h0 h1 h2 kg0 kg1 kg2
  obtain ⟨hU, hg, h0, h1, h2⟩ := hcut
  have kg0 := hg.cell 0
  have kg1 := hg.cell 1
  have kg2 := hg.cell 2
  simp at kg0 kg1 kg2
  go_wp2
  rw [rounds_succ]; go_wp2
  rw [rounds_succ]; go_wp2
  refine wp_loop_rounds 3 ?_
  rw [rounds_succ]
  go_upto_block 3 with fail
  go_cut [] (fun wx => Upd2 w wx b0 b1 ∧ Blk wx g #[.slice (some ⟨b0, 0, none⟩) 3 3, .slice (some ⟨b1, 0, none⟩) 3 3, .slice (some ⟨b2, 0, none⟩) 3 3] 23 ∧ Blk wx b0 #[.int .i64 (Lat.tid 1 r0 (Lat.tid 2 r1 r2)).x, .int .i64 (Lat.tid 1 r0 (Lat.tid 2 r1 r2)).y, .int .i64 (Lat.tid 1 r0 (Lat.tid 2 r1 r2)).z] 3 ∧ Blk wx b1 #[.int .i64 (Lat.tid 2 r1 r2).x, .int .i64 (Lat.tid 2 r1 r2).y, .int .i64 (Lat.tid 2 r1 r2).z] 3 ∧ Blk wx b2 #[.int .i64 r2.x, .int .i64 r2.y, .int .i64 r2.z] 3)
  case first =>
    have ci := h0.cell 1
    have cc := h1.cell 1
    simp at ci cc
    have hQ := hide k01
    have HT : Hid (∀ w0, w0.heap = wA1.heap → Calls Tryz.prog 92 #[.slice (some ⟨b0, 0, none⟩) 3 3, .int .i64 (r0.y / (Lat.tid 2 r1 r2).y), .slice (some ⟨b1, 0, none⟩) 3 3] w0 fun e w' => e = .returned (.tuple #[]) ∧ Upd w0 w' b0 #[.int .i64 (Lat.tid 1 r0 (Lat.tid 2 r1 r2)).x, .int .i64 (Lat.tid 1 r0 (Lat.tid 2 r1 r2)).y, .int .i64 (Lat.tid 1 r0 (Lat.tid 2 r1 r2)).z]) := fun w0 hw0 => by
      exact less3 r0 (Lat.tid 2 r1 r2) _ b0 b1 w0 (by unfold Blk; rw [hw0]; exact h0) (by unfold Blk; rw [hw0]; exact h1) n01 hQ.out.lx hQ.out.mx hQ.out.ly hQ.out.my hQ.out.lz hQ.out.mz
    have HF : Hid (∀ w0, Calls Tryz.prog 93 #[.int .i64 r0.y, .int .i64 (Lat.tid 2 r1 r2).y] w0 fun e w' => e = .returned (.int .i64 (r0.y / (Lat.tid 2 r1 r2).y)) ∧ w' = w0) := fun w0 => by
      exact floor_any _ _ w0 (by have := hQ.out.ly; omega) (by have := hQ.out.ly; omega) hQ.out.pos hQ.out.top
    have HU := hide hU
    clear hU k01
    go_wp2
    refine wp_region_still_tail 14 (by kernel_rfl) (by kernel_rfl) ?_
    change wpStill _ _ (World.drew _) (fun a' => wpList _ _ _ _ a' (World.drew _)) _ _
    simp only [List.take_succ_cons, List.take_zero, List.drop_succ_cons, List.drop_zero]
    repeat still_step
    try refine wpStill_nil ?_
    go_wp2_with fail
    refine (HF.out _).mono ?_
    rintro e w1 ⟨rfl, rfl⟩
    go_wp2
    refine wp_region_still_tail 9 (by kernel_rfl) (by kernel_rfl) ?_
    change wpStill _ _ (World.drew _) (fun a' => wpList _ _ _ _ a' (World.drew _)) _ _
    simp only [List.take_succ_cons, List.take_zero, List.drop_succ_cons, List.drop_zero]
    repeat still_step
    try refine wpStill_nil ?_
    go_wp2_with fail
    refine (HT.out wA1.drew.drew rfl).mono ?_
    rintro e w1 ⟨rfl, hu⟩
    have hu2 : Upd wA1 w1 b0 #[.int .i64 (Lat.tid 1 r0 (Lat.tid 2 r1 r2)).x, .int .i64 (Lat.tid 1 r0 (Lat.tid 2 r1 r2)).y, .int .i64 (Lat.tid 1 r0 (Lat.tid 2 r1 r2)).z] := ⟨hu.blk, hu.keep, hu.size, hu.os, hu.tape, hu.output⟩
    have HU2 := hide hu2
    clear hu hu2
    go_wp2
    go_meet
    exact ⟨HU.out.upd HU2.out (Or.inl rfl), by unfold Blk; rw [HU2.out.keep g gh0]; exact hg, HU2.out.blk, by unfold Blk; rw [HU2.out.keep b1 n10]; exact h1, by unfold Blk; rw [HU2.out.keep b2 n20]; exact h2⟩
  case rest =>
  rename World => wA2
  clear hU hg h0 h1 h2 kg0 kg1 kg2
  obtain ⟨hU, hg, h0, h1, h2⟩ := hcut
  have kg0 := hg.cell 0
  have kg1 := hg.cell 1
  have kg2 := hg.cell 2
  simp at kg0 kg1 kg2
  go_wp2
  rw [rounds_succ]
  go_upto_block 3 with fail
  go_cut [] (fun wx => Upd2 w wx b0 b1 ∧ Blk wx g #[.slice (some ⟨b0, 0, none⟩) 3 3, .slice (some ⟨b1, 0, none⟩) 3 3, .slice (some ⟨b2, 0, none⟩) 3 3] 23 ∧ Blk wx b0 #[.int .i64 (Lat.tid 2 (Lat.tid 1 r0 (Lat.tid 2 r1 r2)) r2).x, .int .i64 (Lat.tid 2 (Lat.tid 1 r0 (Lat.tid 2 r1 r2)) r2).y, .int .i64 (Lat.tid 2 (Lat.tid 1 r0 (Lat.tid 2 r1 r2)) r2).z] 3 ∧ Blk wx b1 #[.int .i64 (Lat.tid 2 r1 r2).x, .int .i64 (Lat.tid 2 r1 r2).y, .int .i64 (Lat.tid 2 r1 r2).z] 3 ∧ Blk wx b2 #[.int .i64 r2.x, .int .i64 r2.y, .int .i64 r2.z] 3)
  case first =>
    have ci := h0.cell 2
    have cc := h2.cell 2
    simp at ci cc
    have hQ := hide k02
    have HT : Hid (∀ w0, w0.heap = wA2.heap → Calls Tryz.prog 92 #[.slice (some ⟨b0, 0, none⟩) 3 3, .int .i64 ((Lat.tid 1 r0 (Lat.tid 2 r1 r2)).z / r2.z), .slice (some ⟨b2, 0, none⟩) 3 3] w0 fun e w' => e = .returned (.tuple #[]) ∧ Upd w0 w' b0 #[.int .i64 (Lat.tid 2 (Lat.tid 1 r0 (Lat.tid 2 r1 r2)) r2).x, .int .i64 (Lat.tid 2 (Lat.tid 1 r0 (Lat.tid 2 r1 r2)) r2).y, .int .i64 (Lat.tid 2 (Lat.tid 1 r0 (Lat.tid 2 r1 r2)) r2).z]) := fun w0 hw0 => by
      exact less3 (Lat.tid 1 r0 (Lat.tid 2 r1 r2)) r2 _ b0 b2 w0 (by unfold Blk; rw [hw0]; exact h0) (by unfold Blk; rw [hw0]; exact h2) n02 hQ.out.lx hQ.out.mx hQ.out.ly hQ.out.my hQ.out.lz hQ.out.mz
    have HF : Hid (∀ w0, Calls Tryz.prog 93 #[.int .i64 (Lat.tid 1 r0 (Lat.tid 2 r1 r2)).z, .int .i64 r2.z] w0 fun e w' => e = .returned (.int .i64 ((Lat.tid 1 r0 (Lat.tid 2 r1 r2)).z / r2.z)) ∧ w' = w0) := fun w0 => by
      exact floor_any _ _ w0 (by have := hQ.out.lz; omega) (by have := hQ.out.lz; omega) hQ.out.pos hQ.out.top
    have HU := hide hU
    clear hU k02
    go_wp2
    refine wp_region_still_tail 14 (by kernel_rfl) (by kernel_rfl) ?_
    change wpStill _ _ (World.drew _) (fun a' => wpList _ _ _ _ a' (World.drew _)) _ _
    simp only [List.take_succ_cons, List.take_zero, List.drop_succ_cons, List.drop_zero]
    repeat still_step
    try refine wpStill_nil ?_
    go_wp2_with fail
    refine (HF.out _).mono ?_
    rintro e w1 ⟨rfl, rfl⟩
    go_wp2
    refine wp_region_still_tail 9 (by kernel_rfl) (by kernel_rfl) ?_
    change wpStill _ _ (World.drew _) (fun a' => wpList _ _ _ _ a' (World.drew _)) _ _
    simp only [List.take_succ_cons, List.take_zero, List.drop_succ_cons, List.drop_zero]
    repeat still_step
    try refine wpStill_nil ?_
    go_wp2_with fail
    refine (HT.out wA2.drew.drew rfl).mono ?_
    rintro e w1 ⟨rfl, hu⟩
    have hu2 : Upd wA2 w1 b0 #[.int .i64 (Lat.tid 2 (Lat.tid 1 r0 (Lat.tid 2 r1 r2)) r2).x, .int .i64 (Lat.tid 2 (Lat.tid 1 r0 (Lat.tid 2 r1 r2)) r2).y, .int .i64 (Lat.tid 2 (Lat.tid 1 r0 (Lat.tid 2 r1 r2)) r2).z] := ⟨hu.blk, hu.keep, hu.size, hu.os, hu.tape, hu.output⟩
    have HU2 := hide hu2
    clear hu hu2
    go_wp2
    go_meet
    exact ⟨HU.out.upd HU2.out (Or.inl rfl), by unfold Blk; rw [HU2.out.keep g gh0]; exact hg, HU2.out.blk, by unfold Blk; rw [HU2.out.keep b1 n10]; exact h1, by unfold Blk; rw [HU2.out.keep b2 n20]; exact h2⟩
  case rest =>
  rename World => wA3
  clear hU hg h0 h1 h2 kg0 kg1 kg2
  obtain ⟨hU, hg, h0, h1, h2⟩ := hcut
  have kg0 := hg.cell 0
  have kg1 := hg.cell 1
  have kg2 := hg.cell 2
  simp at kg0 kg1 kg2
  go_wp2
  rw [rounds_succ]; go_wp2
  have HU := hide hU
  clear hU
  rw [rounds_succ]; go_wp2
  go_end0
  exact ⟨rfl, HU.out, hg, h0, h1, h2⟩

end Go.Proofs.YtmlcblnndihjoaaGreat
