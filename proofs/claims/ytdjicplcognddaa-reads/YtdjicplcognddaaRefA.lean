import Derived.Test.YtdjicplcognddaaMovedB
namespace Go.Proofs.Ytdjicplcognddaa
open Go.RowKit

/-- all of w, but for block b, which holds cs -/
structure Upd (w w' : World) (b : Nat) (cs : Array Value) : Prop where
  blk : Blk w' b cs 3
  keep : ∀ m, m ≠ b → w'.heap[m]? = w.heap[m]?
  size : w'.heap.size = w.heap.size
  os : w'.os = w.os
  tape : w'.tape = w.tape
  output : w'.output = w.output

theorem Upd.refl {w : World} {b : Nat} {cs : Array Value} (h : Blk w b cs 3) : Upd w w b cs := ⟨h, fun _ _ => rfl, rfl, rfl, rfl, rfl⟩
theorem Upd.cell {w w' : World} {b : Nat} {cs : Array Value} (h : Upd w w' b cs) {a : Addr} (ha : ¬ a.block = b) : w'.cell? a = w.cell? a := World.cell?_of_block (h.keep _ ha)
theorem Upd.store {w w' : World} {b o : Nat} {cs cs' : Array Value} {v : Value} (h : Upd w w' b cs) (he : cs.setIfInBounds o v = cs') : Upd w (w'.setCell ⟨b, o, none⟩ v).drew b cs' := by
  refine ⟨?_, fun m hm => ?_, ?_, h.os, h.tape, h.output⟩
  · rw [← he]; exact (h.blk.set o v).drew
  · exact (Below.heap_setCell w' ⟨b, o, none⟩ v m hm).trans (h.keep m hm)
  · have : (w'.setCell ⟨b, o, none⟩ v).drew.heap.size = w'.heap.size := by simp [World.setCell]
    rw [this]; exact h.size
theorem Upd.drew {w w' : World} {b : Nat} {cs : Array Value} (h : Upd w.drew w' b cs) : Upd w w' b cs := ⟨h.blk, h.keep, h.size, h.os, h.tape, h.output⟩
theorem Upd.drewN {w w' : World} {b n : Nat} {cs : Array Value} (h : Upd (w.drewN n) w' b cs) : Upd w w' b cs := ⟨h.blk, h.keep, h.size, h.os, h.tape, h.output⟩
theorem Upd.below {w w' : World} {b B : Nat} {cs : Array Value} (h : Upd w w' b cs) (hB : B ≤ b) : Below B w w' := ⟨h.os, h.tape, h.output, by rw [h.size]; exact Nat.le_refl _, fun k hk => h.keep k (by omega)⟩

set_option maxHeartbeats 400000 in
theorem floor_any (a p : Int) (w : World) (h1 : -4611686018427387904 ≤ a) (h2 : a ≤ 4611686018427387904) (h3 : 0 < p) (h4 : p ≤ 4611686018427387904) :
    Calls Try.prog 79 #[.int .i64 a, .int .i64 p] w fun e w' => e = .returned (.int .i64 (a / p)) ∧ w' = w := by
  have hp : ¬ p = 0 := by omega
  go_enter Try.func79, Try.ntmps79
  go_wp2
  · go_ret
    have e := quot_neg (a := a) (p := p) h3 (by assumption)
    have b := Lat.div_le a p (by omega)
    exact ⟨ret_val (congrArg (Value.int IntKind.i64) (by rw [e]; exact IntWalk.wrap64_in _ (by omega))), rfl⟩
  · go_ret
    have e := quot_pos (a := a) (p := p) h3 (by assumption)
    exact ⟨ret_val (congrArg (Value.int IntKind.i64) e), rfl⟩

set_option maxRecDepth 100000 in
set_option maxHeartbeats 2000000 in
theorem less1 (a b : Lat.V) (k : Int) (pa pb : Nat) (w : World) (ba : Blk w pa #[.int .i64 a.x] 3) (bb : Blk w pb #[.int .i64 b.x] 3) (hne : pa ≠ pb) (x1 : a.x.natAbs ≤ 4611686018427387903) (x2 : (k * b.x).natAbs ≤ 4611686018427387903) :
    Calls Try.prog 78 #[.slice (some ⟨pa, 0, none⟩) 1 1, .int .i64 k, .slice (some ⟨pb, 0, none⟩) 1 1] w fun e w' => e = .returned (.tuple #[]) ∧ Upd w w' pa #[.int .i64 (Lat.less a k b).x] := by
  have wax : IntKind.i64.wrap (k * b.x) = k * b.x := wrap_in (by omega) (by omega)
  have wbx : IntKind.i64.wrap (a.x - k * b.x) = a.x - k * b.x := wrap_in (by omega) (by omega)
  have n1 : ¬ pa = pb := hne
  have n2 : ¬ pb = pa := fun e => hne e.symm
  clear x1 x2 hne
  have hA : Upd w w pa #[.int .i64 a.x] := Upd.refl ba
  go_enter Try.func78, Try.ntmps78
  go_wp2
  refine wp_loop_rounds 2 ?_
  rw [rounds_succ]
  go_upto_block 1 with fail
  go_cut [] (fun wx => Upd w wx pa #[.int .i64 (a.x - k * b.x)])
  case first =>
    have kb := (hA.cell (a := ⟨pb, 0, none⟩) n2).trans (bb.cell 0)
    have ka := hA.blk.cell 0
    have kf := hA.blk.frozen 0
    simp at ka kb
    go_wp2
    refine wp_region_still_tail 14 (by kernel_rfl) (by kernel_rfl) ?_
    change wpStill _ _ (World.drew _) (fun a' => wpList _ _ _ _ a' (World.drew _)) _ _
    simp only [List.take_succ_cons, List.take_zero, List.drop_succ_cons, List.drop_zero]
    repeat still_step
    try refine wpStill_nil ?_
    go_wp2
    go_meet
    exact hA.store (by simp)
  case rest =>
  rename World => wA0
  clear hA
  have hA := hcut
  clear hcut
  go_wp2
  rw [rounds_succ]
  have HA := hide hA
  clear hA
  go_wp2
  go_end0
  exact ⟨rfl, HA.out⟩

set_option maxRecDepth 100000 in
set_option maxHeartbeats 2000000 in
theorem less2 (a b : Lat.V) (k : Int) (pa pb : Nat) (w : World) (ba : Blk w pa #[.int .i64 a.x, .int .i64 a.y] 3) (bb : Blk w pb #[.int .i64 b.x, .int .i64 b.y] 3) (hne : pa ≠ pb) (x1 : a.x.natAbs ≤ 4611686018427387903) (x2 : (k * b.x).natAbs ≤ 4611686018427387903) (y1 : a.y.natAbs ≤ 4611686018427387903) (y2 : (k * b.y).natAbs ≤ 4611686018427387903) :
    Calls Try.prog 78 #[.slice (some ⟨pa, 0, none⟩) 2 2, .int .i64 k, .slice (some ⟨pb, 0, none⟩) 2 2] w fun e w' => e = .returned (.tuple #[]) ∧ Upd w w' pa #[.int .i64 (Lat.less a k b).x, .int .i64 (Lat.less a k b).y] := by
  have wax : IntKind.i64.wrap (k * b.x) = k * b.x := wrap_in (by omega) (by omega)
  have wbx : IntKind.i64.wrap (a.x - k * b.x) = a.x - k * b.x := wrap_in (by omega) (by omega)
  have way : IntKind.i64.wrap (k * b.y) = k * b.y := wrap_in (by omega) (by omega)
  have wby : IntKind.i64.wrap (a.y - k * b.y) = a.y - k * b.y := wrap_in (by omega) (by omega)
  have n1 : ¬ pa = pb := hne
  have n2 : ¬ pb = pa := fun e => hne e.symm
  clear x1 x2 y1 y2 hne
  have hA : Upd w w pa #[.int .i64 a.x, .int .i64 a.y] := Upd.refl ba
  go_enter Try.func78, Try.ntmps78
  go_wp2
  refine wp_loop_rounds 3 ?_
  rw [rounds_succ]
  go_upto_block 1 with fail
  go_cut [] (fun wx => Upd w wx pa #[.int .i64 (a.x - k * b.x), .int .i64 a.y])
  case first =>
    have kb := (hA.cell (a := ⟨pb, 0, none⟩) n2).trans (bb.cell 0)
    have ka := hA.blk.cell 0
    have kf := hA.blk.frozen 0
    simp at ka kb
    go_wp2
    refine wp_region_still_tail 14 (by kernel_rfl) (by kernel_rfl) ?_
    change wpStill _ _ (World.drew _) (fun a' => wpList _ _ _ _ a' (World.drew _)) _ _
    simp only [List.take_succ_cons, List.take_zero, List.drop_succ_cons, List.drop_zero]
    repeat still_step
    try refine wpStill_nil ?_
    go_wp2
    go_meet
    exact hA.store (by simp)
  case rest =>
  rename World => wA0
  clear hA
  have hA := hcut
  clear hcut
  go_wp2
  rw [rounds_succ]
  go_upto_block 1 with fail
  go_cut [] (fun wx => Upd w wx pa #[.int .i64 (a.x - k * b.x), .int .i64 (a.y - k * b.y)])
  case first =>
    have kb := (hA.cell (a := ⟨pb, 1, none⟩) n2).trans (bb.cell 1)
    have ka := hA.blk.cell 1
    have kf := hA.blk.frozen 1
    simp at ka kb
    go_wp2
    refine wp_region_still_tail 14 (by kernel_rfl) (by kernel_rfl) ?_
    change wpStill _ _ (World.drew _) (fun a' => wpList _ _ _ _ a' (World.drew _)) _ _
    simp only [List.take_succ_cons, List.take_zero, List.drop_succ_cons, List.drop_zero]
    repeat still_step
    try refine wpStill_nil ?_
    go_wp2
    go_meet
    exact hA.store (by simp)
  case rest =>
  rename World => wA1
  clear hA
  have hA := hcut
  clear hcut
  go_wp2
  rw [rounds_succ]
  have HA := hide hA
  clear hA
  go_wp2
  go_end0
  exact ⟨rfl, HA.out⟩

set_option maxRecDepth 100000 in
set_option maxHeartbeats 2000000 in
theorem less3 (a b : Lat.V) (k : Int) (pa pb : Nat) (w : World) (ba : Blk w pa #[.int .i64 a.x, .int .i64 a.y, .int .i64 a.z] 3) (bb : Blk w pb #[.int .i64 b.x, .int .i64 b.y, .int .i64 b.z] 3) (hne : pa ≠ pb) (x1 : a.x.natAbs ≤ 4611686018427387903) (x2 : (k * b.x).natAbs ≤ 4611686018427387903) (y1 : a.y.natAbs ≤ 4611686018427387903) (y2 : (k * b.y).natAbs ≤ 4611686018427387903) (z1 : a.z.natAbs ≤ 4611686018427387903) (z2 : (k * b.z).natAbs ≤ 4611686018427387903) :
    Calls Try.prog 78 #[.slice (some ⟨pa, 0, none⟩) 3 3, .int .i64 k, .slice (some ⟨pb, 0, none⟩) 3 3] w fun e w' => e = .returned (.tuple #[]) ∧ Upd w w' pa #[.int .i64 (Lat.less a k b).x, .int .i64 (Lat.less a k b).y, .int .i64 (Lat.less a k b).z] := by
  have wax : IntKind.i64.wrap (k * b.x) = k * b.x := wrap_in (by omega) (by omega)
  have wbx : IntKind.i64.wrap (a.x - k * b.x) = a.x - k * b.x := wrap_in (by omega) (by omega)
  have way : IntKind.i64.wrap (k * b.y) = k * b.y := wrap_in (by omega) (by omega)
  have wby : IntKind.i64.wrap (a.y - k * b.y) = a.y - k * b.y := wrap_in (by omega) (by omega)
  have waz : IntKind.i64.wrap (k * b.z) = k * b.z := wrap_in (by omega) (by omega)
  have wbz : IntKind.i64.wrap (a.z - k * b.z) = a.z - k * b.z := wrap_in (by omega) (by omega)
  have n1 : ¬ pa = pb := hne
  have n2 : ¬ pb = pa := fun e => hne e.symm
  clear x1 x2 y1 y2 z1 z2 hne
  have hA : Upd w w pa #[.int .i64 a.x, .int .i64 a.y, .int .i64 a.z] := Upd.refl ba
  go_enter Try.func78, Try.ntmps78
  go_wp2
  refine wp_loop_rounds 4 ?_
  rw [rounds_succ]
  go_upto_block 1 with fail
  go_cut [] (fun wx => Upd w wx pa #[.int .i64 (a.x - k * b.x), .int .i64 a.y, .int .i64 a.z])
  case first =>
    have kb := (hA.cell (a := ⟨pb, 0, none⟩) n2).trans (bb.cell 0)
    have ka := hA.blk.cell 0
    have kf := hA.blk.frozen 0
    simp at ka kb
    go_wp2
    refine wp_region_still_tail 14 (by kernel_rfl) (by kernel_rfl) ?_
    change wpStill _ _ (World.drew _) (fun a' => wpList _ _ _ _ a' (World.drew _)) _ _
    simp only [List.take_succ_cons, List.take_zero, List.drop_succ_cons, List.drop_zero]
    repeat still_step
    try refine wpStill_nil ?_
    go_wp2
    go_meet
    exact hA.store (by simp)
  case rest =>
  rename World => wA0
  clear hA
  have hA := hcut
  clear hcut
  go_wp2
  rw [rounds_succ]
  go_upto_block 1 with fail
  go_cut [] (fun wx => Upd w wx pa #[.int .i64 (a.x - k * b.x), .int .i64 (a.y - k * b.y), .int .i64 a.z])
  case first =>
    have kb := (hA.cell (a := ⟨pb, 1, none⟩) n2).trans (bb.cell 1)
    have ka := hA.blk.cell 1
    have kf := hA.blk.frozen 1
    simp at ka kb
    go_wp2
    refine wp_region_still_tail 14 (by kernel_rfl) (by kernel_rfl) ?_
    change wpStill _ _ (World.drew _) (fun a' => wpList _ _ _ _ a' (World.drew _)) _ _
    simp only [List.take_succ_cons, List.take_zero, List.drop_succ_cons, List.drop_zero]
    repeat still_step
    try refine wpStill_nil ?_
    go_wp2
    go_meet
    exact hA.store (by simp)
  case rest =>
  rename World => wA1
  clear hA
  have hA := hcut
  clear hcut
  go_wp2
  rw [rounds_succ]
  go_upto_block 1 with fail
  go_cut [] (fun wx => Upd w wx pa #[.int .i64 (a.x - k * b.x), .int .i64 (a.y - k * b.y), .int .i64 (a.z - k * b.z)])
  case first =>
    have kb := (hA.cell (a := ⟨pb, 2, none⟩) n2).trans (bb.cell 2)
    have ka := hA.blk.cell 2
    have kf := hA.blk.frozen 2
    simp at ka kb
    go_wp2
    refine wp_region_still_tail 14 (by kernel_rfl) (by kernel_rfl) ?_
    change wpStill _ _ (World.drew _) (fun a' => wpList _ _ _ _ a' (World.drew _)) _ _
    simp only [List.take_succ_cons, List.take_zero, List.drop_succ_cons, List.drop_zero]
    repeat still_step
    try refine wpStill_nil ?_
    go_wp2
    go_meet
    exact hA.store (by simp)
  case rest =>
  rename World => wA2
  clear hA
  have hA := hcut
  clear hcut
  go_wp2
  rw [rounds_succ]
  have HA := hide hA
  clear hA
  go_wp2
  go_end0
  exact ⟨rfl, HA.out⟩

end Go.Proofs.Ytdjicplcognddaa
