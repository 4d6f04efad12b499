import Derived.Test.YtmlcblnndihjoaaGreatMovedB
import Derived.StillTailTactics

namespace Go.Proofs.YtmlcblnndihjoaaGreat
open Go.RowKit

/-- all of w, but for block b, which holds cs -/
structure Upd (w w' : World) (b : Nat) (cs : Array Value) : Prop where
  blk : Blk w' b cs 3
  keep : ∀ m, m ≠ b → w'.heap[m]? = w.heap[m]?
  size : w'.heap.size = w.heap.size
  os : w'.os = w.os
  tape : w'.tape = w.tape
  output : w'.output = w.output

theorem Upd.refl {w : World} {b : Nat} {cs : Array Value} (h : Blk w b cs 3) : Upd w w b cs := ⟨h, fun _ _ => rfl, rfl, rfl, rfl, rfl⟩
theorem Upd.cell {w w' : World} {b : Nat} {cs : Array Value} (h : Upd w w' b cs) {a : Addr} (ha : ¬ a.block = b) : w'.cell? a = w.cell? a := World.cell?_of_block (h.keep _ ha)
theorem Upd.store {w w' : World} {b o : Nat} {cs cs' : Array Value} {v : Value} (h : Upd w w' b cs) (he : cs.setIfInBounds o v = cs') : Upd w (w'.setCell ⟨b, o, none⟩ v).drew b cs' := by
  refine ⟨?_, fun m hm => ?_, ?_, h.os, h.tape, h.output⟩
  · rw [← he]; exact (h.blk.set o v).drew
  · exact (Below.heap_setCell w' ⟨b, o, none⟩ v m hm).trans (h.keep m hm)
  · have : (w'.setCell ⟨b, o, none⟩ v).drew.heap.size = w'.heap.size := by simp [World.setCell]
    rw [this]; exact h.size
theorem Upd.drew {w w' : World} {b : Nat} {cs : Array Value} (h : Upd w.drew w' b cs) : Upd w w' b cs := ⟨h.blk, h.keep, h.size, h.os, h.tape, h.output⟩
theorem Upd.drewN {w w' : World} {b n : Nat} {cs : Array Value} (h : Upd (w.drewN n) w' b cs) : Upd w w' b cs := ⟨h.blk, h.keep, h.size, h.os, h.tape, h.output⟩
theorem Upd.below {w w' : World} {b B : Nat} {cs : Array Value} (h : Upd w w' b cs) (hB : B ≤ b) : Below B w w' := ⟨h.os, h.tape, h.output, by rw [h.size]; exact Nat.le_refl _, fun k hk => h.keep k (by omega)⟩

set_option maxHeartbeats 400000 in
theorem floor_any (a p : Int) (w : World) (h1 : -4611686018427387904 ≤ a) (h2 : a ≤ 4611686018427387904) (h3 : 0 < p) (h4 : p ≤ 4611686018427387904) :
    Calls Tryz.prog 93 #[.int .i64 a, .int .i64 p] w fun e w' => e = .returned (.int .i64 (a / p)) ∧ w' = w := by
  have hp : ¬ p = 0 := by omega
  go_enter Tryz.func93, Tryz.ntmps93
  go_wp2
  · go_ret
    have e := quot_neg (a := a) (p := p) h3 (by assumption)
    have b := Lat.div_le a p (by omega)
    exact ⟨ret_val (congrArg (Value.int IntKind.i64) (by rw [e]; exact IntWalk.wrap64_in _ (by omega))), rfl⟩
  · go_ret
    have e := quot_pos (a := a) (p := p) h3 (by assumption)
    exact ⟨ret_val (congrArg (Value.int IntKind.i64) e), rfl⟩

set_option maxRecDepth 100000 in
set_option maxHeartbeats 2000000 in
theorem less1 (a b : Lat.V) (k : Int) (pa pb : Nat) (w : World) (ba : Blk w pa #[.int .i64 a.x] 3) (bb : Blk w pb #[.int .i64 b.x] 3) (hne : pa ≠ pb) (x1 : a.x.natAbs ≤ 4611686018427387903) (x2 : (k * b.x).natAbs ≤ 4611686018427387903) :
    Calls Tryz.prog 92 #[.slice (some ⟨pa, 0, none⟩) 1 1, .int .i64 k, .slice (some ⟨pb, 0, none⟩) 1 1] w fun e w' => e = .returned (.tuple #[]) ∧ Upd w w' pa #[.int .i64 (Lat.less a k b).x] := by
  have wax : IntKind.i64.wrap (k * b.x) = k * b.x := wrap_in (by omega) (by omega)
  have wbx : IntKind.i64.wrap (a.x - k * b.x) = a.x - k * b.x := wrap_in (by omega) (by omega)
  have n1 : ¬ pa = pb := hne
  have n2 : ¬ pb = pa := fun e => hne e.symm
  clear x1 x2 hne
  have hA : Upd w w pa #[.int .i64 a.x] := Upd.refl ba
  go_enter Tryz.func92, Tryz.ntmps92
  go_wp2
  refine wp_loop_rounds 2 ?_
  rw [rounds_succ]
  go_upto_block 1 with fail
  go_cut [] (fun wx => Upd w wx pa #[.int .i64 (a.x - k * b.x)])
  case first =>
    have kb := (hA.cell (a := ⟨pb, 0, none⟩) n2).trans (bb.cell 0)
    have ka := hA.blk.cell 0
    have kf := hA.blk.frozen 0
    simp at ka kb
    go_wp2
    refine wp_region_still_tail 14 (by kernel_rfl) (by kernel_rfl) ?_
    change wpStill _ _ (World.drew _) (fun a' => wpList _ _ _ _ a' (World.drew _)) _ _
    simp only [List.take_succ_cons, List.take_zero, List.drop_succ_cons, List.drop_zero]
    repeat still_step
    try refine wpStill_nil ?_
    go_wp2
    go_meet
    exact hA.store (by simp)
  case rest =>
  rename World => wA0
  clear hA
  have hA := hcut
  clear hcut
  go_wp2
  rw [rounds_succ]
  have HA := hide hA
  clear hA
  go_wp2
  go_end0
  exact ⟨rfl, HA.out⟩

set_option maxRecDepth 100000 in
set_option maxHeartbeats 2000000 in
theorem less2 (a b : Lat.V) (k : Int) (pa pb : Nat) (w : World) (ba : Blk w pa #[.int .i64 a.x, .int .i64 a.y] 3) (bb : Blk w pb #[.int .i64 b.x, .int .i64 b.y] 3) (hne : pa ≠ pb) (x1 : a.x.natAbs ≤ 4611686018427387903) (x2 : (k * b.x).natAbs ≤ 4611686018427387903) (y1 : a.y.natAbs ≤ 4611686018427387903) (y2 : (k * b.y).natAbs ≤ 4611686018427387903) :
    Calls Tryz.prog 92 #[.slice (some ⟨pa, 0, none⟩) 2 2, .int .i64 k, .slice (some ⟨pb, 0, none⟩) 2 2] w fun e w' => e = .returned (.tuple #[]) ∧ Upd w w' pa #[.int .i64 (Lat.less a k b).x, .int .i64 (Lat.less a k b).y] := by
  have wax : IntKind.i64.wrap (k * b.x) = k * b.x := wrap_in (by omega) (by omega)
  have wbx : IntKind.i64.wrap (a.x - k * b.x) = a.x - k * b.x := wrap_in (by omega) (by omega)
  have way : IntKind.i64.wrap (k * b.y) = k * b.y := wrap_in (by omega) (by omega)
  have wby : IntKind.i64.wrap (a.y - k * b.y) = a.y - k * b.y := wrap_in (by omega) (by omega)
  have n1 : ¬ pa = pb := hne
  have n2 : ¬ pb = pa := fun e => hne e.symm
  clear x1 x2 y1 y2 hne
  have hA : Upd w w pa #[.int .i64 a.x, .int .i64 a.y] := Upd.refl ba
  go_enter Tryz.func92, Tryz.ntmps92
  go_wp2
  refine wp_loop_rounds 3 ?_
  rw [rounds_succ]
  go_upto_block 1 with fail
  go_cut [] (fun wx => Upd w wx pa #[.int .i64 (a.x - k * b.x), .int .i64 a.y])
  case first =>
    have kb := (hA.cell (a := ⟨pb, 0, none⟩) n2).trans (bb.cell 0)
    have ka := hA.blk.cell 0
    have kf := hA.blk.frozen 0
    simp at ka kb
    go_wp2
    refine wp_region_still_tail 14 (by kernel_rfl) (by kernel_rfl) ?_
    change wpStill _ _ (World.drew _) (fun a' => wpList _ _ _ _ a' (World.drew _)) _ _
    simp only [List.take_succ_cons, List.take_zero, List.drop_succ_cons, List.drop_zero]
    repeat still_step
    try refine wpStill_nil ?_
    go_wp2
    go_meet
    exact hA.store (by simp)
  case rest =>
  rename World => wA0
  clear hA
  have hA := hcut
  clear hcut
  go_wp2
  rw [rounds_succ]
  go_upto_block 1 with fail
  go_cut [] (fun wx => Upd w wx pa #[.int .i64 (a.x - k * b.x), .int .i64 (a.y - k * b.y)])
  case first =>
    have kb := (hA.cell (a := ⟨pb, 1, none⟩) n2).trans (bb.cell 1)
    have ka := hA.blk.cell 1
    have kf := hA.blk.frozen 1
    simp at ka kb
    go_wp2
    refine wp_region_still_tail 14 (by kernel_rfl) (by kernel_rfl) ?_
    change wpStill _ _ (World.drew _) (fun a' => wpList _ _ _ _ a' (World.drew _)) _ _
    simp only [List.take_succ_cons, List.take_zero, List.drop_succ_cons, List.drop_zero]
    repeat still_step
    try refine wpStill_nil ?_
    go_wp2
    go_meet
    exact hA.store (by simp)
  case rest =>
  rename World => wA1
  clear hA
  have hA := hcut
  clear hcut
  go_wp2
  rw [rounds_succ]
  have HA := hide hA
  clear hA
  go_wp2
  go_end0
  exact ⟨rfl, HA.out⟩

set_option maxRecDepth 100000 in
set_option maxHeartbeats 2000000 in
theorem less3 (a b : Lat.V) (k : Int) (pa pb : Nat) (w : World) (ba : Blk w pa #[.int .i64 a.x, .int .i64 a.y, .int .i64 a.z] 3) (bb : Blk w pb #[.int .i64 b.x, .int .i64 b.y, .int .i64 b.z] 3) (hne : pa ≠ pb) (x1 : a.x.natAbs ≤ 4611686018427387903) (x2 : (k * b.x).natAbs ≤ 4611686018427387903) (y1 : a.y.natAbs ≤ 4611686018427387903) (y2 : (k * b.y).natAbs ≤ 4611686018427387903) (z1 : a.z.natAbs ≤ 4611686018427387903) (z2 : (k * b.z).natAbs ≤ 4611686018427387903) :
    Calls Tryz.prog 92 #[.slice (some ⟨pa, 0, none⟩) 3 3, .int .i64 k, .slice (some ⟨pb, 0, none⟩) 3 3] w fun e w' => e = .returned (.tuple #[]) ∧ Upd w w' pa #[.int .i64 (Lat.less a k b).x, .int .i64 (Lat.less a k b).y, .int .i64 (Lat.less a k b).z] := by
  have wax : IntKind.i64.wrap (k * b.x) = k * b.x := wrap_in (by omega) (by omega)
  have wbx : IntKind.i64.wrap (a.x - k * b.x) = a.x - k * b.x := wrap_in (by omega) (by omega)
  have way : IntKind.i64.wrap (k * b.y) = k * b.y := wrap_in (by omega) (by omega)
  have wby : IntKind.i64.wrap (a.y - k * b.y) = a.y - k * b.y := wrap_in (by omega) (by omega)
  have waz : IntKind.i64.wrap (k * b.z) = k * b.z := wrap_in (by omega) (by omega)
  have wbz : IntKind.i64.wrap (a.z - k * b.z) = a.z - k * b.z := wrap_in (by omega) (by omega)
  have n1 : ¬ pa = pb := hne
  have n2 : ¬ pb = pa := fun e => hne e.symm
  clear x1 x2 y1 y2 z1 z2 hne
  have hA : Upd w w pa #[.int .i64 a.x, .int .i64 a.y, .int .i64 a.z] := Upd.refl ba
  go_enter Tryz.func92, Tryz.ntmps92
  go_wp2
  refine wp_loop_rounds 4 ?_
  rw [rounds_succ]
  go_upto_block 1 with fail
  go_cut [] (fun wx => Upd w wx pa #[.int .i64 (a.x - k * b.x), .int .i64 a.y, .int .i64 a.z])
  case first =>
    have kb := (hA.cell (a := ⟨pb, 0, none⟩) n2).trans (bb.cell 0)
    have ka := hA.blk.cell 0
    have kf := hA.blk.frozen 0
    simp at ka kb
    go_wp2
    refine wp_region_still_tail 14 (by kernel_rfl) (by kernel_rfl) ?_
    change wpStill _ _ (World.drew _) (fun a' => wpList _ _ _ _ a' (World.drew _)) _ _
    simp only [List.take_succ_cons, List.take_zero, List.drop_succ_cons, List.drop_zero]
    repeat still_step
    try refine wpStill_nil ?_
    go_wp2
    go_meet
    exact hA.store (by simp)
  case rest =>
  rename World => wA0
  clear hA
  have hA := hcut
  clear hcut
  go_wp2
  rw [rounds_succ]
  go_upto_block 1 with fail
  go_cut [] (fun wx => Upd w wx pa #[.int .i64 (a.x - k * b.x), .int .i64 (a.y - k * b.y), .int .i64 a.z])
  case first =>
    have kb := (hA.cell (a := ⟨pb, 1, none⟩) n2).trans (bb.cell 1)
    have ka := hA.blk.cell 1
    have kf := hA.blk.frozen 1
    simp at ka kb
    go_wp2
    refine wp_region_still_tail 14 (by kernel_rfl) (by kernel_rfl) ?_
    change wpStill _ _ (World.drew _) (fun a' => wpList _ _ _ _ a' (World.drew _)) _ _
    simp only [List.take_succ_cons, List.take_zero, List.drop_succ_cons, List.drop_zero]
    repeat still_step
    try refine wpStill_nil ?_
    go_wp2
    go_meet
    exact hA.store (by simp)
  case rest =>
  rename World => wA1
  clear hA
  have hA := hcut
  clear hcut
  go_wp2
  rw [rounds_succ]
  go_upto_block 1 with fail
  go_cut [] (fun wx => Upd w wx pa #[.int .i64 (a.x - k * b.x), .int .i64 (a.y - k * b.y), .int .i64 (a.z - k * b.z)])
  case first =>
    have kb := (hA.cell (a := ⟨pb, 2, none⟩) n2).trans (bb.cell 2)
    have ka := hA.blk.cell 2
    have kf := hA.blk.frozen 2
    simp at ka kb
    go_wp2
    refine wp_region_still_tail 14 (by kernel_rfl) (by kernel_rfl) ?_
    change wpStill _ _ (World.drew _) (fun a' => wpList _ _ _ _ a' (World.drew _)) _ _
    simp only [List.take_succ_cons, List.take_zero, List.drop_succ_cons, List.drop_zero]
    repeat still_step
    try refine wpStill_nil ?_
    go_wp2
    go_meet
    exact hA.store (by simp)
  case rest =>
  rename World => wA2
  clear hA
  have hA := hcut
  clear hcut
  go_wp2
  rw [rounds_succ]
  have HA := hide hA
  clear hA
  go_wp2
  go_end0
  exact ⟨rfl, HA.out⟩

end Go.Proofs.YtmlcblnndihjoaaGreat

namespace Go.Proofs.YtmlcblnndihjoaaGreat
open Go.RowKit

/-- all of w, but for two blocks -/
structure Upd2 (w w' : World) (b c : Nat) : Prop where
  keep : ∀ m, m ≠ b → m ≠ c → w'.heap[m]? = w.heap[m]?
  size : w'.heap.size = w.heap.size
  os : w'.os = w.os
  tape : w'.tape = w.tape
  output : w'.output = w.output

theorem Upd2.refl (w : World) (b c : Nat) : Upd2 w w b c := ⟨fun _ _ _ => rfl, rfl, rfl, rfl, rfl⟩
theorem Upd2.upd {w w1 w2 : World} {b c p : Nat} {cs : Array Value} (h : Upd2 w w1 b c) (hu : Upd w1 w2 p cs) (hp : p = b ∨ p = c) : Upd2 w w2 b c :=
  ⟨fun m h1 h2 => by
    rw [hu.keep m (by rcases hp with e | e <;> rw [e] <;> assumption)]; exact h.keep m h1 h2, hu.size.trans h.size, hu.os.trans h.os, hu.tape.trans h.tape, hu.output.trans h.output⟩
theorem Upd2.set {w w1 : World} {b c p o : Nat} {v : Value} (h : Upd2 w w1 b c) (hp : p = b ∨ p = c) : Upd2 w (w1.setCell ⟨p, o, none⟩ v) b c :=
  ⟨fun m h1 h2 => by
    rw [Below.heap_setCell w1 ⟨p, o, none⟩ v m (by rcases hp with e | e <;> show m ≠ p <;> rw [e] <;> assumption)]; exact h.keep m h1 h2,
   by rw [← h.size]; simp [World.setCell], h.os, h.tape, h.output⟩
theorem Upd2.below {w w' : World} {b c B : Nat} (h : Upd2 w w' b c) (hb : B ≤ b) (hc : B ≤ c) : Below B w w' := ⟨h.os, h.tape, h.output, by rw [h.size]; exact Nat.le_refl _, fun k hk => h.keep k (by omega) (by omega)⟩


/-- what fold hands back at width 1, column 0 -/
def Fold10 (a b : Lat.V) (pa pb : Nat) (w w' : World) (e : Ending) : Prop :=
  ∃ (p q : Nat) (a' b' : Lat.V), Lat.Swept 0 a b a' b' ∧ e = .returned (.tuple #[.slice (some ⟨p, 0, none⟩) 1 1, .slice (some ⟨q, 0, none⟩) 1 1]) ∧ ((p = pa ∧ q = pb) ∨ (p = pb ∧ q = pa)) ∧ Upd2 w w' pa pb ∧ Blk w' p #[.int .i64 a'.x] 3 ∧ Blk w' q #[.int .i64 b'.x] 3

set_option maxRecDepth 100000 in
set_option maxHeartbeats 2000000 in
theorem fold10 (a b : Lat.V) (pa pb : Nat) (w : World) (ba : Blk w pa #[.int .i64 a.x] 3) (bb : Blk w pb #[.int .i64 b.x] 3) (hne : pa ≠ pb) (hr : Lat.Room 0 a b) :
    Calls Tryz.prog 79 #[.slice (some ⟨pa, 0, none⟩) 1 1, .slice (some ⟨pb, 0, none⟩) 1 1, .int .i64 0] w fun e w' => Fold10 a b pa pb w w' e := by
  go_enter Tryz.func79, Tryz.ntmps79
  go_wp2
  go_loopg [0, 1] (b.x.natAbs) (fun m s0 s1 wr => ∃ (p q : Nat) (a' b' : Lat.V), s0 = .slice (some ⟨p, 0, none⟩) 1 1 ∧ s1 = .slice (some ⟨q, 0, none⟩) 1 1 ∧ Lat.Euc 0 a b a' b' ∧ b'.x.natAbs = m ∧ ((p = pa ∧ q = pb) ∨ (p = pb ∧ q = pa)) ∧ Upd2 w wr pa pb ∧ Blk wr p #[.int .i64 a'.x] 3 ∧ Blk wr q #[.int .i64 b'.x] 3)
  case atStart => exact ⟨pa, pb, a, b, rfl, rfl, Lat.Euc.start 0 a b, rfl, Or.inl ⟨rfl, rfl⟩, Upd2.refl _ _ _, ba, bb⟩
  case round =>
    obtain ⟨p, q, a', b', rfl, rfl, hE, hm, hpq, hU, hbp, hbq⟩ := hrel
    have HE := hide hE
    have HM := hide hm
    have HPQ := hide hpq
    have hpn : ¬ p = q := by omega
    have hqp : ¬ q = p := by omega
    have hpp : p = pa ∨ p = pb := by omega
    have ca := hbp.cell 0
    have cb := hbq.cell 0
    simp at ca cb
    clear hE hm hpq
    by_cases hz : b'.x = 0
    · have hz' : (b'.x != 0) = false := by simpa using hz
      have HZ := hide hz
      clear hz
      by_cases hs : a'.x < 0
      · have ca0 := hbp.cell 0
        have fa0 := hbp.frozen 0
        have wn0 : -4611686018427387904 ≤ a'.x ∧ a'.x ≤ 4611686018427387904 := by have e := (hr.euc HE.out 0 (by omega)).1; simp only [Lat.V.at0, Lat.E] at e; omega
        simp at ca0
        go_wp2
        refine wp_loop_rounds 2 ?_
        rw [rounds_succ]; go_wp2
        rw [rounds_succ]; go_wp2
        go_ret2
        refine ⟨p, q, Lat.less ⟨0, 0, 0⟩ 1 a', b', Lat.Euc.turned HE.out HZ.out hs, rfl, HPQ.out, (hU.set (o := 0) (v := .int .i64 (-a'.x)) hpp), ?_, (hbq.other (a := ⟨p, 0, none⟩) hqp (.int .i64 (-a'.x)))⟩
        have := (hbp.set 0 (.int .i64 (-a'.x)))
        simpa [Lat.less] using this
      · go_wp2
        go_ret2
        exact ⟨p, q, a', b', Lat.Euc.done HE.out HZ.out (by show 0 ≤ a'.x; omega), rfl, HPQ.out, hU, hbp, hbq⟩
    · have hz' : (b'.x != 0) = true := by simpa using hz
      have hwq : IntKind.i64.wrap (a'.x.tdiv b'.x) = a'.x.tdiv b'.x := by
        have e0 := (hr.euc HE.out 0 (by omega)).1
        have e1 : (a'.x.tdiv b'.x).natAbs ≤ a'.x.natAbs := by rw [Int.natAbs_tdiv]; exact Nat.div_le_self _ _
        simp only [Lat.V.at0, Lat.E] at e0
        exact wrap_in (by omega) (by omega)
      have HT : Hid (∀ w0, w0.heap = wr.heap → Calls Tryz.prog 92 #[.slice (some ⟨p, 0, none⟩) 1 1, .int .i64 (a'.x.tdiv b'.x), .slice (some ⟨q, 0, none⟩) 1 1] w0 fun e w' => e = .returned (.tuple #[]) ∧ Upd w0 w' p #[.int .i64 (Lat.less a' (a'.x.tdiv b'.x) b').x]) := fun w0 h0 => by
        have e0 := (hr.euc HE.out 0 (by omega)).1
        have t0 := hr.times HE.out hz 0 (by omega)
        simp only [Lat.V.at0, Lat.E] at e0 t0
        exact less1 a' b' _ p q w0 (by unfold Blk; rw [h0]; exact hbp) (by unfold Blk; rw [h0]; exact hbq) hpn (by omega) (by omega)
      have hst := hide (HE.out.step hz)
      have hms : (Lat.less a' (a'.x.tdiv b'.x) b').x.natAbs < b'.x.natAbs := by
        have : (Lat.less a' (a'.x.tdiv b'.x) b').x = a'.x.tmod b'.x := by
          show a'.x - a'.x.tdiv b'.x * b'.x = _
          rw [Int.tmod_def, Int.mul_comm]
        rw [this, Int.natAbs_tmod]; exact Nat.mod_lt _ (Int.natAbs_pos.2 hz)
      have HMS := hide hms
      clear hms
      go_wp2
      refine wp_region_still_tail 11 (by kernel_rfl) (by kernel_rfl) ?_
      change wpStill _ _ (World.drew _) (fun a' => wpList _ _ _ _ a' (World.drew _)) _ _
      simp only [List.take_succ_cons, List.take_zero, List.drop_succ_cons, List.drop_zero]
      repeat still_step
      try refine wpStill_nil ?_
      go_wp2_with fail
      refine (HT.out wr.drew rfl).mono ?_
      rintro e w1 ⟨rfl, hu⟩
      have HU := hide hu.drew
      clear hu
      go_wp2
      go_roundg ((Lat.less a' (a'.x.tdiv b'.x) b').x.natAbs)
      case measure => rw [← HM.out]; exact HMS.out
      case rel =>
        refine ⟨q, p, b', _, rfl, rfl, hst.out, rfl, by have := HPQ.out; omega, hU.upd HU.out hpp, ?_, HU.out.blk⟩
        unfold Blk; rw [HU.out.keep q hqp]; exact hbq

/-- what fold hands back at width 2, column 0 -/
def Fold20 (a b : Lat.V) (pa pb : Nat) (w w' : World) (e : Ending) : Prop :=
  ∃ (p q : Nat) (a' b' : Lat.V), Lat.Swept 0 a b a' b' ∧ e = .returned (.tuple #[.slice (some ⟨p, 0, none⟩) 2 2, .slice (some ⟨q, 0, none⟩) 2 2]) ∧ ((p = pa ∧ q = pb) ∨ (p = pb ∧ q = pa)) ∧ Upd2 w w' pa pb ∧ Blk w' p #[.int .i64 a'.x, .int .i64 a'.y] 3 ∧ Blk w' q #[.int .i64 b'.x, .int .i64 b'.y] 3

set_option maxRecDepth 100000 in
set_option maxHeartbeats 2000000 in
theorem fold20 (a b : Lat.V) (pa pb : Nat) (w : World) (ba : Blk w pa #[.int .i64 a.x, .int .i64 a.y] 3) (bb : Blk w pb #[.int .i64 b.x, .int .i64 b.y] 3) (hne : pa ≠ pb) (hr : Lat.Room 0 a b) :
    Calls Tryz.prog 79 #[.slice (some ⟨pa, 0, none⟩) 2 2, .slice (some ⟨pb, 0, none⟩) 2 2, .int .i64 0] w fun e w' => Fold20 a b pa pb w w' e := by
  go_enter Tryz.func79, Tryz.ntmps79
  go_wp2
  go_loopg [0, 1] (b.x.natAbs) (fun m s0 s1 wr => ∃ (p q : Nat) (a' b' : Lat.V), s0 = .slice (some ⟨p, 0, none⟩) 2 2 ∧ s1 = .slice (some ⟨q, 0, none⟩) 2 2 ∧ Lat.Euc 0 a b a' b' ∧ b'.x.natAbs = m ∧ ((p = pa ∧ q = pb) ∨ (p = pb ∧ q = pa)) ∧ Upd2 w wr pa pb ∧ Blk wr p #[.int .i64 a'.x, .int .i64 a'.y] 3 ∧ Blk wr q #[.int .i64 b'.x, .int .i64 b'.y] 3)
  case atStart => exact ⟨pa, pb, a, b, rfl, rfl, Lat.Euc.start 0 a b, rfl, Or.inl ⟨rfl, rfl⟩, Upd2.refl _ _ _, ba, bb⟩
  case round =>
    obtain ⟨p, q, a', b', rfl, rfl, hE, hm, hpq, hU, hbp, hbq⟩ := hrel
    have HE := hide hE
    have HM := hide hm
    have HPQ := hide hpq
    have hpn : ¬ p = q := by omega
    have hqp : ¬ q = p := by omega
    have hpp : p = pa ∨ p = pb := by omega
    have ca := hbp.cell 0
    have cb := hbq.cell 0
    simp at ca cb
    clear hE hm hpq
    by_cases hz : b'.x = 0
    · have hz' : (b'.x != 0) = false := by simpa using hz
      have HZ := hide hz
      clear hz
      by_cases hs : a'.x < 0
      · have ca0 := hbp.cell 0; have ca1 := hbp.cell 1
        have fa0 := hbp.frozen 0; have fa1 := hbp.frozen 1
        have wn0 : -4611686018427387904 ≤ a'.x ∧ a'.x ≤ 4611686018427387904 := by have e := (hr.euc HE.out 0 (by omega)).1; simp only [Lat.V.at0, Lat.E] at e; omega
        have wn1 : -4611686018427387904 ≤ a'.y ∧ a'.y ≤ 4611686018427387904 := by have e := (hr.euc HE.out 1 (by omega)).1; simp only [Lat.V.at1, Lat.E] at e; omega
        simp at ca0 ca1
        go_wp2
        refine wp_loop_rounds 3 ?_
        rw [rounds_succ]; go_wp2
        rw [rounds_succ]; go_wp2
        rw [rounds_succ]; go_wp2
        go_ret2
        refine ⟨p, q, Lat.less ⟨0, 0, 0⟩ 1 a', b', Lat.Euc.turned HE.out HZ.out hs, rfl, HPQ.out, ((hU.set (o := 0) (v := .int .i64 (-a'.x)) hpp).set (o := 1) (v := .int .i64 (-a'.y)) hpp), ?_, ((hbq.other (a := ⟨p, 0, none⟩) hqp (.int .i64 (-a'.x))).other (a := ⟨p, 1, none⟩) hqp (.int .i64 (-a'.y)))⟩
        have := ((hbp.set 0 (.int .i64 (-a'.x))).set 1 (.int .i64 (-a'.y)))
        simpa [Lat.less] using this
      · go_wp2
        go_ret2
        exact ⟨p, q, a', b', Lat.Euc.done HE.out HZ.out (by show 0 ≤ a'.x; omega), rfl, HPQ.out, hU, hbp, hbq⟩
    · have hz' : (b'.x != 0) = true := by simpa using hz
      have hwq : IntKind.i64.wrap (a'.x.tdiv b'.x) = a'.x.tdiv b'.x := by
        have e0 := (hr.euc HE.out 0 (by omega)).1
        have e1 : (a'.x.tdiv b'.x).natAbs ≤ a'.x.natAbs := by rw [Int.natAbs_tdiv]; exact Nat.div_le_self _ _
        simp only [Lat.V.at0, Lat.E] at e0
        exact wrap_in (by omega) (by omega)
      have HT : Hid (∀ w0, w0.heap = wr.heap → Calls Tryz.prog 92 #[.slice (some ⟨p, 0, none⟩) 2 2, .int .i64 (a'.x.tdiv b'.x), .slice (some ⟨q, 0, none⟩) 2 2] w0 fun e w' => e = .returned (.tuple #[]) ∧ Upd w0 w' p #[.int .i64 (Lat.less a' (a'.x.tdiv b'.x) b').x, .int .i64 (Lat.less a' (a'.x.tdiv b'.x) b').y]) := fun w0 h0 => by
        have e0 := (hr.euc HE.out 0 (by omega)).1; have e1 := (hr.euc HE.out 1 (by omega)).1
        have t0 := hr.times HE.out hz 0 (by omega); have t1 := hr.times HE.out hz 1 (by omega)
        simp only [Lat.V.at0, Lat.V.at1, Lat.E] at e0 e1 t0 t1
        exact less2 a' b' _ p q w0 (by unfold Blk; rw [h0]; exact hbp) (by unfold Blk; rw [h0]; exact hbq) hpn (by omega) (by omega) (by omega) (by omega)
      have hst := hide (HE.out.step hz)
      have hms : (Lat.less a' (a'.x.tdiv b'.x) b').x.natAbs < b'.x.natAbs := by
        have : (Lat.less a' (a'.x.tdiv b'.x) b').x = a'.x.tmod b'.x := by
          show a'.x - a'.x.tdiv b'.x * b'.x = _
          rw [Int.tmod_def, Int.mul_comm]
        rw [this, Int.natAbs_tmod]; exact Nat.mod_lt _ (Int.natAbs_pos.2 hz)
      have HMS := hide hms
      clear hms
      go_wp2
      refine wp_region_still_tail 11 (by kernel_rfl) (by kernel_rfl) ?_
      change wpStill _ _ (World.drew _) (fun a' => wpList _ _ _ _ a' (World.drew _)) _ _
      simp only [List.take_succ_cons, List.take_zero, List.drop_succ_cons, List.drop_zero]
      repeat still_step
      try refine wpStill_nil ?_
      go_wp2_with fail
      refine (HT.out wr.drew rfl).mono ?_
      rintro e w1 ⟨rfl, hu⟩
      have HU := hide hu.drew
      clear hu
      go_wp2
      go_roundg ((Lat.less a' (a'.x.tdiv b'.x) b').x.natAbs)
      case measure => rw [← HM.out]; exact HMS.out
      case rel =>
        refine ⟨q, p, b', _, rfl, rfl, hst.out, rfl, by have := HPQ.out; omega, hU.upd HU.out hpp, ?_, HU.out.blk⟩
        unfold Blk; rw [HU.out.keep q hqp]; exact hbq

/-- what fold hands back at width 2, column 1 -/
def Fold21 (a b : Lat.V) (pa pb : Nat) (w w' : World) (e : Ending) : Prop :=
  ∃ (p q : Nat) (a' b' : Lat.V), Lat.Swept 1 a b a' b' ∧ e = .returned (.tuple #[.slice (some ⟨p, 0, none⟩) 2 2, .slice (some ⟨q, 0, none⟩) 2 2]) ∧ ((p = pa ∧ q = pb) ∨ (p = pb ∧ q = pa)) ∧ Upd2 w w' pa pb ∧ Blk w' p #[.int .i64 a'.x, .int .i64 a'.y] 3 ∧ Blk w' q #[.int .i64 b'.x, .int .i64 b'.y] 3

set_option maxRecDepth 100000 in
set_option maxHeartbeats 2000000 in
theorem fold21 (a b : Lat.V) (pa pb : Nat) (w : World) (ba : Blk w pa #[.int .i64 a.x, .int .i64 a.y] 3) (bb : Blk w pb #[.int .i64 b.x, .int .i64 b.y] 3) (hne : pa ≠ pb) (hr : Lat.Room 1 a b) :
    Calls Tryz.prog 79 #[.slice (some ⟨pa, 0, none⟩) 2 2, .slice (some ⟨pb, 0, none⟩) 2 2, .int .i64 1] w fun e w' => Fold21 a b pa pb w w' e := by
  go_enter Tryz.func79, Tryz.ntmps79
  go_wp2
  go_loopg [0, 1] (b.y.natAbs) (fun m s0 s1 wr => ∃ (p q : Nat) (a' b' : Lat.V), s0 = .slice (some ⟨p, 0, none⟩) 2 2 ∧ s1 = .slice (some ⟨q, 0, none⟩) 2 2 ∧ Lat.Euc 1 a b a' b' ∧ b'.y.natAbs = m ∧ ((p = pa ∧ q = pb) ∨ (p = pb ∧ q = pa)) ∧ Upd2 w wr pa pb ∧ Blk wr p #[.int .i64 a'.x, .int .i64 a'.y] 3 ∧ Blk wr q #[.int .i64 b'.x, .int .i64 b'.y] 3)
  case atStart => exact ⟨pa, pb, a, b, rfl, rfl, Lat.Euc.start 1 a b, rfl, Or.inl ⟨rfl, rfl⟩, Upd2.refl _ _ _, ba, bb⟩
  case round =>
    obtain ⟨p, q, a', b', rfl, rfl, hE, hm, hpq, hU, hbp, hbq⟩ := hrel
    have HE := hide hE
    have HM := hide hm
    have HPQ := hide hpq
    have hpn : ¬ p = q := by omega
    have hqp : ¬ q = p := by omega
    have hpp : p = pa ∨ p = pb := by omega
    have ca := hbp.cell 1
    have cb := hbq.cell 1
    simp at ca cb
    clear hE hm hpq
    by_cases hz : b'.y = 0
    · have hz' : (b'.y != 0) = false := by simpa using hz
      have HZ := hide hz
      clear hz
      by_cases hs : a'.y < 0
      · have ca0 := hbp.cell 0; have ca1 := hbp.cell 1
        have fa0 := hbp.frozen 0; have fa1 := hbp.frozen 1
        have wn0 : -4611686018427387904 ≤ a'.x ∧ a'.x ≤ 4611686018427387904 := by have e := (hr.euc HE.out 0 (by omega)).1; simp only [Lat.V.at0, Lat.E] at e; omega
        have wn1 : -4611686018427387904 ≤ a'.y ∧ a'.y ≤ 4611686018427387904 := by have e := (hr.euc HE.out 1 (by omega)).1; simp only [Lat.V.at1, Lat.E] at e; omega
        simp at ca0 ca1
        go_wp2
        refine wp_loop_rounds 3 ?_
        rw [rounds_succ]; go_wp2
        rw [rounds_succ]; go_wp2
        rw [rounds_succ]; go_wp2
        go_ret2
        refine ⟨p, q, Lat.less ⟨0, 0, 0⟩ 1 a', b', Lat.Euc.turned HE.out HZ.out hs, rfl, HPQ.out, ((hU.set (o := 0) (v := .int .i64 (-a'.x)) hpp).set (o := 1) (v := .int .i64 (-a'.y)) hpp), ?_, ((hbq.other (a := ⟨p, 0, none⟩) hqp (.int .i64 (-a'.x))).other (a := ⟨p, 1, none⟩) hqp (.int .i64 (-a'.y)))⟩
        have := ((hbp.set 0 (.int .i64 (-a'.x))).set 1 (.int .i64 (-a'.y)))
        simpa [Lat.less] using this
      · go_wp2
        go_ret2
        exact ⟨p, q, a', b', Lat.Euc.done HE.out HZ.out (by show 0 ≤ a'.y; omega), rfl, HPQ.out, hU, hbp, hbq⟩
    · have hz' : (b'.y != 0) = true := by simpa using hz
      have hwq : IntKind.i64.wrap (a'.y.tdiv b'.y) = a'.y.tdiv b'.y := by
        have e0 := (hr.euc HE.out 1 (by omega)).1
        have e1 : (a'.y.tdiv b'.y).natAbs ≤ a'.y.natAbs := by rw [Int.natAbs_tdiv]; exact Nat.div_le_self _ _
        simp only [Lat.V.at1, Lat.E] at e0
        exact wrap_in (by omega) (by omega)
      have HT : Hid (∀ w0, w0.heap = wr.heap → Calls Tryz.prog 92 #[.slice (some ⟨p, 0, none⟩) 2 2, .int .i64 (a'.y.tdiv b'.y), .slice (some ⟨q, 0, none⟩) 2 2] w0 fun e w' => e = .returned (.tuple #[]) ∧ Upd w0 w' p #[.int .i64 (Lat.less a' (a'.y.tdiv b'.y) b').x, .int .i64 (Lat.less a' (a'.y.tdiv b'.y) b').y]) := fun w0 h0 => by
        have e0 := (hr.euc HE.out 0 (by omega)).1; have e1 := (hr.euc HE.out 1 (by omega)).1
        have t0 := hr.times HE.out hz 0 (by omega); have t1 := hr.times HE.out hz 1 (by omega)
        simp only [Lat.V.at0, Lat.V.at1, Lat.E] at e0 e1 t0 t1
        exact less2 a' b' _ p q w0 (by unfold Blk; rw [h0]; exact hbp) (by unfold Blk; rw [h0]; exact hbq) hpn (by omega) (by omega) (by omega) (by omega)
      have hst := hide (HE.out.step hz)
      have hms : (Lat.less a' (a'.y.tdiv b'.y) b').y.natAbs < b'.y.natAbs := by
        have : (Lat.less a' (a'.y.tdiv b'.y) b').y = a'.y.tmod b'.y := by
          show a'.y - a'.y.tdiv b'.y * b'.y = _
          rw [Int.tmod_def, Int.mul_comm]
        rw [this, Int.natAbs_tmod]; exact Nat.mod_lt _ (Int.natAbs_pos.2 hz)
      have HMS := hide hms
      clear hms
      go_wp2
      refine wp_region_still_tail 11 (by kernel_rfl) (by kernel_rfl) ?_
      change wpStill _ _ (World.drew _) (fun a' => wpList _ _ _ _ a' (World.drew _)) _ _
      simp only [List.take_succ_cons, List.take_zero, List.drop_succ_cons, List.drop_zero]
      repeat still_step
      try refine wpStill_nil ?_
      go_wp2_with fail
      refine (HT.out wr.drew rfl).mono ?_
      rintro e w1 ⟨rfl, hu⟩
      have HU := hide hu.drew
      clear hu
      go_wp2
      go_roundg ((Lat.less a' (a'.y.tdiv b'.y) b').y.natAbs)
      case measure => rw [← HM.out]; exact HMS.out
      case rel =>
        refine ⟨q, p, b', _, rfl, rfl, hst.out, rfl, by have := HPQ.out; omega, hU.upd HU.out hpp, ?_, HU.out.blk⟩
        unfold Blk; rw [HU.out.keep q hqp]; exact hbq

/-- what fold hands back at width 3, column 0 -/
def Fold30 (a b : Lat.V) (pa pb : Nat) (w w' : World) (e : Ending) : Prop :=
  ∃ (p q : Nat) (a' b' : Lat.V), Lat.Swept 0 a b a' b' ∧ e = .returned (.tuple #[.slice (some ⟨p, 0, none⟩) 3 3, .slice (some ⟨q, 0, none⟩) 3 3]) ∧ ((p = pa ∧ q = pb) ∨ (p = pb ∧ q = pa)) ∧ Upd2 w w' pa pb ∧ Blk w' p #[.int .i64 a'.x, .int .i64 a'.y, .int .i64 a'.z] 3 ∧ Blk w' q #[.int .i64 b'.x, .int .i64 b'.y, .int .i64 b'.z] 3

set_option maxRecDepth 100000 in
set_option maxHeartbeats 2000000 in
theorem fold30 (a b : Lat.V) (pa pb : Nat) (w : World) (ba : Blk w pa #[.int .i64 a.x, .int .i64 a.y, .int .i64 a.z] 3) (bb : Blk w pb #[.int .i64 b.x, .int .i64 b.y, .int .i64 b.z] 3) (hne : pa ≠ pb) (hr : Lat.Room 0 a b) :
    Calls Tryz.prog 79 #[.slice (some ⟨pa, 0, none⟩) 3 3, .slice (some ⟨pb, 0, none⟩) 3 3, .int .i64 0] w fun e w' => Fold30 a b pa pb w w' e := by
  go_enter Tryz.func79, Tryz.ntmps79
  go_wp2
  go_loopg [0, 1] (b.x.natAbs) (fun m s0 s1 wr => ∃ (p q : Nat) (a' b' : Lat.V), s0 = .slice (some ⟨p, 0, none⟩) 3 3 ∧ s1 = .slice (some ⟨q, 0, none⟩) 3 3 ∧ Lat.Euc 0 a b a' b' ∧ b'.x.natAbs = m ∧ ((p = pa ∧ q = pb) ∨ (p = pb ∧ q = pa)) ∧ Upd2 w wr pa pb ∧ Blk wr p #[.int .i64 a'.x, .int .i64 a'.y, .int .i64 a'.z] 3 ∧ Blk wr q #[.int .i64 b'.x, .int .i64 b'.y, .int .i64 b'.z] 3)
  case atStart => exact ⟨pa, pb, a, b, rfl, rfl, Lat.Euc.start 0 a b, rfl, Or.inl ⟨rfl, rfl⟩, Upd2.refl _ _ _, ba, bb⟩
  case round =>
    obtain ⟨p, q, a', b', rfl, rfl, hE, hm, hpq, hU, hbp, hbq⟩ := hrel
    have HE := hide hE
    have HM := hide hm
    have HPQ := hide hpq
    have hpn : ¬ p = q := by omega
    have hqp : ¬ q = p := by omega
    have hpp : p = pa ∨ p = pb := by omega
    have ca := hbp.cell 0
    have cb := hbq.cell 0
    simp at ca cb
    clear hE hm hpq
    by_cases hz : b'.x = 0
    · have hz' : (b'.x != 0) = false := by simpa using hz
      have HZ := hide hz
      clear hz
      by_cases hs : a'.x < 0
      · have ca0 := hbp.cell 0; have ca1 := hbp.cell 1; have ca2 := hbp.cell 2
        have fa0 := hbp.frozen 0; have fa1 := hbp.frozen 1; have fa2 := hbp.frozen 2
        have wn0 : -4611686018427387904 ≤ a'.x ∧ a'.x ≤ 4611686018427387904 := by have e := (hr.euc HE.out 0 (by omega)).1; simp only [Lat.V.at0, Lat.E] at e; omega
        have wn1 : -4611686018427387904 ≤ a'.y ∧ a'.y ≤ 4611686018427387904 := by have e := (hr.euc HE.out 1 (by omega)).1; simp only [Lat.V.at1, Lat.E] at e; omega
        have wn2 : -4611686018427387904 ≤ a'.z ∧ a'.z ≤ 4611686018427387904 := by have e := (hr.euc HE.out 2 (by omega)).1; simp only [Lat.V.at2, Lat.E] at e; omega
        simp at ca0 ca1 ca2
        go_wp2
        refine wp_loop_rounds 4 ?_
        rw [rounds_succ]; go_wp2
        rw [rounds_succ]; go_wp2
        rw [rounds_succ]; go_wp2
        rw [rounds_succ]; go_wp2
        go_ret2
        refine ⟨p, q, Lat.less ⟨0, 0, 0⟩ 1 a', b', Lat.Euc.turned HE.out HZ.out hs, rfl, HPQ.out, (((hU.set (o := 0) (v := .int .i64 (-a'.x)) hpp).set (o := 1) (v := .int .i64 (-a'.y)) hpp).set (o := 2) (v := .int .i64 (-a'.z)) hpp), ?_, (((hbq.other (a := ⟨p, 0, none⟩) hqp (.int .i64 (-a'.x))).other (a := ⟨p, 1, none⟩) hqp (.int .i64 (-a'.y))).other (a := ⟨p, 2, none⟩) hqp (.int .i64 (-a'.z)))⟩
        have := (((hbp.set 0 (.int .i64 (-a'.x))).set 1 (.int .i64 (-a'.y))).set 2 (.int .i64 (-a'.z)))
        simpa [Lat.less] using this
      · go_wp2
        go_ret2
        exact ⟨p, q, a', b', Lat.Euc.done HE.out HZ.out (by show 0 ≤ a'.x; omega), rfl, HPQ.out, hU, hbp, hbq⟩
    · have hz' : (b'.x != 0) = true := by simpa using hz
      have hwq : IntKind.i64.wrap (a'.x.tdiv b'.x) = a'.x.tdiv b'.x := by
        have e0 := (hr.euc HE.out 0 (by omega)).1
        have e1 : (a'.x.tdiv b'.x).natAbs ≤ a'.x.natAbs := by rw [Int.natAbs_tdiv]; exact Nat.div_le_self _ _
        simp only [Lat.V.at0, Lat.E] at e0
        exact wrap_in (by omega) (by omega)
      have HT : Hid (∀ w0, w0.heap = wr.heap → Calls Tryz.prog 92 #[.slice (some ⟨p, 0, none⟩) 3 3, .int .i64 (a'.x.tdiv b'.x), .slice (some ⟨q, 0, none⟩) 3 3] w0 fun e w' => e = .returned (.tuple #[]) ∧ Upd w0 w' p #[.int .i64 (Lat.less a' (a'.x.tdiv b'.x) b').x, .int .i64 (Lat.less a' (a'.x.tdiv b'.x) b').y, .int .i64 (Lat.less a' (a'.x.tdiv b'.x) b').z]) := fun w0 h0 => by
        have e0 := (hr.euc HE.out 0 (by omega)).1; have e1 := (hr.euc HE.out 1 (by omega)).1; have e2 := (hr.euc HE.out 2 (by omega)).1
        have t0 := hr.times HE.out hz 0 (by omega); have t1 := hr.times HE.out hz 1 (by omega); have t2 := hr.times HE.out hz 2 (by omega)
        simp only [Lat.V.at0, Lat.V.at1, Lat.V.at2, Lat.E] at e0 e1 e2 t0 t1 t2
        exact less3 a' b' _ p q w0 (by unfold Blk; rw [h0]; exact hbp) (by unfold Blk; rw [h0]; exact hbq) hpn (by omega) (by omega) (by omega) (by omega) (by omega) (by omega)
      have hst := hide (HE.out.step hz)
      have hms : (Lat.less a' (a'.x.tdiv b'.x) b').x.natAbs < b'.x.natAbs := by
        have : (Lat.less a' (a'.x.tdiv b'.x) b').x = a'.x.tmod b'.x := by
          show a'.x - a'.x.tdiv b'.x * b'.x = _
          rw [Int.tmod_def, Int.mul_comm]
        rw [this, Int.natAbs_tmod]; exact Nat.mod_lt _ (Int.natAbs_pos.2 hz)
      have HMS := hide hms
      clear hms
      go_wp2
      refine wp_region_still_tail 11 (by kernel_rfl) (by kernel_rfl) ?_
      change wpStill _ _ (World.drew _) (fun a' => wpList _ _ _ _ a' (World.drew _)) _ _
      simp only [List.take_succ_cons, List.take_zero, List.drop_succ_cons, List.drop_zero]
      repeat still_step
      try refine wpStill_nil ?_
      go_wp2_with fail
      refine (HT.out wr.drew rfl).mono ?_
      rintro e w1 ⟨rfl, hu⟩
      have HU := hide hu.drew
      clear hu
      go_wp2
      go_roundg ((Lat.less a' (a'.x.tdiv b'.x) b').x.natAbs)
      case measure => rw [← HM.out]; exact HMS.out
      case rel =>
        refine ⟨q, p, b', _, rfl, rfl, hst.out, rfl, by have := HPQ.out; omega, hU.upd HU.out hpp, ?_, HU.out.blk⟩
        unfold Blk; rw [HU.out.keep q hqp]; exact hbq

/-- what fold hands back at width 3, column 1 -/
def Fold31 (a b : Lat.V) (pa pb : Nat) (w w' : World) (e : Ending) : Prop :=
  ∃ (p q : Nat) (a' b' : Lat.V), Lat.Swept 1 a b a' b' ∧ e = .returned (.tuple #[.slice (some ⟨p, 0, none⟩) 3 3, .slice (some ⟨q, 0, none⟩) 3 3]) ∧ ((p = pa ∧ q = pb) ∨ (p = pb ∧ q = pa)) ∧ Upd2 w w' pa pb ∧ Blk w' p #[.int .i64 a'.x, .int .i64 a'.y, .int .i64 a'.z] 3 ∧ Blk w' q #[.int .i64 b'.x, .int .i64 b'.y, .int .i64 b'.z] 3

set_option maxRecDepth 100000 in
set_option maxHeartbeats 2000000 in
theorem fold31 (a b : Lat.V) (pa pb : Nat) (w : World) (ba : Blk w pa #[.int .i64 a.x, .int .i64 a.y, .int .i64 a.z] 3) (bb : Blk w pb #[.int .i64 b.x, .int .i64 b.y, .int .i64 b.z] 3) (hne : pa ≠ pb) (hr : Lat.Room 1 a b) :
    Calls Tryz.prog 79 #[.slice (some ⟨pa, 0, none⟩) 3 3, .slice (some ⟨pb, 0, none⟩) 3 3, .int .i64 1] w fun e w' => Fold31 a b pa pb w w' e := by
  go_enter Tryz.func79, Tryz.ntmps79
  go_wp2
  go_loopg [0, 1] (b.y.natAbs) (fun m s0 s1 wr => ∃ (p q : Nat) (a' b' : Lat.V), s0 = .slice (some ⟨p, 0, none⟩) 3 3 ∧ s1 = .slice (some ⟨q, 0, none⟩) 3 3 ∧ Lat.Euc 1 a b a' b' ∧ b'.y.natAbs = m ∧ ((p = pa ∧ q = pb) ∨ (p = pb ∧ q = pa)) ∧ Upd2 w wr pa pb ∧ Blk wr p #[.int .i64 a'.x, .int .i64 a'.y, .int .i64 a'.z] 3 ∧ Blk wr q #[.int .i64 b'.x, .int .i64 b'.y, .int .i64 b'.z] 3)
  case atStart => exact ⟨pa, pb, a, b, rfl, rfl, Lat.Euc.start 1 a b, rfl, Or.inl ⟨rfl, rfl⟩, Upd2.refl _ _ _, ba, bb⟩
  case round =>
    obtain ⟨p, q, a', b', rfl, rfl, hE, hm, hpq, hU, hbp, hbq⟩ := hrel
    have HE := hide hE
    have HM := hide hm
    have HPQ := hide hpq
    have hpn : ¬ p = q := by omega
    have hqp : ¬ q = p := by omega
    have hpp : p = pa ∨ p = pb := by omega
    have ca := hbp.cell 1
    have cb := hbq.cell 1
    simp at ca cb
    clear hE hm hpq
    by_cases hz : b'.y = 0
    · have hz' : (b'.y != 0) = false := by simpa using hz
      have HZ := hide hz
      clear hz
      by_cases hs : a'.y < 0
      · have ca0 := hbp.cell 0; have ca1 := hbp.cell 1; have ca2 := hbp.cell 2
        have fa0 := hbp.frozen 0; have fa1 := hbp.frozen 1; have fa2 := hbp.frozen 2
        have wn0 : -4611686018427387904 ≤ a'.x ∧ a'.x ≤ 4611686018427387904 := by have e := (hr.euc HE.out 0 (by omega)).1; simp only [Lat.V.at0, Lat.E] at e; omega
        have wn1 : -4611686018427387904 ≤ a'.y ∧ a'.y ≤ 4611686018427387904 := by have e := (hr.euc HE.out 1 (by omega)).1; simp only [Lat.V.at1, Lat.E] at e; omega
        have wn2 : -4611686018427387904 ≤ a'.z ∧ a'.z ≤ 4611686018427387904 := by have e := (hr.euc HE.out 2 (by omega)).1; simp only [Lat.V.at2, Lat.E] at e; omega
        simp at ca0 ca1 ca2
        go_wp2
        refine wp_loop_rounds 4 ?_
        rw [rounds_succ]; go_wp2
        rw [rounds_succ]; go_wp2
        rw [rounds_succ]; go_wp2
        rw [rounds_succ]; go_wp2
        go_ret2
        refine ⟨p, q, Lat.less ⟨0, 0, 0⟩ 1 a', b', Lat.Euc.turned HE.out HZ.out hs, rfl, HPQ.out, (((hU.set (o := 0) (v := .int .i64 (-a'.x)) hpp).set (o := 1) (v := .int .i64 (-a'.y)) hpp).set (o := 2) (v := .int .i64 (-a'.z)) hpp), ?_, (((hbq.other (a := ⟨p, 0, none⟩) hqp (.int .i64 (-a'.x))).other (a := ⟨p, 1, none⟩) hqp (.int .i64 (-a'.y))).other (a := ⟨p, 2, none⟩) hqp (.int .i64 (-a'.z)))⟩
        have := (((hbp.set 0 (.int .i64 (-a'.x))).set 1 (.int .i64 (-a'.y))).set 2 (.int .i64 (-a'.z)))
        simpa [Lat.less] using this
      · go_wp2
        go_ret2
        exact ⟨p, q, a', b', Lat.Euc.done HE.out HZ.out (by show 0 ≤ a'.y; omega), rfl, HPQ.out, hU, hbp, hbq⟩
    · have hz' : (b'.y != 0) = true := by simpa using hz
      have hwq : IntKind.i64.wrap (a'.y.tdiv b'.y) = a'.y.tdiv b'.y := by
        have e0 := (hr.euc HE.out 1 (by omega)).1
        have e1 : (a'.y.tdiv b'.y).natAbs ≤ a'.y.natAbs := by rw [Int.natAbs_tdiv]; exact Nat.div_le_self _ _
        simp only [Lat.V.at1, Lat.E] at e0
        exact wrap_in (by omega) (by omega)
      have HT : Hid (∀ w0, w0.heap = wr.heap → Calls Tryz.prog 92 #[.slice (some ⟨p, 0, none⟩) 3 3, .int .i64 (a'.y.tdiv b'.y), .slice (some ⟨q, 0, none⟩) 3 3] w0 fun e w' => e = .returned (.tuple #[]) ∧ Upd w0 w' p #[.int .i64 (Lat.less a' (a'.y.tdiv b'.y) b').x, .int .i64 (Lat.less a' (a'.y.tdiv b'.y) b').y, .int .i64 (Lat.less a' (a'.y.tdiv b'.y) b').z]) := fun w0 h0 => by
        have e0 := (hr.euc HE.out 0 (by omega)).1; have e1 := (hr.euc HE.out 1 (by omega)).1; have e2 := (hr.euc HE.out 2 (by omega)).1
        have t0 := hr.times HE.out hz 0 (by omega); have t1 := hr.times HE.out hz 1 (by omega); have t2 := hr.times HE.out hz 2 (by omega)
        simp only [Lat.V.at0, Lat.V.at1, Lat.V.at2, Lat.E] at e0 e1 e2 t0 t1 t2
        exact less3 a' b' _ p q w0 (by unfold Blk; rw [h0]; exact hbp) (by unfold Blk; rw [h0]; exact hbq) hpn (by omega) (by omega) (by omega) (by omega) (by omega) (by omega)
      have hst := hide (HE.out.step hz)
      have hms : (Lat.less a' (a'.y.tdiv b'.y) b').y.natAbs < b'.y.natAbs := by
        have : (Lat.less a' (a'.y.tdiv b'.y) b').y = a'.y.tmod b'.y := by
          show a'.y - a'.y.tdiv b'.y * b'.y = _
          rw [Int.tmod_def, Int.mul_comm]
        rw [this, Int.natAbs_tmod]; exact Nat.mod_lt _ (Int.natAbs_pos.2 hz)
      have HMS := hide hms
      clear hms
      go_wp2
      refine wp_region_still_tail 11 (by kernel_rfl) (by kernel_rfl) ?_
      change wpStill _ _ (World.drew _) (fun a' => wpList _ _ _ _ a' (World.drew _)) _ _
      simp only [List.take_succ_cons, List.take_zero, List.drop_succ_cons, List.drop_zero]
      repeat still_step
      try refine wpStill_nil ?_
      go_wp2_with fail
      refine (HT.out wr.drew rfl).mono ?_
      rintro e w1 ⟨rfl, hu⟩
      have HU := hide hu.drew
      clear hu
      go_wp2
      go_roundg ((Lat.less a' (a'.y.tdiv b'.y) b').y.natAbs)
      case measure => rw [← HM.out]; exact HMS.out
      case rel =>
        refine ⟨q, p, b', _, rfl, rfl, hst.out, rfl, by have := HPQ.out; omega, hU.upd HU.out hpp, ?_, HU.out.blk⟩
        unfold Blk; rw [HU.out.keep q hqp]; exact hbq

/-- what fold hands back at width 3, column 2 -/
def Fold32 (a b : Lat.V) (pa pb : Nat) (w w' : World) (e : Ending) : Prop :=
  ∃ (p q : Nat) (a' b' : Lat.V), Lat.Swept 2 a b a' b' ∧ e = .returned (.tuple #[.slice (some ⟨p, 0, none⟩) 3 3, .slice (some ⟨q, 0, none⟩) 3 3]) ∧ ((p = pa ∧ q = pb) ∨ (p = pb ∧ q = pa)) ∧ Upd2 w w' pa pb ∧ Blk w' p #[.int .i64 a'.x, .int .i64 a'.y, .int .i64 a'.z] 3 ∧ Blk w' q #[.int .i64 b'.x, .int .i64 b'.y, .int .i64 b'.z] 3

set_option maxRecDepth 100000 in
set_option maxHeartbeats 2000000 in
theorem fold32 (a b : Lat.V) (pa pb : Nat) (w : World) (ba : Blk w pa #[.int .i64 a.x, .int .i64 a.y, .int .i64 a.z] 3) (bb : Blk w pb #[.int .i64 b.x, .int .i64 b.y, .int .i64 b.z] 3) (hne : pa ≠ pb) (hr : Lat.Room 2 a b) :
    Calls Tryz.prog 79 #[.slice (some ⟨pa, 0, none⟩) 3 3, .slice (some ⟨pb, 0, none⟩) 3 3, .int .i64 2] w fun e w' => Fold32 a b pa pb w w' e := by
  go_enter Tryz.func79, Tryz.ntmps79
  go_wp2
  go_loopg [0, 1] (b.z.natAbs) (fun m s0 s1 wr => ∃ (p q : Nat) (a' b' : Lat.V), s0 = .slice (some ⟨p, 0, none⟩) 3 3 ∧ s1 = .slice (some ⟨q, 0, none⟩) 3 3 ∧ Lat.Euc 2 a b a' b' ∧ b'.z.natAbs = m ∧ ((p = pa ∧ q = pb) ∨ (p = pb ∧ q = pa)) ∧ Upd2 w wr pa pb ∧ Blk wr p #[.int .i64 a'.x, .int .i64 a'.y, .int .i64 a'.z] 3 ∧ Blk wr q #[.int .i64 b'.x, .int .i64 b'.y, .int .i64 b'.z] 3)
  case atStart => exact ⟨pa, pb, a, b, rfl, rfl, Lat.Euc.start 2 a b, rfl, Or.inl ⟨rfl, rfl⟩, Upd2.refl _ _ _, ba, bb⟩
  case round =>
    obtain ⟨p, q, a', b', rfl, rfl, hE, hm, hpq, hU, hbp, hbq⟩ := hrel
    have HE := hide hE
    have HM := hide hm
    have HPQ := hide hpq
    have hpn : ¬ p = q := by omega
    have hqp : ¬ q = p := by omega
    have hpp : p = pa ∨ p = pb := by omega
    have ca := hbp.cell 2
    have cb := hbq.cell 2
    simp at ca cb
    clear hE hm hpq
    by_cases hz : b'.z = 0
    · have hz' : (b'.z != 0) = false := by simpa using hz
      have HZ := hide hz
      clear hz
      by_cases hs : a'.z < 0
      · have ca0 := hbp.cell 0; have ca1 := hbp.cell 1; have ca2 := hbp.cell 2
        have fa0 := hbp.frozen 0; have fa1 := hbp.frozen 1; have fa2 := hbp.frozen 2
        have wn0 : -4611686018427387904 ≤ a'.x ∧ a'.x ≤ 4611686018427387904 := by have e := (hr.euc HE.out 0 (by omega)).1; simp only [Lat.V.at0, Lat.E] at e; omega
        have wn1 : -4611686018427387904 ≤ a'.y ∧ a'.y ≤ 4611686018427387904 := by have e := (hr.euc HE.out 1 (by omega)).1; simp only [Lat.V.at1, Lat.E] at e; omega
        have wn2 : -4611686018427387904 ≤ a'.z ∧ a'.z ≤ 4611686018427387904 := by have e := (hr.euc HE.out 2 (by omega)).1; simp only [Lat.V.at2, Lat.E] at e; omega
        simp at ca0 ca1 ca2
        go_wp2
        refine wp_loop_rounds 4 ?_
        rw [rounds_succ]; go_wp2
        rw [rounds_succ]; go_wp2
        rw [rounds_succ]; go_wp2
        rw [rounds_succ]; go_wp2
        go_ret2
        refine ⟨p, q, Lat.less ⟨0, 0, 0⟩ 1 a', b', Lat.Euc.turned HE.out HZ.out hs, rfl, HPQ.out, (((hU.set (o := 0) (v := .int .i64 (-a'.x)) hpp).set (o := 1) (v := .int .i64 (-a'.y)) hpp).set (o := 2) (v := .int .i64 (-a'.z)) hpp), ?_, (((hbq.other (a := ⟨p, 0, none⟩) hqp (.int .i64 (-a'.x))).other (a := ⟨p, 1, none⟩) hqp (.int .i64 (-a'.y))).other (a := ⟨p, 2, none⟩) hqp (.int .i64 (-a'.z)))⟩
        have := (((hbp.set 0 (.int .i64 (-a'.x))).set 1 (.int .i64 (-a'.y))).set 2 (.int .i64 (-a'.z)))
        simpa [Lat.less] using this
      · go_wp2
        go_ret2
        exact ⟨p, q, a', b', Lat.Euc.done HE.out HZ.out (by show 0 ≤ a'.z; omega), rfl, HPQ.out, hU, hbp, hbq⟩
    · have hz' : (b'.z != 0) = true := by simpa using hz
      have hwq : IntKind.i64.wrap (a'.z.tdiv b'.z) = a'.z.tdiv b'.z := by
        have e0 := (hr.euc HE.out 2 (by omega)).1
        have e1 : (a'.z.tdiv b'.z).natAbs ≤ a'.z.natAbs := by rw [Int.natAbs_tdiv]; exact Nat.div_le_self _ _
        simp only [Lat.V.at2, Lat.E] at e0
        exact wrap_in (by omega) (by omega)
      have HT : Hid (∀ w0, w0.heap = wr.heap → Calls Tryz.prog 92 #[.slice (some ⟨p, 0, none⟩) 3 3, .int .i64 (a'.z.tdiv b'.z), .slice (some ⟨q, 0, none⟩) 3 3] w0 fun e w' => e = .returned (.tuple #[]) ∧ Upd w0 w' p #[.int .i64 (Lat.less a' (a'.z.tdiv b'.z) b').x, .int .i64 (Lat.less a' (a'.z.tdiv b'.z) b').y, .int .i64 (Lat.less a' (a'.z.tdiv b'.z) b').z]) := fun w0 h0 => by
        have e0 := (hr.euc HE.out 0 (by omega)).1; have e1 := (hr.euc HE.out 1 (by omega)).1; have e2 := (hr.euc HE.out 2 (by omega)).1
        have t0 := hr.times HE.out hz 0 (by omega); have t1 := hr.times HE.out hz 1 (by omega); have t2 := hr.times HE.out hz 2 (by omega)
        simp only [Lat.V.at0, Lat.V.at1, Lat.V.at2, Lat.E] at e0 e1 e2 t0 t1 t2
        exact less3 a' b' _ p q w0 (by unfold Blk; rw [h0]; exact hbp) (by unfold Blk; rw [h0]; exact hbq) hpn (by omega) (by omega) (by omega) (by omega) (by omega) (by omega)
      have hst := hide (HE.out.step hz)
      have hms : (Lat.less a' (a'.z.tdiv b'.z) b').z.natAbs < b'.z.natAbs := by
        have : (Lat.less a' (a'.z.tdiv b'.z) b').z = a'.z.tmod b'.z := by
          show a'.z - a'.z.tdiv b'.z * b'.z = _
          rw [Int.tmod_def, Int.mul_comm]
        rw [this, Int.natAbs_tmod]; exact Nat.mod_lt _ (Int.natAbs_pos.2 hz)
      have HMS := hide hms
      clear hms
      go_wp2
      refine wp_region_still_tail 11 (by kernel_rfl) (by kernel_rfl) ?_
      change wpStill _ _ (World.drew _) (fun a' => wpList _ _ _ _ a' (World.drew _)) _ _
      simp only [List.take_succ_cons, List.take_zero, List.drop_succ_cons, List.drop_zero]
      repeat still_step
      try refine wpStill_nil ?_
      go_wp2_with fail
      refine (HT.out wr.drew rfl).mono ?_
      rintro e w1 ⟨rfl, hu⟩
      have HU := hide hu.drew
      clear hu
      go_wp2
      go_roundg ((Lat.less a' (a'.z.tdiv b'.z) b').z.natAbs)
      case measure => rw [← HM.out]; exact HMS.out
      case rel =>
        refine ⟨q, p, b', _, rfl, rfl, hst.out, rfl, by have := HPQ.out; omega, hU.upd HU.out hpp, ?_, HU.out.blk⟩
        unfold Blk; rw [HU.out.keep q hqp]; exact hbq

end Go.Proofs.YtmlcblnndihjoaaGreat

namespace Go.Proofs.YtmlcblnndihjoaaGreat
open Go.RowKit

def nilS : Value := .slice none 0 0

/-- the reference's rows by columns: nil, or a row whose pivot stands there, in a block of its own -/
structure AtS (n : Nat) (w : World) (B g : Nat) (xs : Nat → Value) (bs : Nat → Nat) (R : Nat → Lat.V) : Prop where
  blk : Blk w g ((List.range n).map xs).toArray 23
  base : B ≤ g
  row : ∀ c, c < n → (xs c = nilS ∧ R c = ⟨0, 0, 0⟩) ∨ (xs c = .slice (some ⟨bs c, 0, none⟩) n n ∧ 0 < (R c).at c ∧ Blk w (bs c) ((cutV n (R c)).map (Value.int .i64)).toArray 3 ∧ B ≤ bs c ∧ bs c ≠ g)
  apart : ∀ c d, c < n → d < n → c ≠ d → xs c ≠ nilS → xs d ≠ nilS → bs c ≠ bs d

theorem slice_ne_nil (b n : Nat) : Value.slice (some ⟨b, 0, none⟩) n n ≠ nilS := by
  intro e; unfold nilS at e; injection e with e; cases e

/-- one row has another content -/
theorem AtS.row' {n : Nat} {w w' : World} {B g : Nat} {xs : Nat → Value} {bs : Nat → Nat} {R : Nat → Lat.V} (h : AtS n w B g xs bs R) {i : Nat} (hi : i < n) (hx : xs i ≠ nilS) {r : Lat.V} (hr : 0 < r.at i)
    (hu : Upd w w' (bs i) ((cutV n r).map (Value.int .i64)).toArray) : AtS n w' B g xs bs (fun c => if c = i then r else R c) := by
  have hii := h.row i hi
  have hig : bs i ≠ g := by
    rcases hii with ⟨e, _⟩ | ⟨_, _, _, _, e⟩
    · exact absurd e hx
    · exact e
  refine ⟨?_, h.base, fun c hc => ?_, h.apart⟩
  · unfold Blk; rw [hu.keep g (fun e => hig e.symm)]; exact h.blk
  · by_cases e : c = i
    · subst e
      rcases hii with ⟨e, _⟩ | ⟨e1, _, _, e4, e5⟩
      · exact absurd e hx
      · refine Or.inr ⟨e1, ?_, ?_, e4, e5⟩
        · simp only [if_true]; exact hr
        · simp only [if_true]; exact hu.blk
    · simp only [if_neg e]
      rcases h.row c hc with h1 | ⟨e1, e2, e3, e4, e5⟩
      · exact Or.inl h1
      · refine Or.inr ⟨e1, e2, ?_, e4, e5⟩
        have hne : bs c ≠ bs i := h.apart c i hc hi e (by rw [e1]; exact slice_ne_nil _ _) hx
        unfold Blk; rw [hu.keep _ hne]; exact e3

theorem AtS.congr {n : Nat} {w : World} {B g : Nat} {xs : Nat → Value} {bs : Nat → Nat} {R R' : Nat → Lat.V} (h : AtS n w B g xs bs R) (e : ∀ c, c < n → R c = R' c) : AtS n w B g xs bs R' := by
  refine ⟨h.blk, h.base, fun c hc => ?_, h.apart⟩
  rw [← e c hc]; exact h.row c hc

theorem AtS.heap {n : Nat} {w w' : World} {B g : Nat} {xs : Nat → Value} {bs : Nat → Nat} {R : Nat → Lat.V} (h : AtS n w B g xs bs R) (e : w'.heap = w.heap) : AtS n w' B g xs bs R := by
  refine ⟨by unfold Blk; rw [e]; exact h.blk, h.base, fun c hc => ?_, h.apart⟩
  rcases h.row c hc with h1 | ⟨e1, e2, e3, e4, e5⟩
  · exact Or.inl h1
  · exact Or.inr ⟨e1, e2, by unfold Blk; rw [e]; exact e3, e4, e5⟩

end Go.Proofs.YtmlcblnndihjoaaGreat
