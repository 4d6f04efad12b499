import Derived.Test.YtdjicplcognddaaRefA
import Derived.StillTailTactics
namespace Go.Proofs.Ytdjicplcognddaa
open Go.RowKit

/-- all of w, but for two blocks -/
structure Upd2 (w w' : World) (b c : Nat) : Prop where
  keep : ∀ m, m ≠ b → m ≠ c → w'.heap[m]? = w.heap[m]?
  size : w'.heap.size = w.heap.size
  os : w'.os = w.os
  tape : w'.tape = w.tape
  output : w'.output = w.output

theorem Upd2.refl (w : World) (b c : Nat) : Upd2 w w b c := ⟨fun _ _ _ => rfl, rfl, rfl, rfl, rfl⟩
theorem Upd2.upd {w w1 w2 : World} {b c p : Nat} {cs : Array Value} (h : Upd2 w w1 b c) (hu : Upd w1 w2 p cs) (hp : p = b ∨ p = c) : Upd2 w w2 b c :=
  ⟨fun m h1 h2 => by
    rw [hu.keep m (by rcases hp with e | e <;> rw [e] <;> assumption)]; exact h.keep m h1 h2, hu.size.trans h.size, hu.os.trans h.os, hu.tape.trans h.tape, hu.output.trans h.output⟩
theorem Upd2.set {w w1 : World} {b c p o : Nat} {v : Value} (h : Upd2 w w1 b c) (hp : p = b ∨ p = c) : Upd2 w (w1.setCell ⟨p, o, none⟩ v) b c :=
  ⟨fun m h1 h2 => by
    rw [Below.heap_setCell w1 ⟨p, o, none⟩ v m (by rcases hp with e | e <;> show m ≠ p <;> rw [e] <;> assumption)]; exact h.keep m h1 h2,
   by rw [← h.size]; simp [World.setCell], h.os, h.tape, h.output⟩
theorem Upd2.below {w w' : World} {b c B : Nat} (h : Upd2 w w' b c) (hb : B ≤ b) (hc : B ≤ c) : Below B w w' := ⟨h.os, h.tape, h.output, by rw [h.size]; exact Nat.le_refl _, fun k hk => h.keep k (by omega) (by omega)⟩


/-- what fold hands back at width 1, column 0 -/
def Fold10 (a b : Lat.V) (pa pb : Nat) (w w' : World) (e : Ending) : Prop :=
  ∃ (p q : Nat) (a' b' : Lat.V), Lat.Swept 0 a b a' b' ∧ e = .returned (.tuple #[.slice (some ⟨p, 0, none⟩) 1 1, .slice (some ⟨q, 0, none⟩) 1 1]) ∧ ((p = pa ∧ q = pb) ∨ (p = pb ∧ q = pa)) ∧ Upd2 w w' pa pb ∧ Blk w' p #[.int .i64 a'.x] 3 ∧ Blk w' q #[.int .i64 b'.x] 3

set_option maxRecDepth 100000 in
set_option maxHeartbeats 2000000 in
theorem fold10 (a b : Lat.V) (pa pb : Nat) (w : World) (ba : Blk w pa #[.int .i64 a.x] 3) (bb : Blk w pb #[.int .i64 b.x] 3) (hne : pa ≠ pb) (hr : Lat.Room 0 a b) :
    Calls Try.prog 74 #[.slice (some ⟨pa, 0, none⟩) 1 1, .slice (some ⟨pb, 0, none⟩) 1 1, .int .i64 0] w fun e w' => Fold10 a b pa pb w w' e := by
  go_enter Try.func74, Try.ntmps74
  go_wp2
  go_loopg [0, 1] (b.x.natAbs) (fun m s0 s1 wr => ∃ (p q : Nat) (a' b' : Lat.V), s0 = .slice (some ⟨p, 0, none⟩) 1 1 ∧ s1 = .slice (some ⟨q, 0, none⟩) 1 1 ∧ Lat.Euc 0 a b a' b' ∧ b'.x.natAbs = m ∧ ((p = pa ∧ q = pb) ∨ (p = pb ∧ q = pa)) ∧ Upd2 w wr pa pb ∧ Blk wr p #[.int .i64 a'.x] 3 ∧ Blk wr q #[.int .i64 b'.x] 3)
  case atStart => exact ⟨pa, pb, a, b, rfl, rfl, Lat.Euc.start 0 a b, rfl, Or.inl ⟨rfl, rfl⟩, Upd2.refl _ _ _, ba, bb⟩
  case round =>
    obtain ⟨p, q, a', b', rfl, rfl, hE, hm, hpq, hU, hbp, hbq⟩ := hrel
    have HE := hide hE
    have HM := hide hm
    have HPQ := hide hpq
    have hpn : ¬ p = q := by omega
    have hqp : ¬ q = p := by omega
    have hpp : p = pa ∨ p = pb := by omega
    have ca := hbp.cell 0
    have cb := hbq.cell 0
    simp at ca cb
    clear hE hm hpq
    by_cases hz : b'.x = 0
    · have hz' : (b'.x != 0) = false := by simpa using hz
      have HZ := hide hz
      clear hz
      by_cases hs : a'.x < 0
      · have ca0 := hbp.cell 0
        have fa0 := hbp.frozen 0
        have wn0 : -4611686018427387904 ≤ a'.x ∧ a'.x ≤ 4611686018427387904 := by have e := (hr.euc HE.out 0 (by omega)).1; simp only [Lat.V.at0, Lat.E] at e; omega
        simp at ca0
        go_wp2
        refine wp_loop_rounds 2 ?_
        rw [rounds_succ]; go_wp2
        rw [rounds_succ]; go_wp2
        go_ret2
        refine ⟨p, q, Lat.less ⟨0, 0, 0⟩ 1 a', b', Lat.Euc.turned HE.out HZ.out hs, rfl, HPQ.out, (hU.set (o := 0) (v := .int .i64 (-a'.x)) hpp), ?_, (hbq.other (a := ⟨p, 0, none⟩) hqp (.int .i64 (-a'.x)))⟩
        have := (hbp.set 0 (.int .i64 (-a'.x)))
        simpa [Lat.less] using this
      · go_wp2
        go_ret2
        exact ⟨p, q, a', b', Lat.Euc.done HE.out HZ.out (by show 0 ≤ a'.x; omega), rfl, HPQ.out, hU, hbp, hbq⟩
    · have hz' : (b'.x != 0) = true := by simpa using hz
      have hwq : IntKind.i64.wrap (a'.x.tdiv b'.x) = a'.x.tdiv b'.x := by
        have e0 := (hr.euc HE.out 0 (by omega)).1
        have e1 : (a'.x.tdiv b'.x).natAbs ≤ a'.x.natAbs := by rw [Int.natAbs_tdiv]; exact Nat.div_le_self _ _
        simp only [Lat.V.at0, Lat.E] at e0
        exact wrap_in (by omega) (by omega)
      have HT : Hid (∀ w0, w0.heap = wr.heap → Calls Try.prog 78 #[.slice (some ⟨p, 0, none⟩) 1 1, .int .i64 (a'.x.tdiv b'.x), .slice (some ⟨q, 0, none⟩) 1 1] w0 fun e w' => e = .returned (.tuple #[]) ∧ Upd w0 w' p #[.int .i64 (Lat.less a' (a'.x.tdiv b'.x) b').x]) := fun w0 h0 => by
        have e0 := (hr.euc HE.out 0 (by omega)).1
        have t0 := hr.times HE.out hz 0 (by omega)
        simp only [Lat.V.at0, Lat.E] at e0 t0
        exact less1 a' b' _ p q w0 (by unfold Blk; rw [h0]; exact hbp) (by unfold Blk; rw [h0]; exact hbq) hpn (by omega) (by omega)
      have hst := hide (HE.out.step hz)
      have hms : (Lat.less a' (a'.x.tdiv b'.x) b').x.natAbs < b'.x.natAbs := by
        have : (Lat.less a' (a'.x.tdiv b'.x) b').x = a'.x.tmod b'.x := by
          show a'.x - a'.x.tdiv b'.x * b'.x = _
          rw [Int.tmod_def, Int.mul_comm]
        rw [this, Int.natAbs_tmod]; exact Nat.mod_lt _ (Int.natAbs_pos.2 hz)
      have HMS := hide hms
      clear hms
      go_wp2
      refine wp_region_still_tail 11 (by kernel_rfl) (by kernel_rfl) ?_
      change wpStill _ _ (World.drew _) (fun a' => wpList _ _ _ _ a' (World.drew _)) _ _
      simp only [List.take_succ_cons, List.take_zero, List.drop_succ_cons, List.drop_zero]
      repeat still_step
      try refine wpStill_nil ?_
      go_wp2_with fail
      refine (HT.out wr.drew rfl).mono ?_
      rintro e w1 ⟨rfl, hu⟩
      have HU := hide hu.drew
      clear hu
      go_wp2
      go_roundg ((Lat.less a' (a'.x.tdiv b'.x) b').x.natAbs)
      case measure => rw [← HM.out]; exact HMS.out
      case rel =>
        refine ⟨q, p, b', _, rfl, rfl, hst.out, rfl, by have := HPQ.out; omega, hU.upd HU.out hpp, ?_, HU.out.blk⟩
        unfold Blk; rw [HU.out.keep q hqp]; exact hbq

/-- what fold hands back at width 2, column 0 -/
def Fold20 (a b : Lat.V) (pa pb : Nat) (w w' : World) (e : Ending) : Prop :=
  ∃ (p q : Nat) (a' b' : Lat.V), Lat.Swept 0 a b a' b' ∧ e = .returned (.tuple #[.slice (some ⟨p, 0, none⟩) 2 2, .slice (some ⟨q, 0, none⟩) 2 2]) ∧ ((p = pa ∧ q = pb) ∨ (p = pb ∧ q = pa)) ∧ Upd2 w w' pa pb ∧ Blk w' p #[.int .i64 a'.x, .int .i64 a'.y] 3 ∧ Blk w' q #[.int .i64 b'.x, .int .i64 b'.y] 3

set_option maxRecDepth 100000 in
set_option maxHeartbeats 2000000 in
theorem fold20 (a b : Lat.V) (pa pb : Nat) (w : World) (ba : Blk w pa #[.int .i64 a.x, .int .i64 a.y] 3) (bb : Blk w pb #[.int .i64 b.x, .int .i64 b.y] 3) (hne : pa ≠ pb) (hr : Lat.Room 0 a b) :
    Calls Try.prog 74 #[.slice (some ⟨pa, 0, none⟩) 2 2, .slice (some ⟨pb, 0, none⟩) 2 2, .int .i64 0] w fun e w' => Fold20 a b pa pb w w' e := by
  go_enter Try.func74, Try.ntmps74
  go_wp2
  go_loopg [0, 1] (b.x.natAbs) (fun m s0 s1 wr => ∃ (p q : Nat) (a' b' : Lat.V), s0 = .slice (some ⟨p, 0, none⟩) 2 2 ∧ s1 = .slice (some ⟨q, 0, none⟩) 2 2 ∧ Lat.Euc 0 a b a' b' ∧ b'.x.natAbs = m ∧ ((p = pa ∧ q = pb) ∨ (p = pb ∧ q = pa)) ∧ Upd2 w wr pa pb ∧ Blk wr p #[.int .i64 a'.x, .int .i64 a'.y] 3 ∧ Blk wr q #[.int .i64 b'.x, .int .i64 b'.y] 3)
  case atStart => exact ⟨pa, pb, a, b, rfl, rfl, Lat.Euc.start 0 a b, rfl, Or.inl ⟨rfl, rfl⟩, Upd2.refl _ _ _, ba, bb⟩
  case round =>
    obtain ⟨p, q, a', b', rfl, rfl, hE, hm, hpq, hU, hbp, hbq⟩ := hrel
    have HE := hide hE
    have HM := hide hm
    have HPQ := hide hpq
    have hpn : ¬ p = q := by omega
    have hqp : ¬ q = p := by omega
    have hpp : p = pa ∨ p = pb := by omega
    have ca := hbp.cell 0
    have cb := hbq.cell 0
    simp at ca cb
    clear hE hm hpq
    by_cases hz : b'.x = 0
    · have hz' : (b'.x != 0) = false := by simpa using hz
      have HZ := hide hz
      clear hz
      by_cases hs : a'.x < 0
      · have ca0 := hbp.cell 0; have ca1 := hbp.cell 1
        have fa0 := hbp.frozen 0; have fa1 := hbp.frozen 1
        have wn0 : -4611686018427387904 ≤ a'.x ∧ a'.x ≤ 4611686018427387904 := by have e := (hr.euc HE.out 0 (by omega)).1; simp only [Lat.V.at0, Lat.E] at e; omega
        have wn1 : -4611686018427387904 ≤ a'.y ∧ a'.y ≤ 4611686018427387904 := by have e := (hr.euc HE.out 1 (by omega)).1; simp only [Lat.V.at1, Lat.E] at e; omega
        simp at ca0 ca1
        go_wp2
        refine wp_loop_rounds 3 ?_
        rw [rounds_succ]; go_wp2
        rw [rounds_succ]; go_wp2
        rw [rounds_succ]; go_wp2
        go_ret2
        refine ⟨p, q, Lat.less ⟨0, 0, 0⟩ 1 a', b', Lat.Euc.turned HE.out HZ.out hs, rfl, HPQ.out, ((hU.set (o := 0) (v := .int .i64 (-a'.x)) hpp).set (o := 1) (v := .int .i64 (-a'.y)) hpp), ?_, ((hbq.other (a := ⟨p, 0, none⟩) hqp (.int .i64 (-a'.x))).other (a := ⟨p, 1, none⟩) hqp (.int .i64 (-a'.y)))⟩
        have := ((hbp.set 0 (.int .i64 (-a'.x))).set 1 (.int .i64 (-a'.y)))
        simpa [Lat.less] using this
      · go_wp2
        go_ret2
        exact ⟨p, q, a', b', Lat.Euc.done HE.out HZ.out (by show 0 ≤ a'.x; omega), rfl, HPQ.out, hU, hbp, hbq⟩
    · have hz' : (b'.x != 0) = true := by simpa using hz
      have hwq : IntKind.i64.wrap (a'.x.tdiv b'.x) = a'.x.tdiv b'.x := by
        have e0 := (hr.euc HE.out 0 (by omega)).1
        have e1 : (a'.x.tdiv b'.x).natAbs ≤ a'.x.natAbs := by rw [Int.natAbs_tdiv]; exact Nat.div_le_self _ _
        simp only [Lat.V.at0, Lat.E] at e0
        exact wrap_in (by omega) (by omega)
      have HT : Hid (∀ w0, w0.heap = wr.heap → Calls Try.prog 78 #[.slice (some ⟨p, 0, none⟩) 2 2, .int .i64 (a'.x.tdiv b'.x), .slice (some ⟨q, 0, none⟩) 2 2] w0 fun e w' => e = .returned (.tuple #[]) ∧ Upd w0 w' p #[.int .i64 (Lat.less a' (a'.x.tdiv b'.x) b').x, .int .i64 (Lat.less a' (a'.x.tdiv b'.x) b').y]) := fun w0 h0 => by
        have e0 := (hr.euc HE.out 0 (by omega)).1; have e1 := (hr.euc HE.out 1 (by omega)).1
        have t0 := hr.times HE.out hz 0 (by omega); have t1 := hr.times HE.out hz 1 (by omega)
        simp only [Lat.V.at0, Lat.V.at1, Lat.E] at e0 e1 t0 t1
        exact less2 a' b' _ p q w0 (by unfold Blk; rw [h0]; exact hbp) (by unfold Blk; rw [h0]; exact hbq) hpn (by omega) (by omega) (by omega) (by omega)
      have hst := hide (HE.out.step hz)
      have hms : (Lat.less a' (a'.x.tdiv b'.x) b').x.natAbs < b'.x.natAbs := by
        have : (Lat.less a' (a'.x.tdiv b'.x) b').x = a'.x.tmod b'.x := by
          show a'.x - a'.x.tdiv b'.x * b'.x = _
          rw [Int.tmod_def, Int.mul_comm]
        rw [this, Int.natAbs_tmod]; exact Nat.mod_lt _ (Int.natAbs_pos.2 hz)
      have HMS := hide hms
      clear hms
      go_wp2
      refine wp_region_still_tail 11 (by kernel_rfl) (by kernel_rfl) ?_
      change wpStill _ _ (World.drew _) (fun a' => wpList _ _ _ _ a' (World.drew _)) _ _
      simp only [List.take_succ_cons, List.take_zero, List.drop_succ_cons, List.drop_zero]
      repeat still_step
      try refine wpStill_nil ?_
      go_wp2_with fail
      refine (HT.out wr.drew rfl).mono ?_
      rintro e w1 ⟨rfl, hu⟩
      have HU := hide hu.drew
      clear hu
      go_wp2
      go_roundg ((Lat.less a' (a'.x.tdiv b'.x) b').x.natAbs)
      case measure => rw [← HM.out]; exact HMS.out
      case rel =>
        refine ⟨q, p, b', _, rfl, rfl, hst.out, rfl, by have := HPQ.out; omega, hU.upd HU.out hpp, ?_, HU.out.blk⟩
        unfold Blk; rw [HU.out.keep q hqp]; exact hbq

/-- what fold hands back at width 2, column 1 -/
def Fold21 (a b : Lat.V) (pa pb : Nat) (w w' : World) (e : Ending) : Prop :=
  ∃ (p q : Nat) (a' b' : Lat.V), Lat.Swept 1 a b a' b' ∧ e = .returned (.tuple #[.slice (some ⟨p, 0, none⟩) 2 2, .slice (some ⟨q, 0, none⟩) 2 2]) ∧ ((p = pa ∧ q = pb) ∨ (p = pb ∧ q = pa)) ∧ Upd2 w w' pa pb ∧ Blk w' p #[.int .i64 a'.x, .int .i64 a'.y] 3 ∧ Blk w' q #[.int .i64 b'.x, .int .i64 b'.y] 3

set_option maxRecDepth 100000 in
set_option maxHeartbeats 2000000 in
theorem fold21 (a b : Lat.V) (pa pb : Nat) (w : World) (ba : Blk w pa #[.int .i64 a.x, .int .i64 a.y] 3) (bb : Blk w pb #[.int .i64 b.x, .int .i64 b.y] 3) (hne : pa ≠ pb) (hr : Lat.Room 1 a b) :
    Calls Try.prog 74 #[.slice (some ⟨pa, 0, none⟩) 2 2, .slice (some ⟨pb, 0, none⟩) 2 2, .int .i64 1] w fun e w' => Fold21 a b pa pb w w' e := by
  go_enter Try.func74, Try.ntmps74
  go_wp2
  go_loopg [0, 1] (b.y.natAbs) (fun m s0 s1 wr => ∃ (p q : Nat) (a' b' : Lat.V), s0 = .slice (some ⟨p, 0, none⟩) 2 2 ∧ s1 = .slice (some ⟨q, 0, none⟩) 2 2 ∧ Lat.Euc 1 a b a' b' ∧ b'.y.natAbs = m ∧ ((p = pa ∧ q = pb) ∨ (p = pb ∧ q = pa)) ∧ Upd2 w wr pa pb ∧ Blk wr p #[.int .i64 a'.x, .int .i64 a'.y] 3 ∧ Blk wr q #[.int .i64 b'.x, .int .i64 b'.y] 3)
  case atStart => exact ⟨pa, pb, a, b, rfl, rfl, Lat.Euc.start 1 a b, rfl, Or.inl ⟨rfl, rfl⟩, Upd2.refl _ _ _, ba, bb⟩
  case round =>
    obtain ⟨p, q, a', b', rfl, rfl, hE, hm, hpq, hU, hbp, hbq⟩ := hrel
    have HE := hide hE
    have HM := hide hm
    have HPQ := hide hpq
    have hpn : ¬ p = q := by omega
    have hqp : ¬ q = p := by omega
    have hpp : p = pa ∨ p = pb := by omega
    have ca := hbp.cell 1
    have cb := hbq.cell 1
    simp at ca cb
    clear hE hm hpq
    by_cases hz : b'.y = 0
    · have hz' : (b'.y != 0) = false := by simpa using hz
      have HZ := hide hz
      clear hz
      by_cases hs : a'.y < 0
      · have ca0 := hbp.cell 0; have ca1 := hbp.cell 1
        have fa0 := hbp.frozen 0; have fa1 := hbp.frozen 1
        have wn0 : -4611686018427387904 ≤ a'.x ∧ a'.x ≤ 4611686018427387904 := by have e := (hr.euc HE.out 0 (by omega)).1; simp only [Lat.V.at0, Lat.E] at e; omega
        have wn1 : -4611686018427387904 ≤ a'.y ∧ a'.y ≤ 4611686018427387904 := by have e := (hr.euc HE.out 1 (by omega)).1; simp only [Lat.V.at1, Lat.E] at e; omega
        simp at ca0 ca1
        go_wp2
        refine wp_loop_rounds 3 ?_
        rw [rounds_succ]; go_wp2
        rw [rounds_succ]; go_wp2
        rw [rounds_succ]; go_wp2
        go_ret2
        refine ⟨p, q, Lat.less ⟨0, 0, 0⟩ 1 a', b', Lat.Euc.turned HE.out HZ.out hs, rfl, HPQ.out, ((hU.set (o := 0) (v := .int .i64 (-a'.x)) hpp).set (o := 1) (v := .int .i64 (-a'.y)) hpp), ?_, ((hbq.other (a := ⟨p, 0, none⟩) hqp (.int .i64 (-a'.x))).other (a := ⟨p, 1, none⟩) hqp (.int .i64 (-a'.y)))⟩
        have := ((hbp.set 0 (.int .i64 (-a'.x))).set 1 (.int .i64 (-a'.y)))
        simpa [Lat.less] using this
      · go_wp2
        go_ret2
        exact ⟨p, q, a', b', Lat.Euc.done HE.out HZ.out (by show 0 ≤ a'.y; omega), rfl, HPQ.out, hU, hbp, hbq⟩
    · have hz' : (b'.y != 0) = true := by simpa using hz
      have hwq : IntKind.i64.wrap (a'.y.tdiv b'.y) = a'.y.tdiv b'.y := by
        have e0 := (hr.euc HE.out 1 (by omega)).1
        have e1 : (a'.y.tdiv b'.y).natAbs ≤ a'.y.natAbs := by rw [Int.natAbs_tdiv]; exact Nat.div_le_self _ _
        simp only [Lat.V.at1, Lat.E] at e0
        exact wrap_in (by omega) (by omega)
      have HT : Hid (∀ w0, w0.heap = wr.heap → Calls Try.prog 78 #[.slice (some ⟨p, 0, none⟩) 2 2, .int .i64 (a'.y.tdiv b'.y), .slice (some ⟨q, 0, none⟩) 2 2] w0 fun e w' => e = .returned (.tuple #[]) ∧ Upd w0 w' p #[.int .i64 (Lat.less a' (a'.y.tdiv b'.y) b').x, .int .i64 (Lat.less a' (a'.y.tdiv b'.y) b').y]) := fun w0 h0 => by
        have e0 := (hr.euc HE.out 0 (by omega)).1; have e1 := (hr.euc HE.out 1 (by omega)).1
        have t0 := hr.times HE.out hz 0 (by omega); have t1 := hr.times HE.out hz 1 (by omega)
        simp only [Lat.V.at0, Lat.V.at1, Lat.E] at e0 e1 t0 t1
        exact less2 a' b' _ p q w0 (by unfold Blk; rw [h0]; exact hbp) (by unfold Blk; rw [h0]; exact hbq) hpn (by omega) (by omega) (by omega) (by omega)
      have hst := hide (HE.out.step hz)
      have hms : (Lat.less a' (a'.y.tdiv b'.y) b').y.natAbs < b'.y.natAbs := by
        have : (Lat.less a' (a'.y.tdiv b'.y) b').y = a'.y.tmod b'.y := by
          show a'.y - a'.y.tdiv b'.y * b'.y = _
          rw [Int.tmod_def, Int.mul_comm]
        rw [this, Int.natAbs_tmod]; exact Nat.mod_lt _ (Int.natAbs_pos.2 hz)
      have HMS := hide hms
      clear hms
      go_wp2
      refine wp_region_still_tail 11 (by kernel_rfl) (by kernel_rfl) ?_
      change wpStill _ _ (World.drew _) (fun a' => wpList _ _ _ _ a' (World.drew _)) _ _
      simp only [List.take_succ_cons, List.take_zero, List.drop_succ_cons, List.drop_zero]
      repeat still_step
      try refine wpStill_nil ?_
      go_wp2_with fail
      refine (HT.out wr.drew rfl).mono ?_
      rintro e w1 ⟨rfl, hu⟩
      have HU := hide hu.drew
      clear hu
      go_wp2
      go_roundg ((Lat.less a' (a'.y.tdiv b'.y) b').y.natAbs)
      case measure => rw [← HM.out]; exact HMS.out
      case rel =>
        refine ⟨q, p, b', _, rfl, rfl, hst.out, rfl, by have := HPQ.out; omega, hU.upd HU.out hpp, ?_, HU.out.blk⟩
        unfold Blk; rw [HU.out.keep q hqp]; exact hbq

/-- what fold hands back at width 3, column 0 -/
def Fold30 (a b : Lat.V) (pa pb : Nat) (w w' : World) (e : Ending) : Prop :=
  ∃ (p q : Nat) (a' b' : Lat.V), Lat.Swept 0 a b a' b' ∧ e = .returned (.tuple #[.slice (some ⟨p, 0, none⟩) 3 3, .slice (some ⟨q, 0, none⟩) 3 3]) ∧ ((p = pa ∧ q = pb) ∨ (p = pb ∧ q = pa)) ∧ Upd2 w w' pa pb ∧ Blk w' p #[.int .i64 a'.x, .int .i64 a'.y, .int .i64 a'.z] 3 ∧ Blk w' q #[.int .i64 b'.x, .int .i64 b'.y, .int .i64 b'.z] 3

set_option maxRecDepth 100000 in
set_option maxHeartbeats 2000000 in
theorem fold30 (a b : Lat.V) (pa pb : Nat) (w : World) (ba : Blk w pa #[.int .i64 a.x, .int .i64 a.y, .int .i64 a.z] 3) (bb : Blk w pb #[.int .i64 b.x, .int .i64 b.y, .int .i64 b.z] 3) (hne : pa ≠ pb) (hr : Lat.Room 0 a b) :
    Calls Try.prog 74 #[.slice (some ⟨pa, 0, none⟩) 3 3, .slice (some ⟨pb, 0, none⟩) 3 3, .int .i64 0] w fun e w' => Fold30 a b pa pb w w' e := by
  go_enter Try.func74, Try.ntmps74
  go_wp2
  go_loopg [0, 1] (b.x.natAbs) (fun m s0 s1 wr => ∃ (p q : Nat) (a' b' : Lat.V), s0 = .slice (some ⟨p, 0, none⟩) 3 3 ∧ s1 = .slice (some ⟨q, 0, none⟩) 3 3 ∧ Lat.Euc 0 a b a' b' ∧ b'.x.natAbs = m ∧ ((p = pa ∧ q = pb) ∨ (p = pb ∧ q = pa)) ∧ Upd2 w wr pa pb ∧ Blk wr p #[.int .i64 a'.x, .int .i64 a'.y, .int .i64 a'.z] 3 ∧ Blk wr q #[.int .i64 b'.x, .int .i64 b'.y, .int .i64 b'.z] 3)
  case atStart => exact ⟨pa, pb, a, b, rfl, rfl, Lat.Euc.start 0 a b, rfl, Or.inl ⟨rfl, rfl⟩, Upd2.refl _ _ _, ba, bb⟩
  case round =>
    obtain ⟨p, q, a', b', rfl, rfl, hE, hm, hpq, hU, hbp, hbq⟩ := hrel
    have HE := hide hE
    have HM := hide hm
    have HPQ := hide hpq
    have hpn : ¬ p = q := by omega
    have hqp : ¬ q = p := by omega
    have hpp : p = pa ∨ p = pb := by omega
    have ca := hbp.cell 0
    have cb := hbq.cell 0
    simp at ca cb
    clear hE hm hpq
    by_cases hz : b'.x = 0
    · have hz' : (b'.x != 0) = false := by simpa using hz
      have HZ := hide hz
      clear hz
      by_cases hs : a'.x < 0
      · have ca0 := hbp.cell 0; have ca1 := hbp.cell 1; have ca2 := hbp.cell 2
        have fa0 := hbp.frozen 0; have fa1 := hbp.frozen 1; have fa2 := hbp.frozen 2
        have wn0 : -4611686018427387904 ≤ a'.x ∧ a'.x ≤ 4611686018427387904 := by have e := (hr.euc HE.out 0 (by omega)).1; simp only [Lat.V.at0, Lat.E] at e; omega
        have wn1 : -4611686018427387904 ≤ a'.y ∧ a'.y ≤ 4611686018427387904 := by have e := (hr.euc HE.out 1 (by omega)).1; simp only [Lat.V.at1, Lat.E] at e; omega
        have wn2 : -4611686018427387904 ≤ a'.z ∧ a'.z ≤ 4611686018427387904 := by have e := (hr.euc HE.out 2 (by omega)).1; simp only [Lat.V.at2, Lat.E] at e; omega
        simp at ca0 ca1 ca2
        go_wp2
        refine wp_loop_rounds 4 ?_
        rw [rounds_succ]; go_wp2
        rw [rounds_succ]; go_wp2
        rw [rounds_succ]; go_wp2
        rw [rounds_succ]; go_wp2
        go_ret2
        refine ⟨p, q, Lat.less ⟨0, 0, 0⟩ 1 a', b', Lat.Euc.turned HE.out HZ.out hs, rfl, HPQ.out, (((hU.set (o := 0) (v := .int .i64 (-a'.x)) hpp).set (o := 1) (v := .int .i64 (-a'.y)) hpp).set (o := 2) (v := .int .i64 (-a'.z)) hpp), ?_, (((hbq.other (a := ⟨p, 0, none⟩) hqp (.int .i64 (-a'.x))).other (a := ⟨p, 1, none⟩) hqp (.int .i64 (-a'.y))).other (a := ⟨p, 2, none⟩) hqp (.int .i64 (-a'.z)))⟩
        have := (((hbp.set 0 (.int .i64 (-a'.x))).set 1 (.int .i64 (-a'.y))).set 2 (.int .i64 (-a'.z)))
        simpa [Lat.less] using this
      · go_wp2
        go_ret2
        exact ⟨p, q, a', b', Lat.Euc.done HE.out HZ.out (by show 0 ≤ a'.x; omega), rfl, HPQ.out, hU, hbp, hbq⟩
    · have hz' : (b'.x != 0) = true := by simpa using hz
      have hwq : IntKind.i64.wrap (a'.x.tdiv b'.x) = a'.x.tdiv b'.x := by
        have e0 := (hr.euc HE.out 0 (by omega)).1
        have e1 : (a'.x.tdiv b'.x).natAbs ≤ a'.x.natAbs := by rw [Int.natAbs_tdiv]; exact Nat.div_le_self _ _
        simp only [Lat.V.at0, Lat.E] at e0
        exact wrap_in (by omega) (by omega)
      have HT : Hid (∀ w0, w0.heap = wr.heap → Calls Try.prog 78 #[.slice (some ⟨p, 0, none⟩) 3 3, .int .i64 (a'.x.tdiv b'.x), .slice (some ⟨q, 0, none⟩) 3 3] w0 fun e w' => e = .returned (.tuple #[]) ∧ Upd w0 w' p #[.int .i64 (Lat.less a' (a'.x.tdiv b'.x) b').x, .int .i64 (Lat.less a' (a'.x.tdiv b'.x) b').y, .int .i64 (Lat.less a' (a'.x.tdiv b'.x) b').z]) := fun w0 h0 => by
        have e0 := (hr.euc HE.out 0 (by omega)).1; have e1 := (hr.euc HE.out 1 (by omega)).1; have e2 := (hr.euc HE.out 2 (by omega)).1
        have t0 := hr.times HE.out hz 0 (by omega); have t1 := hr.times HE.out hz 1 (by omega); have t2 := hr.times HE.out hz 2 (by omega)
        simp only [Lat.V.at0, Lat.V.at1, Lat.V.at2, Lat.E] at e0 e1 e2 t0 t1 t2
        exact less3 a' b' _ p q w0 (by unfold Blk; rw [h0]; exact hbp) (by unfold Blk; rw [h0]; exact hbq) hpn (by omega) (by omega) (by omega) (by omega) (by omega) (by omega)
      have hst := hide (HE.out.step hz)
      have hms : (Lat.less a' (a'.x.tdiv b'.x) b').x.natAbs < b'.x.natAbs := by
        have : (Lat.less a' (a'.x.tdiv b'.x) b').x = a'.x.tmod b'.x := by
          show a'.x - a'.x.tdiv b'.x * b'.x = _
          rw [Int.tmod_def, Int.mul_comm]
        rw [this, Int.natAbs_tmod]; exact Nat.mod_lt _ (Int.natAbs_pos.2 hz)
      have HMS := hide hms
      clear hms
      go_wp2
      refine wp_region_still_tail 11 (by kernel_rfl) (by kernel_rfl) ?_
      change wpStill _ _ (World.drew _) (fun a' => wpList _ _ _ _ a' (World.drew _)) _ _
      simp only [List.take_succ_cons, List.take_zero, List.drop_succ_cons, List.drop_zero]
      repeat still_step
      try refine wpStill_nil ?_
      go_wp2_with fail
      refine (HT.out wr.drew rfl).mono ?_
      rintro e w1 ⟨rfl, hu⟩
      have HU := hide hu.drew
      clear hu
      go_wp2
      go_roundg ((Lat.less a' (a'.x.tdiv b'.x) b').x.natAbs)
      case measure => rw [← HM.out]; exact HMS.out
      case rel =>
        refine ⟨q, p, b', _, rfl, rfl, hst.out, rfl, by have := HPQ.out; omega, hU.upd HU.out hpp, ?_, HU.out.blk⟩
        unfold Blk; rw [HU.out.keep q hqp]; exact hbq

/-- what fold hands back at width 3, column 1 -/
def Fold31 (a b : Lat.V) (pa pb : Nat) (w w' : World) (e : Ending) : Prop :=
  ∃ (p q : Nat) (a' b' : Lat.V), Lat.Swept 1 a b a' b' ∧ e = .returned (.tuple #[.slice (some ⟨p, 0, none⟩) 3 3, .slice (some ⟨q, 0, none⟩) 3 3]) ∧ ((p = pa ∧ q = pb) ∨ (p = pb ∧ q = pa)) ∧ Upd2 w w' pa pb ∧ Blk w' p #[.int .i64 a'.x, .int .i64 a'.y, .int .i64 a'.z] 3 ∧ Blk w' q #[.int .i64 b'.x, .int .i64 b'.y, .int .i64 b'.z] 3

set_option maxRecDepth 100000 in
set_option maxHeartbeats 2000000 in
theorem fold31 (a b : Lat.V) (pa pb : Nat) (w : World) (ba : Blk w pa #[.int .i64 a.x, .int .i64 a.y, .int .i64 a.z] 3) (bb : Blk w pb #[.int .i64 b.x, .int .i64 b.y, .int .i64 b.z] 3) (hne : pa ≠ pb) (hr : Lat.Room 1 a b) :
    Calls Try.prog 74 #[.slice (some ⟨pa, 0, none⟩) 3 3, .slice (some ⟨pb, 0, none⟩) 3 3, .int .i64 1] w fun e w' => Fold31 a b pa pb w w' e := by
  go_enter Try.func74, Try.ntmps74
  go_wp2
  go_loopg [0, 1] (b.y.natAbs) (fun m s0 s1 wr => ∃ (p q : Nat) (a' b' : Lat.V), s0 = .slice (some ⟨p, 0, none⟩) 3 3 ∧ s1 = .slice (some ⟨q, 0, none⟩) 3 3 ∧ Lat.Euc 1 a b a' b' ∧ b'.y.natAbs = m ∧ ((p = pa ∧ q = pb) ∨ (p = pb ∧ q = pa)) ∧ Upd2 w wr pa pb ∧ Blk wr p #[.int .i64 a'.x, .int .i64 a'.y, .int .i64 a'.z] 3 ∧ Blk wr q #[.int .i64 b'.x, .int .i64 b'.y, .int .i64 b'.z] 3)
  case atStart => exact ⟨pa, pb, a, b, rfl, rfl, Lat.Euc.start 1 a b, rfl, Or.inl ⟨rfl, rfl⟩, Upd2.refl _ _ _, ba, bb⟩
  case round =>
    obtain ⟨p, q, a', b', rfl, rfl, hE, hm, hpq, hU, hbp, hbq⟩ := hrel
    have HE := hide hE
    have HM := hide hm
    have HPQ := hide hpq
    have hpn : ¬ p = q := by omega
    have hqp : ¬ q = p := by omega
    have hpp : p = pa ∨ p = pb := by omega
    have ca := hbp.cell 1
    have cb := hbq.cell 1
    simp at ca cb
    clear hE hm hpq
    by_cases hz : b'.y = 0
    · have hz' : (b'.y != 0) = false := by simpa using hz
      have HZ := hide hz
      clear hz
      by_cases hs : a'.y < 0
      · have ca0 := hbp.cell 0; have ca1 := hbp.cell 1; have ca2 := hbp.cell 2
        have fa0 := hbp.frozen 0; have fa1 := hbp.frozen 1; have fa2 := hbp.frozen 2
        have wn0 : -4611686018427387904 ≤ a'.x ∧ a'.x ≤ 4611686018427387904 := by have e := (hr.euc HE.out 0 (by omega)).1; simp only [Lat.V.at0, Lat.E] at e; omega
        have wn1 : -4611686018427387904 ≤ a'.y ∧ a'.y ≤ 4611686018427387904 := by have e := (hr.euc HE.out 1 (by omega)).1; simp only [Lat.V.at1, Lat.E] at e; omega
        have wn2 : -4611686018427387904 ≤ a'.z ∧ a'.z ≤ 4611686018427387904 := by have e := (hr.euc HE.out 2 (by omega)).1; simp only [Lat.V.at2, Lat.E] at e; omega
        simp at ca0 ca1 ca2
        go_wp2
        refine wp_loop_rounds 4 ?_
        rw [rounds_succ]; go_wp2
        rw [rounds_succ]; go_wp2
        rw [rounds_succ]; go_wp2
        rw [rounds_succ]; go_wp2
        go_ret2
        refine ⟨p, q, Lat.less ⟨0, 0, 0⟩ 1 a', b', Lat.Euc.turned HE.out HZ.out hs, rfl, HPQ.out, (((hU.set (o := 0) (v := .int .i64 (-a'.x)) hpp).set (o := 1) (v := .int .i64 (-a'.y)) hpp).set (o := 2) (v := .int .i64 (-a'.z)) hpp), ?_, (((hbq.other (a := ⟨p, 0, none⟩) hqp (.int .i64 (-a'.x))).other (a := ⟨p, 1, none⟩) hqp (.int .i64 (-a'.y))).other (a := ⟨p, 2, none⟩) hqp (.int .i64 (-a'.z)))⟩
        have := (((hbp.set 0 (.int .i64 (-a'.x))).set 1 (.int .i64 (-a'.y))).set 2 (.int .i64 (-a'.z)))
        simpa [Lat.less] using this
      · go_wp2
        go_ret2
        exact ⟨p, q, a', b', Lat.Euc.done HE.out HZ.out (by show 0 ≤ a'.y; omega), rfl, HPQ.out, hU, hbp, hbq⟩
    · have hz' : (b'.y != 0) = true := by simpa using hz
      have hwq : IntKind.i64.wrap (a'.y.tdiv b'.y) = a'.y.tdiv b'.y := by
        have e0 := (hr.euc HE.out 1 (by omega)).1
        have e1 : (a'.y.tdiv b'.y).natAbs ≤ a'.y.natAbs := by rw [Int.natAbs_tdiv]; exact Nat.div_le_self _ _
        simp only [Lat.V.at1, Lat.E] at e0
        exact wrap_in (by omega) (by omega)
      have HT : Hid (∀ w0, w0.heap = wr.heap → Calls Try.prog 78 #[.slice (some ⟨p, 0, none⟩) 3 3, .int .i64 (a'.y.tdiv b'.y), .slice (some ⟨q, 0, none⟩) 3 3] w0 fun e w' => e = .returned (.tuple #[]) ∧ Upd w0 w' p #[.int .i64 (Lat.less a' (a'.y.tdiv b'.y) b').x, .int .i64 (Lat.less a' (a'.y.tdiv b'.y) b').y, .int .i64 (Lat.less a' (a'.y.tdiv b'.y) b').z]) := fun w0 h0 => by
        have e0 := (hr.euc HE.out 0 (by omega)).1; have e1 := (hr.euc HE.out 1 (by omega)).1; have e2 := (hr.euc HE.out 2 (by omega)).1
        have t0 := hr.times HE.out hz 0 (by omega); have t1 := hr.times HE.out hz 1 (by omega); have t2 := hr.times HE.out hz 2 (by omega)
        simp only [Lat.V.at0, Lat.V.at1, Lat.V.at2, Lat.E] at e0 e1 e2 t0 t1 t2
        exact less3 a' b' _ p q w0 (by unfold Blk; rw [h0]; exact hbp) (by unfold Blk; rw [h0]; exact hbq) hpn (by omega) (by omega) (by omega) (by omega) (by omega) (by omega)
      have hst := hide (HE.out.step hz)
      have hms : (Lat.less a' (a'.y.tdiv b'.y) b').y.natAbs < b'.y.natAbs := by
        have : (Lat.less a' (a'.y.tdiv b'.y) b').y = a'.y.tmod b'.y := by
          show a'.y - a'.y.tdiv b'.y * b'.y = _
          rw [Int.tmod_def, Int.mul_comm]
        rw [this, Int.natAbs_tmod]; exact Nat.mod_lt _ (Int.natAbs_pos.2 hz)
      have HMS := hide hms
      clear hms
      go_wp2
      refine wp_region_still_tail 11 (by kernel_rfl) (by kernel_rfl) ?_
      change wpStill _ _ (World.drew _) (fun a' => wpList _ _ _ _ a' (World.drew _)) _ _
      simp only [List.take_succ_cons, List.take_zero, List.drop_succ_cons, List.drop_zero]
      repeat still_step
      try refine wpStill_nil ?_
      go_wp2_with fail
      refine (HT.out wr.drew rfl).mono ?_
      rintro e w1 ⟨rfl, hu⟩
      have HU := hide hu.drew
      clear hu
      go_wp2
      go_roundg ((Lat.less a' (a'.y.tdiv b'.y) b').y.natAbs)
      case measure => rw [← HM.out]; exact HMS.out
      case rel =>
        refine ⟨q, p, b', _, rfl, rfl, hst.out, rfl, by have := HPQ.out; omega, hU.upd HU.out hpp, ?_, HU.out.blk⟩
        unfold Blk; rw [HU.out.keep q hqp]; exact hbq

/-- what fold hands back at width 3, column 2 -/
def Fold32 (a b : Lat.V) (pa pb : Nat) (w w' : World) (e : Ending) : Prop :=
  ∃ (p q : Nat) (a' b' : Lat.V), Lat.Swept 2 a b a' b' ∧ e = .returned (.tuple #[.slice (some ⟨p, 0, none⟩) 3 3, .slice (some ⟨q, 0, none⟩) 3 3]) ∧ ((p = pa ∧ q = pb) ∨ (p = pb ∧ q = pa)) ∧ Upd2 w w' pa pb ∧ Blk w' p #[.int .i64 a'.x, .int .i64 a'.y, .int .i64 a'.z] 3 ∧ Blk w' q #[.int .i64 b'.x, .int .i64 b'.y, .int .i64 b'.z] 3

set_option maxRecDepth 100000 in
set_option maxHeartbeats 2000000 in
theorem fold32 (a b : Lat.V) (pa pb : Nat) (w : World) (ba : Blk w pa #[.int .i64 a.x, .int .i64 a.y, .int .i64 a.z] 3) (bb : Blk w pb #[.int .i64 b.x, .int .i64 b.y, .int .i64 b.z] 3) (hne : pa ≠ pb) (hr : Lat.Room 2 a b) :
    Calls Try.prog 74 #[.slice (some ⟨pa, 0, none⟩) 3 3, .slice (some ⟨pb, 0, none⟩) 3 3, .int .i64 2] w fun e w' => Fold32 a b pa pb w w' e := by
  go_enter Try.func74, Try.ntmps74
  go_wp2
  go_loopg [0, 1] (b.z.natAbs) (fun m s0 s1 wr => ∃ (p q : Nat) (a' b' : Lat.V), s0 = .slice (some ⟨p, 0, none⟩) 3 3 ∧ s1 = .slice (some ⟨q, 0, none⟩) 3 3 ∧ Lat.Euc 2 a b a' b' ∧ b'.z.natAbs = m ∧ ((p = pa ∧ q = pb) ∨ (p = pb ∧ q = pa)) ∧ Upd2 w wr pa pb ∧ Blk wr p #[.int .i64 a'.x, .int .i64 a'.y, .int .i64 a'.z] 3 ∧ Blk wr q #[.int .i64 b'.x, .int .i64 b'.y, .int .i64 b'.z] 3)
  case atStart => exact ⟨pa, pb, a, b, rfl, rfl, Lat.Euc.start 2 a b, rfl, Or.inl ⟨rfl, rfl⟩, Upd2.refl _ _ _, ba, bb⟩
  case round =>
    obtain ⟨p, q, a', b', rfl, rfl, hE, hm, hpq, hU, hbp, hbq⟩ := hrel
    have HE := hide hE
    have HM := hide hm
    have HPQ := hide hpq
    have hpn : ¬ p = q := by omega
    have hqp : ¬ q = p := by omega
    have hpp : p = pa ∨ p = pb := by omega
    have ca := hbp.cell 2
    have cb := hbq.cell 2
    simp at ca cb
    clear hE hm hpq
    by_cases hz : b'.z = 0
    · have hz' : (b'.z != 0) = false := by simpa using hz
      have HZ := hide hz
      clear hz
      by_cases hs : a'.z < 0
      · have ca0 := hbp.cell 0; have ca1 := hbp.cell 1; have ca2 := hbp.cell 2
        have fa0 := hbp.frozen 0; have fa1 := hbp.frozen 1; have fa2 := hbp.frozen 2
        have wn0 : -4611686018427387904 ≤ a'.x ∧ a'.x ≤ 4611686018427387904 := by have e := (hr.euc HE.out 0 (by omega)).1; simp only [Lat.V.at0, Lat.E] at e; omega
        have wn1 : -4611686018427387904 ≤ a'.y ∧ a'.y ≤ 4611686018427387904 := by have e := (hr.euc HE.out 1 (by omega)).1; simp only [Lat.V.at1, Lat.E] at e; omega
        have wn2 : -4611686018427387904 ≤ a'.z ∧ a'.z ≤ 4611686018427387904 := by have e := (hr.euc HE.out 2 (by omega)).1; simp only [Lat.V.at2, Lat.E] at e; omega
        simp at ca0 ca1 ca2
        go_wp2
        refine wp_loop_rounds 4 ?_
        rw [rounds_succ]; go_wp2
        rw [rounds_succ]; go_wp2
        rw [rounds_succ]; go_wp2
        rw [rounds_succ]; go_wp2
        go_ret2
        refine ⟨p, q, Lat.less ⟨0, 0, 0⟩ 1 a', b', Lat.Euc.turned HE.out HZ.out hs, rfl, HPQ.out, (((hU.set (o := 0) (v := .int .i64 (-a'.x)) hpp).set (o := 1) (v := .int .i64 (-a'.y)) hpp).set (o := 2) (v := .int .i64 (-a'.z)) hpp), ?_, (((hbq.other (a := ⟨p, 0, none⟩) hqp (.int .i64 (-a'.x))).other (a := ⟨p, 1, none⟩) hqp (.int .i64 (-a'.y))).other (a := ⟨p, 2, none⟩) hqp (.int .i64 (-a'.z)))⟩
        have := (((hbp.set 0 (.int .i64 (-a'.x))).set 1 (.int .i64 (-a'.y))).set 2 (.int .i64 (-a'.z)))
        simpa [Lat.less] using this
      · go_wp2
        go_ret2
        exact ⟨p, q, a', b', Lat.Euc.done HE.out HZ.out (by show 0 ≤ a'.z; omega), rfl, HPQ.out, hU, hbp, hbq⟩
    · have hz' : (b'.z != 0) = true := by simpa using hz
      have hwq : IntKind.i64.wrap (a'.z.tdiv b'.z) = a'.z.tdiv b'.z := by
        have e0 := (hr.euc HE.out 2 (by omega)).1
        have e1 : (a'.z.tdiv b'.z).natAbs ≤ a'.z.natAbs := by rw [Int.natAbs_tdiv]; exact Nat.div_le_self _ _
        simp only [Lat.V.at2, Lat.E] at e0
        exact wrap_in (by omega) (by omega)
      have HT : Hid (∀ w0, w0.heap = wr.heap → Calls Try.prog 78 #[.slice (some ⟨p, 0, none⟩) 3 3, .int .i64 (a'.z.tdiv b'.z), .slice (some ⟨q, 0, none⟩) 3 3] w0 fun e w' => e = .returned (.tuple #[]) ∧ Upd w0 w' p #[.int .i64 (Lat.less a' (a'.z.tdiv b'.z) b').x, .int .i64 (Lat.less a' (a'.z.tdiv b'.z) b').y, .int .i64 (Lat.less a' (a'.z.tdiv b'.z) b').z]) := fun w0 h0 => by
        have e0 := (hr.euc HE.out 0 (by omega)).1; have e1 := (hr.euc HE.out 1 (by omega)).1; have e2 := (hr.euc HE.out 2 (by omega)).1
        have t0 := hr.times HE.out hz 0 (by omega); have t1 := hr.times HE.out hz 1 (by omega); have t2 := hr.times HE.out hz 2 (by omega)
        simp only [Lat.V.at0, Lat.V.at1, Lat.V.at2, Lat.E] at e0 e1 e2 t0 t1 t2
        exact less3 a' b' _ p q w0 (by unfold Blk; rw [h0]; exact hbp) (by unfold Blk; rw [h0]; exact hbq) hpn (by omega) (by omega) (by omega) (by omega) (by omega) (by omega)
      have hst := hide (HE.out.step hz)
      have hms : (Lat.less a' (a'.z.tdiv b'.z) b').z.natAbs < b'.z.natAbs := by
        have : (Lat.less a' (a'.z.tdiv b'.z) b').z = a'.z.tmod b'.z := by
          show a'.z - a'.z.tdiv b'.z * b'.z = _
          rw [Int.tmod_def, Int.mul_comm]
        rw [this, Int.natAbs_tmod]; exact Nat.mod_lt _ (Int.natAbs_pos.2 hz)
      have HMS := hide hms
      clear hms
      go_wp2
      refine wp_region_still_tail 11 (by kernel_rfl) (by kernel_rfl) ?_
      change wpStill _ _ (World.drew _) (fun a' => wpList _ _ _ _ a' (World.drew _)) _ _
      simp only [List.take_succ_cons, List.take_zero, List.drop_succ_cons, List.drop_zero]
      repeat still_step
      try refine wpStill_nil ?_
      go_wp2_with fail
      refine (HT.out wr.drew rfl).mono ?_
      rintro e w1 ⟨rfl, hu⟩
      have HU := hide hu.drew
      clear hu
      go_wp2
      go_roundg ((Lat.less a' (a'.z.tdiv b'.z) b').z.natAbs)
      case measure => rw [← HM.out]; exact HMS.out
      case rel =>
        refine ⟨q, p, b', _, rfl, rfl, hst.out, rfl, by have := HPQ.out; omega, hU.upd HU.out hpp, ?_, HU.out.blk⟩
        unfold Blk; rw [HU.out.keep q hqp]; exact hbq

end Go.Proofs.Ytdjicplcognddaa
