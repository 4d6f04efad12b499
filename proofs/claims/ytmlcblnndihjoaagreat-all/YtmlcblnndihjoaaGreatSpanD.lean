import Derived.Test.YtmlcblnndihjoaaGreatMem
import Derived.Deep.CutBlock

namespace Go.Proofs.YtmlcblnndihjoaaGreat
open Go.RowKit

theorem ret_val {a b : Value} (h : a = b) : Ending.returned a = .returned b := by rw [h]

theorem quot_neg {a p : Int} (h1 : 0 < p) (h2 : a.tmod p < 0) : a.tdiv p - 1 = a / p := by
  have h3 := Int.tmod_add_mul_tdiv a p
  have h4 := Int.emod_add_mul_ediv a p
  have h5 := Int.emod_nonneg a (b := p) (by omega)
  have h6 := Int.emod_lt_of_pos a h1
  have h7 : (a.tmod p).natAbs < p.natAbs := by rw [Int.natAbs_tmod]; exact Nat.mod_lt _ (by omega)
  have e : (a.tdiv p - 1 - a / p) * p = a % p - a.tmod p - p := by
    have : (a.tdiv p - 1 - a / p) * p = p * a.tdiv p - p - p * (a / p) := by
      generalize a.tdiv p = u; generalize a / p = v; grind
    omega
  rcases Lat.small_mul e.symm (by omega) (by omega) with q | q <;> omega

theorem quot_pos {a p : Int} (h1 : 0 < p) (h2 : 0 ≤ a.tmod p) : a.tdiv p = a / p := by
  have h3 := Int.tmod_add_mul_tdiv a p
  have h4 := Int.emod_add_mul_ediv a p
  have h5 := Int.emod_nonneg a (b := p) (by omega)
  have h6 := Int.emod_lt_of_pos a h1
  have h7 : (a.tmod p).natAbs < p.natAbs := by rw [Int.natAbs_tmod]; exact Nat.mod_lt _ (by omega)
  have e : (a.tdiv p - a / p) * p = a % p - a.tmod p := by
    have : (a.tdiv p - a / p) * p = p * a.tdiv p - p * (a / p) := by
      generalize a.tdiv p = u; generalize a / p = v; grind
    omega
  rcases Lat.small_mul e.symm (by omega) (by omega) with q | q <;> omega

set_option maxHeartbeats 400000 in
theorem quotient_any (a p : Int) (w : World) (h1 : -4611686018427387904 ≤ a) (h2 : a ≤ 4611686018427387904) (h3 : 0 ≤ p) (h4 : p ≤ 4611686018427387904) :
    Calls Tryz.prog 71 #[.int .i64 a, .int .i64 p] w fun e w' => e = .returned (.int .i64 (a / p)) ∧ w' = w := by
  go_enter Tryz.func71, Tryz.ntmps71
  go_wp2
  · go_ret
    have : p = 0 := by omega
    subst this
    exact ⟨by simp, rfl⟩
  · go_ret
    have e := quot_neg (a := a) (p := p) (by assumption) (by assumption)
    have b := Lat.div_le a p h3
    exact ⟨ret_val (congrArg (Value.int IntKind.i64) (by rw [e]; exact IntWalk.wrap64_in _ (by omega))), rfl⟩
  · go_ret
    have e := quot_pos (a := a) (p := p) (by assumption) (by assumption)
    exact ⟨ret_val (congrArg (Value.int IntKind.i64) e), rfl⟩

set_option maxHeartbeats 400000 in
theorem takeAway_any (a b : Lat.V) (t : Int) (w : World)
    (x1 : (a.x).natAbs ≤ 4611686018427387903) (x2 : (t * b.x).natAbs ≤ 4611686018427387903)
    (y1 : (a.y).natAbs ≤ 4611686018427387903) (y2 : (t * b.y).natAbs ≤ 4611686018427387903)
    (z1 : (a.z).natAbs ≤ 4611686018427387903) (z2 : (t * b.z).natAbs ≤ 4611686018427387903) :
    Calls Tryz.prog 72 #[.agg #[.int .i64 a.x, .int .i64 a.y, .int .i64 a.z], .int .i64 t, .agg #[.int .i64 b.x, .int .i64 b.y, .int .i64 b.z]] w
      fun e w' => e = .returned (.agg #[.int .i64 (Lat.less a t b).x, .int .i64 (Lat.less a t b).y, .int .i64 (Lat.less a t b).z]) ∧ Below w.heap.size w w' := by
  have X1 : -4611686018427387903 ≤ t * b.x ∧ t * b.x ≤ 4611686018427387903 := by omega
  have Y1 : -4611686018427387903 ≤ t * b.y ∧ t * b.y ≤ 4611686018427387903 := by omega
  have Z1 : -4611686018427387903 ≤ t * b.z ∧ t * b.z ≤ 4611686018427387903 := by omega
  have X2 : -4611686018427387903 ≤ a.x ∧ a.x ≤ 4611686018427387903 := by omega
  have Y2 : -4611686018427387903 ≤ a.y ∧ a.y ≤ 4611686018427387903 := by omega
  have Z2 : -4611686018427387903 ≤ a.z ∧ a.z ≤ 4611686018427387903 := by omega
  clear x1 x2 y1 y2 z1 z2
  go_enter Tryz.func72, Tryz.ntmps72
  go_wp2
  refine wp_loop_rounds 4 ?_
  rw [rounds_succ]; go_wp2
  go_region
  go_wp2
  rw [rounds_succ]; go_wp2
  go_region
  go_wp2
  rw [rounds_succ]; go_wp2
  go_region
  go_wp2
  rw [rounds_succ]; go_wp2
  refine bodyPost_ret (v := .agg #[.int .i64 (Lat.less a t b).x, .int .i64 (Lat.less a t b).y, .int .i64 (Lat.less a t b).z]) ?_ rfl ⟨rfl, ?_⟩
  · simp [results, Tryz.results72, go_sem, Lat.less]
  · go_grown

end Go.Proofs.YtmlcblnndihjoaaGreat

namespace Go.Proofs.YtmlcblnndihjoaaGreat
open Go.RowKit

theorem ret53 {R : Ending → World → Prop} {a : Act} {W : World} {p q : Nat} {x y z x' y' z' : Value}
    (h6 : a.tmps[6]?.getD undef = .pointer (some ⟨p, 0, none⟩)) (h7 : a.tmps[7]?.getD undef = .pointer (some ⟨q, 0, none⟩)) (k6 : Blk W p #[x, y, z] 55) (k7 : Blk W q #[x', y', z'] 55) (hd : a.defers = [])
    (hR : R (.returned (.tuple #[.agg #[x, y, z], .agg #[x', y', z']])) W) : bodyPost Tryz.prog Tryz.f90 R .ret a W := by
  obtain ⟨c0, c1, c2⟩ := k6.three
  obtain ⟨d0, d1, d2⟩ := k7.three
  refine bodyPost_ret (v := .tuple #[.agg #[x, y, z], .agg #[x', y', z']]) ?_ hd hR
  simp [results, Tryz.results90, go_sem, h6, h7, c0, c1, c2, d0, d1, d2]



set_option maxHeartbeats 1000000 in
theorem sweep0 (a b : Lat.V) (w : World) (hr : Lat.Room 0 a b) :
    Calls Tryz.prog 90 #[.agg #[.int .i64 a.x, .int .i64 a.y, .int .i64 a.z], .agg #[.int .i64 b.x, .int .i64 b.y, .int .i64 b.z], .int .i64 0] w
      fun e w' => ∃ a' b', Lat.Swept 0 a b a' b' ∧ e = .returned (.tuple #[.agg #[.int .i64 a'.x, .int .i64 a'.y, .int .i64 a'.z], .agg #[.int .i64 b'.x, .int .i64 b'.y, .int .i64 b'.z]]) ∧ Below w.heap.size w w' := by
  go_enter Tryz.func90, Tryz.ntmps90
  go_wp2
  go_loopg [] (b.x.natAbs) (fun n wr => ∃ a' b' : Lat.V, Lat.Euc 0 a b a' b' ∧ b'.x.natAbs = n ∧
     Blk wr w.heap.size #[.int .i64 a'.x, .int .i64 a'.y, .int .i64 a'.z] 55 ∧ Blk wr (w.heap.size + 1) #[.int .i64 b'.x, .int .i64 b'.y, .int .i64 b'.z] 55 ∧
     Blk wr (w.heap.size + 1 + 1) #[.int .i64 0, .int .i64 0, .int .i64 0] 55 ∧ Blk wr (w.heap.size + 1 + 1 + 1) #[.int .i64 0, .int .i64 0, .int .i64 0] 55 ∧ Below w.heap.size w wr)
  case atStart =>
    refine ⟨a, b, Lat.Euc.start 0 a b, rfl, (((Blk.new w _ _ rfl).alloc _).alloc _).alloc _, ((Blk.new (w.alloc _) _ _ (by simp)).alloc _).alloc _, (Blk.new ((w.alloc _).alloc _) _ _ (by simp)).alloc _, Blk.new (((w.alloc _).alloc _).alloc _) _ _ (by simp), ?_⟩
    go_grown
  case round =>
    obtain ⟨a', b', hE, hn, ba, bb, b6, b7, hB⟩ := hrel
    obtain ⟨ca0, ca1, ca2⟩ := ba.three
    obtain ⟨cb0, cb1, cb2⟩ := bb.three
    by_cases hz : b'.x = 0
    · have hz' : (b'.x != 0) = false := by simpa using hz
      have HE : Hid (Lat.Euc 0 a b a' b') := hE
      have HZ : Hid (b'.x = 0) := hz
      clear hE hn hz
      obtain ⟨c60, c61, c62⟩ := b6.three
      obtain ⟨c70, c71, c72⟩ := b7.three
      have fa0 := ba.frozen 0; have fa1 := ba.frozen 1; have fa2 := ba.frozen 2
      have f60 := b6.frozen 0; have f61 := b6.frozen 1; have f62 := b6.frozen 2
      have f70 := b7.frozen 0; have f71 := b7.frozen 1; have f72 := b7.frozen 2
      by_cases hs : a'.x < 0
      · have hT : ∀ w0, Calls Tryz.prog 72 #[.agg #[.int .i64 0, .int .i64 0, .int .i64 0], .int .i64 1, .agg #[.int .i64 a'.x, .int .i64 a'.y, .int .i64 a'.z]] w0
          fun e w' => e = .returned (.agg #[.int .i64 (Lat.less ⟨0, 0, 0⟩ 1 a').x, .int .i64 (Lat.less ⟨0, 0, 0⟩ 1 a').y, .int .i64 (Lat.less ⟨0, 0, 0⟩ 1 a').z]) ∧ Below w0.heap.size w0 w' := fun w0 => by
            have e0 := (hr.euc HE.out 0 (by omega)).1; have e1 := (hr.euc HE.out 1 (by omega)).1; have e2 := (hr.euc HE.out 2 (by omega)).1
            simp only [Lat.V.at0, Lat.V.at1, Lat.V.at2, Lat.E] at e0 e1 e2
            exact takeAway_any ⟨0, 0, 0⟩ a' 1 w0 (by simp) (by omega) (by simp) (by omega) (by simp) (by omega)
        obtain ⟨la, hla⟩ : ∃ la, la = Lat.less ⟨0, 0, 0⟩ 1 a' := ⟨_, rfl⟩
        rw [← hla] at hT
        have HL : Hid (la = Lat.less ⟨0, 0, 0⟩ 1 a') := hla
        clear hla
        have hlt := b7.lt
        have hl0 : w.heap.size < wr.heap.size := by omega
        have hl1 : w.heap.size + 1 < wr.heap.size := by omega
        have hl2 : w.heap.size + 1 + 1 < wr.heap.size := by omega
        go_wp2_with fail
        refine (hT _).mono ?_
        rintro e w1 ⟨rfl, hb1⟩
        have ka := ba.below hb1 hl0
        have kb := bb.below hb1 hl1
        have k6 := b6.below hb1 hl2
        have k7 := b7.below hb1 hlt
        clear hT ca0 ca1 ca2 cb0 cb1 cb2 c60 c61 c62 c70 c71 c72 fa0 fa1 fa2 f60 f61 f62 f70 f71 f72
        obtain ⟨ca0, ca1, ca2⟩ := ka.three
        obtain ⟨cb0, cb1, cb2⟩ := kb.three
        obtain ⟨c60, c61, c62⟩ := k6.three
        obtain ⟨c70, c71, c72⟩ := k7.three
        have fa0 := ka.frozen 0; have fa1 := ka.frozen 1; have fa2 := ka.frozen 2
        have f60 := k6.frozen 0; have f61 := k6.frozen 1; have f62 := k6.frozen 2
        have f70 := k7.frozen 0; have f71 := k7.frozen 1; have f72 := k7.frozen 2
        go_wp2
        go_region
        go_wp2
        refine ret53 rfl rfl (((k6.other3 (by omega) _ _ _).set3 _ _ _).other3 (by omega) _ _ _).drew (((k7.other3 (by omega) _ _ _).other3 (by omega) _ _ _).set3 _ _ _).drew rfl ⟨la, b', ?_, rfl, ?_⟩
        · rw [HL.out]; exact Lat.Euc.turned HE.out HZ.out hs
        · exact (below_set3 (below_set3 (below_set3 (hB.trans (hb1.mono (by omega))) (by omega) _ _ _) (by omega) _ _ _) (by omega) _ _ _).drew
      · go_wp2
        go_region
        go_wp2
        refine ret53 rfl rfl ((b6.set3 _ _ _).other3 (by omega) _ _ _).drew ((b7.other3 (by omega) _ _ _).set3 _ _ _).drew rfl ⟨a', b', ?_, rfl, ?_⟩
        · exact Lat.Euc.done HE.out HZ.out hs
        · exact (below_set3 (below_set3 hB (by omega) _ _ _) (by omega) _ _ _).drew
    · have hz' : (b'.x != 0) = true := by simpa using hz
      have HE : Hid (Lat.Euc 0 a b a' b') := hE
      have HN : Hid (b'.x.natAbs = gk) := hn
      clear hE hn
      have hwq : IntKind.i64.wrap (a'.x.tdiv b'.x) = a'.x.tdiv b'.x := by
        rw [IntKind.wrap_i64]
        have e0 := (hr.euc HE.out 0 (by omega)).1
        have e1 : (a'.x.tdiv b'.x).natAbs ≤ a'.x.natAbs := by rw [Int.natAbs_tdiv]; exact Nat.div_le_self _ _
        simp only [Lat.V.at0, Lat.E] at e0
        omega
      have hT : ∀ w0, Calls Tryz.prog 72 #[.agg #[.int .i64 a'.x, .int .i64 a'.y, .int .i64 a'.z], .int .i64 (a'.x.tdiv b'.x), .agg #[.int .i64 b'.x, .int .i64 b'.y, .int .i64 b'.z]] w0
          fun e w' => e = .returned (.agg #[.int .i64 (Lat.less a' (a'.x.tdiv b'.x) b').x, .int .i64 (Lat.less a' (a'.x.tdiv b'.x) b').y, .int .i64 (Lat.less a' (a'.x.tdiv b'.x) b').z]) ∧ Below w0.heap.size w0 w' := fun w0 => by
        have e0 := (hr.euc HE.out 0 (by omega)).1; have e1 := (hr.euc HE.out 1 (by omega)).1; have e2 := (hr.euc HE.out 2 (by omega)).1
        have t0 := hr.times HE.out hz 0 (by omega); have t1 := hr.times HE.out hz 1 (by omega); have t2 := hr.times HE.out hz 2 (by omega)
        simp only [Lat.V.at0, Lat.V.at1, Lat.V.at2, Lat.E] at e0 e1 e2 t0 t1 t2
        exact takeAway_any a' b' _ w0 (by omega) (by omega) (by omega) (by omega) (by omega) (by omega)
      have hst : Hid (Lat.Euc 0 a b b' (Lat.less a' (a'.x.tdiv b'.x) b')) := HE.out.step hz
      have hms : (Lat.less a' (a'.x.tdiv b'.x) b').x.natAbs < b'.x.natAbs := by
        have : (Lat.less a' (a'.x.tdiv b'.x) b').x = a'.x.tmod b'.x := by
          show a'.x - a'.x.tdiv b'.x * b'.x = _
          rw [Int.tmod_def, Int.mul_comm]
        rw [this, Int.natAbs_tmod]; exact Nat.mod_lt _ (Int.natAbs_pos.2 hz)
      have HM : Hid ((Lat.less a' (a'.x.tdiv b'.x) b').x.natAbs < b'.x.natAbs) := hms
      clear hms
      go_wp2
      have hlt := ba.lt
      have hlt2 := bb.lt
      have hle : w.heap.size ≤ wr.heap.size := by omega
      have hn1 : ¬ w.heap.size = wr.heap.size := by omega
      have hn2 : ¬ wr.heap.size = w.heap.size := by omega
      have hn3 : ¬ w.heap.size + 1 = wr.heap.size := by omega
      have hn4 : ¬ wr.heap.size = w.heap.size + 1 := by omega
      have hle2 : w.heap.size + 1 ≤ wr.heap.size := by omega
      generalize Lat.less a' (a'.x.tdiv b'.x) b' = la at *
      go_cut [8] (fun u8 wc => ∃ p, u8 = .pointer (some ⟨p, 0, none⟩) ∧ wr.heap.size ≤ p ∧ Blk wc p #[.int .i64 la.x, .int .i64 la.y, .int .i64 la.z] 55 ∧ Below wr.heap.size wr wc)
      case first =>
        clear b6 b7
        go_region_held3 (fun w' => w'.cell? ⟨w.heap.size, 0, none⟩ = some (.int .i64 a'.x) ∧ w'.cell? ⟨w.heap.size, 1, none⟩ = some (.int .i64 a'.y) ∧ w'.cell? ⟨w.heap.size, 2, none⟩ = some (.int .i64 a'.z) ∧ w'.cell? ⟨w.heap.size + 1, 0, none⟩ = some (.int .i64 b'.x) ∧ w'.cell? ⟨w.heap.size + 1, 1, none⟩ = some (.int .i64 b'.y) ∧ w'.cell? ⟨w.heap.size + 1, 2, none⟩ = some (.int .i64 b'.z))
          (go_keep)
          ((go_at_call 72; refine (hT _).mono ?_; rintro e w1 ⟨rfl, hb1⟩; obtain ⟨hc1, hf1⟩ := bcell hb1; have hz1 := hb1.size; simp at hz1 hc1 hf1
            have m1 : ¬ w.heap.size = w1.heap.size := by omega
            have m2 : ¬ w1.heap.size = w.heap.size := by omega
            have m3 : ¬ w.heap.size + 1 = w1.heap.size := by omega
            have m4 : ¬ w1.heap.size = w.heap.size + 1 := by omega
            have kA : Blk w1 w.heap.size #[.int .i64 a'.x, .int .i64 a'.y, .int .i64 a'.z] 55 := by first | exact ba.drew.below hb1 (by simp; omega) | exact (ba.alloc _).drew.below hb1 (by simp; omega)
            have kB : Blk w1 (w.heap.size + 1) #[.int .i64 b'.x, .int .i64 b'.y, .int .i64 b'.z] 55 := by first | exact bb.drew.below hb1 (by simp; omega) | exact (bb.alloc _).drew.below hb1 (by simp; omega)
            obtain ⟨k0, k1, k2⟩ := kA.three
            obtain ⟨l0, l1, l2⟩ := kB.three))
        all_goals (go_wp2_with fail)
        all_goals go_meet
        · have q1 : Below wr.heap.size wr w1 := ⟨hb1.os, hb1.tape, hb1.output, hb1.size, hb1.block⟩
          exact ⟨_, rfl, hz1, Blk.new w1 _ _ rfl, q1.alloc hz1 _⟩
        · have q1 := (Blk.new wr #[.int .i64 0, .int .i64 0, .int .i64 0] 55 rfl).drew.below hb1 (by simp)
          have q2 : Below wr.heap.size wr w1 := ((Below.refl wr.heap.size wr).alloc (Nat.le_refl _) _).drew.trans (hb1.mono (by simp))
          exact ⟨_, rfl, Nat.le_refl _, q1.set3 _ _ _, below_set3 q2 (Nat.le_refl _) _ _ _⟩
      case rest =>
        obtain ⟨p, rfl, hp, bp, hB2⟩ := hcut
        have ka := ba.below hB2 hlt
        have kb := bb.below hB2 hlt2
        have k6 := b6.below hB2 b6.lt
        have k7 := b7.below hB2 b7.lt
        clear hT ca0 ca1 ca2 cb0 cb1 cb2
        obtain ⟨ca0, ca1, ca2⟩ := ka.three
        obtain ⟨cb0, cb1, cb2⟩ := kb.three
        obtain ⟨cp0, cp1, cp2⟩ := bp.three
        have fa0 := ka.frozen 0; have fa1 := ka.frozen 1; have fa2 := ka.frozen 2
        have fb0 := kb.frozen 0; have fb1 := kb.frozen 1; have fb2 := kb.frozen 2
        have n1 : ¬ p = w.heap.size := by omega
        have n2 : ¬ w.heap.size = p := by omega
        have n3 : ¬ p = w.heap.size + 1 := by omega
        have n4 : ¬ w.heap.size + 1 = p := by omega
        go_wp2
        go_roundg (la.x.natAbs)
        case measure => rw [← HN.out]; exact HM.out
        case rel =>
          exact ⟨b', la, hst.out, rfl, (ka.set3 _ _ _).other3 (by omega) _ _ _, (kb.other3 (by omega) _ _ _).set3 _ _ _, (k6.other3 (by omega) _ _ _).other3 (by omega) _ _ _, (k7.other3 (by omega) _ _ _).other3 (by omega) _ _ _,
            below_set3 (below_set3 (hB.trans (hB2.mono hle)) (Nat.le_refl _) _ _ _) (by omega) _ _ _⟩


set_option maxHeartbeats 1000000 in
theorem sweep1 (a b : Lat.V) (w : World) (hr : Lat.Room 1 a b) :
    Calls Tryz.prog 90 #[.agg #[.int .i64 a.x, .int .i64 a.y, .int .i64 a.z], .agg #[.int .i64 b.x, .int .i64 b.y, .int .i64 b.z], .int .i64 1] w
      fun e w' => ∃ a' b', Lat.Swept 1 a b a' b' ∧ e = .returned (.tuple #[.agg #[.int .i64 a'.x, .int .i64 a'.y, .int .i64 a'.z], .agg #[.int .i64 b'.x, .int .i64 b'.y, .int .i64 b'.z]]) ∧ Below w.heap.size w w' := by
  go_enter Tryz.func90, Tryz.ntmps90
  go_wp2
  go_loopg [] (b.y.natAbs) (fun n wr => ∃ a' b' : Lat.V, Lat.Euc 1 a b a' b' ∧ b'.y.natAbs = n ∧
     Blk wr w.heap.size #[.int .i64 a'.x, .int .i64 a'.y, .int .i64 a'.z] 55 ∧ Blk wr (w.heap.size + 1) #[.int .i64 b'.x, .int .i64 b'.y, .int .i64 b'.z] 55 ∧
     Blk wr (w.heap.size + 1 + 1) #[.int .i64 0, .int .i64 0, .int .i64 0] 55 ∧ Blk wr (w.heap.size + 1 + 1 + 1) #[.int .i64 0, .int .i64 0, .int .i64 0] 55 ∧ Below w.heap.size w wr)
  case atStart =>
    refine ⟨a, b, Lat.Euc.start 1 a b, rfl, (((Blk.new w _ _ rfl).alloc _).alloc _).alloc _, ((Blk.new (w.alloc _) _ _ (by simp)).alloc _).alloc _, (Blk.new ((w.alloc _).alloc _) _ _ (by simp)).alloc _, Blk.new (((w.alloc _).alloc _).alloc _) _ _ (by simp), ?_⟩
    go_grown
  case round =>
    obtain ⟨a', b', hE, hn, ba, bb, b6, b7, hB⟩ := hrel
    obtain ⟨ca0, ca1, ca2⟩ := ba.three
    obtain ⟨cb0, cb1, cb2⟩ := bb.three
    by_cases hz : b'.y = 0
    · have hz' : (b'.y != 0) = false := by simpa using hz
      have HE : Hid (Lat.Euc 1 a b a' b') := hE
      have HZ : Hid (b'.y = 0) := hz
      clear hE hn hz
      obtain ⟨c60, c61, c62⟩ := b6.three
      obtain ⟨c70, c71, c72⟩ := b7.three
      have fa0 := ba.frozen 0; have fa1 := ba.frozen 1; have fa2 := ba.frozen 2
      have f60 := b6.frozen 0; have f61 := b6.frozen 1; have f62 := b6.frozen 2
      have f70 := b7.frozen 0; have f71 := b7.frozen 1; have f72 := b7.frozen 2
      by_cases hs : a'.y < 0
      · have hT : ∀ w0, Calls Tryz.prog 72 #[.agg #[.int .i64 0, .int .i64 0, .int .i64 0], .int .i64 1, .agg #[.int .i64 a'.x, .int .i64 a'.y, .int .i64 a'.z]] w0
          fun e w' => e = .returned (.agg #[.int .i64 (Lat.less ⟨0, 0, 0⟩ 1 a').x, .int .i64 (Lat.less ⟨0, 0, 0⟩ 1 a').y, .int .i64 (Lat.less ⟨0, 0, 0⟩ 1 a').z]) ∧ Below w0.heap.size w0 w' := fun w0 => by
            have e0 := (hr.euc HE.out 0 (by omega)).1; have e1 := (hr.euc HE.out 1 (by omega)).1; have e2 := (hr.euc HE.out 2 (by omega)).1
            simp only [Lat.V.at0, Lat.V.at1, Lat.V.at2, Lat.E] at e0 e1 e2
            exact takeAway_any ⟨0, 0, 0⟩ a' 1 w0 (by simp) (by omega) (by simp) (by omega) (by simp) (by omega)
        obtain ⟨la, hla⟩ : ∃ la, la = Lat.less ⟨0, 0, 0⟩ 1 a' := ⟨_, rfl⟩
        rw [← hla] at hT
        have HL : Hid (la = Lat.less ⟨0, 0, 0⟩ 1 a') := hla
        clear hla
        have hlt := b7.lt
        have hl0 : w.heap.size < wr.heap.size := by omega
        have hl1 : w.heap.size + 1 < wr.heap.size := by omega
        have hl2 : w.heap.size + 1 + 1 < wr.heap.size := by omega
        go_wp2_with fail
        refine (hT _).mono ?_
        rintro e w1 ⟨rfl, hb1⟩
        have ka := ba.below hb1 hl0
        have kb := bb.below hb1 hl1
        have k6 := b6.below hb1 hl2
        have k7 := b7.below hb1 hlt
        clear hT ca0 ca1 ca2 cb0 cb1 cb2 c60 c61 c62 c70 c71 c72 fa0 fa1 fa2 f60 f61 f62 f70 f71 f72
        obtain ⟨ca0, ca1, ca2⟩ := ka.three
        obtain ⟨cb0, cb1, cb2⟩ := kb.three
        obtain ⟨c60, c61, c62⟩ := k6.three
        obtain ⟨c70, c71, c72⟩ := k7.three
        have fa0 := ka.frozen 0; have fa1 := ka.frozen 1; have fa2 := ka.frozen 2
        have f60 := k6.frozen 0; have f61 := k6.frozen 1; have f62 := k6.frozen 2
        have f70 := k7.frozen 0; have f71 := k7.frozen 1; have f72 := k7.frozen 2
        go_wp2
        go_region
        go_wp2
        refine ret53 rfl rfl (((k6.other3 (by omega) _ _ _).set3 _ _ _).other3 (by omega) _ _ _).drew (((k7.other3 (by omega) _ _ _).other3 (by omega) _ _ _).set3 _ _ _).drew rfl ⟨la, b', ?_, rfl, ?_⟩
        · rw [HL.out]; exact Lat.Euc.turned HE.out HZ.out hs
        · exact (below_set3 (below_set3 (below_set3 (hB.trans (hb1.mono (by omega))) (by omega) _ _ _) (by omega) _ _ _) (by omega) _ _ _).drew
      · go_wp2
        go_region
        go_wp2
        refine ret53 rfl rfl ((b6.set3 _ _ _).other3 (by omega) _ _ _).drew ((b7.other3 (by omega) _ _ _).set3 _ _ _).drew rfl ⟨a', b', ?_, rfl, ?_⟩
        · exact Lat.Euc.done HE.out HZ.out hs
        · exact (below_set3 (below_set3 hB (by omega) _ _ _) (by omega) _ _ _).drew
    · have hz' : (b'.y != 0) = true := by simpa using hz
      have HE : Hid (Lat.Euc 1 a b a' b') := hE
      have HN : Hid (b'.y.natAbs = gk) := hn
      clear hE hn
      have hwq : IntKind.i64.wrap (a'.y.tdiv b'.y) = a'.y.tdiv b'.y := by
        rw [IntKind.wrap_i64]
        have e0 := (hr.euc HE.out 1 (by omega)).1
        have e1 : (a'.y.tdiv b'.y).natAbs ≤ a'.y.natAbs := by rw [Int.natAbs_tdiv]; exact Nat.div_le_self _ _
        simp only [Lat.V.at1, Lat.E] at e0
        omega
      have hT : ∀ w0, Calls Tryz.prog 72 #[.agg #[.int .i64 a'.x, .int .i64 a'.y, .int .i64 a'.z], .int .i64 (a'.y.tdiv b'.y), .agg #[.int .i64 b'.x, .int .i64 b'.y, .int .i64 b'.z]] w0
          fun e w' => e = .returned (.agg #[.int .i64 (Lat.less a' (a'.y.tdiv b'.y) b').x, .int .i64 (Lat.less a' (a'.y.tdiv b'.y) b').y, .int .i64 (Lat.less a' (a'.y.tdiv b'.y) b').z]) ∧ Below w0.heap.size w0 w' := fun w0 => by
        have e0 := (hr.euc HE.out 0 (by omega)).1; have e1 := (hr.euc HE.out 1 (by omega)).1; have e2 := (hr.euc HE.out 2 (by omega)).1
        have t0 := hr.times HE.out hz 0 (by omega); have t1 := hr.times HE.out hz 1 (by omega); have t2 := hr.times HE.out hz 2 (by omega)
        simp only [Lat.V.at0, Lat.V.at1, Lat.V.at2, Lat.E] at e0 e1 e2 t0 t1 t2
        exact takeAway_any a' b' _ w0 (by omega) (by omega) (by omega) (by omega) (by omega) (by omega)
      have hst : Hid (Lat.Euc 1 a b b' (Lat.less a' (a'.y.tdiv b'.y) b')) := HE.out.step hz
      have hms : (Lat.less a' (a'.y.tdiv b'.y) b').y.natAbs < b'.y.natAbs := by
        have : (Lat.less a' (a'.y.tdiv b'.y) b').y = a'.y.tmod b'.y := by
          show a'.y - a'.y.tdiv b'.y * b'.y = _
          rw [Int.tmod_def, Int.mul_comm]
        rw [this, Int.natAbs_tmod]; exact Nat.mod_lt _ (Int.natAbs_pos.2 hz)
      have HM : Hid ((Lat.less a' (a'.y.tdiv b'.y) b').y.natAbs < b'.y.natAbs) := hms
      clear hms
      go_wp2
      have hlt := ba.lt
      have hlt2 := bb.lt
      have hle : w.heap.size ≤ wr.heap.size := by omega
      have hn1 : ¬ w.heap.size = wr.heap.size := by omega
      have hn2 : ¬ wr.heap.size = w.heap.size := by omega
      have hn3 : ¬ w.heap.size + 1 = wr.heap.size := by omega
      have hn4 : ¬ wr.heap.size = w.heap.size + 1 := by omega
      have hle2 : w.heap.size + 1 ≤ wr.heap.size := by omega
      generalize Lat.less a' (a'.y.tdiv b'.y) b' = la at *
      go_cut [8] (fun u8 wc => ∃ p, u8 = .pointer (some ⟨p, 0, none⟩) ∧ wr.heap.size ≤ p ∧ Blk wc p #[.int .i64 la.x, .int .i64 la.y, .int .i64 la.z] 55 ∧ Below wr.heap.size wr wc)
      case first =>
        clear b6 b7
        go_region_held3 (fun w' => w'.cell? ⟨w.heap.size, 0, none⟩ = some (.int .i64 a'.x) ∧ w'.cell? ⟨w.heap.size, 1, none⟩ = some (.int .i64 a'.y) ∧ w'.cell? ⟨w.heap.size, 2, none⟩ = some (.int .i64 a'.z) ∧ w'.cell? ⟨w.heap.size + 1, 0, none⟩ = some (.int .i64 b'.x) ∧ w'.cell? ⟨w.heap.size + 1, 1, none⟩ = some (.int .i64 b'.y) ∧ w'.cell? ⟨w.heap.size + 1, 2, none⟩ = some (.int .i64 b'.z))
          (go_keep)
          ((go_at_call 72; refine (hT _).mono ?_; rintro e w1 ⟨rfl, hb1⟩; obtain ⟨hc1, hf1⟩ := bcell hb1; have hz1 := hb1.size; simp at hz1 hc1 hf1
            have m1 : ¬ w.heap.size = w1.heap.size := by omega
            have m2 : ¬ w1.heap.size = w.heap.size := by omega
            have m3 : ¬ w.heap.size + 1 = w1.heap.size := by omega
            have m4 : ¬ w1.heap.size = w.heap.size + 1 := by omega
            have kA : Blk w1 w.heap.size #[.int .i64 a'.x, .int .i64 a'.y, .int .i64 a'.z] 55 := by first | exact ba.drew.below hb1 (by simp; omega) | exact (ba.alloc _).drew.below hb1 (by simp; omega)
            have kB : Blk w1 (w.heap.size + 1) #[.int .i64 b'.x, .int .i64 b'.y, .int .i64 b'.z] 55 := by first | exact bb.drew.below hb1 (by simp; omega) | exact (bb.alloc _).drew.below hb1 (by simp; omega)
            obtain ⟨k0, k1, k2⟩ := kA.three
            obtain ⟨l0, l1, l2⟩ := kB.three))
        all_goals (go_wp2_with fail)
        all_goals go_meet
        · have q1 : Below wr.heap.size wr w1 := ⟨hb1.os, hb1.tape, hb1.output, hb1.size, hb1.block⟩
          exact ⟨_, rfl, hz1, Blk.new w1 _ _ rfl, q1.alloc hz1 _⟩
        · have q1 := (Blk.new wr #[.int .i64 0, .int .i64 0, .int .i64 0] 55 rfl).drew.below hb1 (by simp)
          have q2 : Below wr.heap.size wr w1 := ((Below.refl wr.heap.size wr).alloc (Nat.le_refl _) _).drew.trans (hb1.mono (by simp))
          exact ⟨_, rfl, Nat.le_refl _, q1.set3 _ _ _, below_set3 q2 (Nat.le_refl _) _ _ _⟩
      case rest =>
        obtain ⟨p, rfl, hp, bp, hB2⟩ := hcut
        have ka := ba.below hB2 hlt
        have kb := bb.below hB2 hlt2
        have k6 := b6.below hB2 b6.lt
        have k7 := b7.below hB2 b7.lt
        clear hT ca0 ca1 ca2 cb0 cb1 cb2
        obtain ⟨ca0, ca1, ca2⟩ := ka.three
        obtain ⟨cb0, cb1, cb2⟩ := kb.three
        obtain ⟨cp0, cp1, cp2⟩ := bp.three
        have fa0 := ka.frozen 0; have fa1 := ka.frozen 1; have fa2 := ka.frozen 2
        have fb0 := kb.frozen 0; have fb1 := kb.frozen 1; have fb2 := kb.frozen 2
        have n1 : ¬ p = w.heap.size := by omega
        have n2 : ¬ w.heap.size = p := by omega
        have n3 : ¬ p = w.heap.size + 1 := by omega
        have n4 : ¬ w.heap.size + 1 = p := by omega
        go_wp2
        go_roundg (la.y.natAbs)
        case measure => rw [← HN.out]; exact HM.out
        case rel =>
          exact ⟨b', la, hst.out, rfl, (ka.set3 _ _ _).other3 (by omega) _ _ _, (kb.other3 (by omega) _ _ _).set3 _ _ _, (k6.other3 (by omega) _ _ _).other3 (by omega) _ _ _, (k7.other3 (by omega) _ _ _).other3 (by omega) _ _ _,
            below_set3 (below_set3 (hB.trans (hB2.mono hle)) (Nat.le_refl _) _ _ _) (by omega) _ _ _⟩


set_option maxHeartbeats 1000000 in
theorem sweep2 (a b : Lat.V) (w : World) (hr : Lat.Room 2 a b) :
    Calls Tryz.prog 90 #[.agg #[.int .i64 a.x, .int .i64 a.y, .int .i64 a.z], .agg #[.int .i64 b.x, .int .i64 b.y, .int .i64 b.z], .int .i64 2] w
      fun e w' => ∃ a' b', Lat.Swept 2 a b a' b' ∧ e = .returned (.tuple #[.agg #[.int .i64 a'.x, .int .i64 a'.y, .int .i64 a'.z], .agg #[.int .i64 b'.x, .int .i64 b'.y, .int .i64 b'.z]]) ∧ Below w.heap.size w w' := by
  go_enter Tryz.func90, Tryz.ntmps90
  go_wp2
  go_loopg [] (b.z.natAbs) (fun n wr => ∃ a' b' : Lat.V, Lat.Euc 2 a b a' b' ∧ b'.z.natAbs = n ∧
     Blk wr w.heap.size #[.int .i64 a'.x, .int .i64 a'.y, .int .i64 a'.z] 55 ∧ Blk wr (w.heap.size + 1) #[.int .i64 b'.x, .int .i64 b'.y, .int .i64 b'.z] 55 ∧
     Blk wr (w.heap.size + 1 + 1) #[.int .i64 0, .int .i64 0, .int .i64 0] 55 ∧ Blk wr (w.heap.size + 1 + 1 + 1) #[.int .i64 0, .int .i64 0, .int .i64 0] 55 ∧ Below w.heap.size w wr)
  case atStart =>
    refine ⟨a, b, Lat.Euc.start 2 a b, rfl, (((Blk.new w _ _ rfl).alloc _).alloc _).alloc _, ((Blk.new (w.alloc _) _ _ (by simp)).alloc _).alloc _, (Blk.new ((w.alloc _).alloc _) _ _ (by simp)).alloc _, Blk.new (((w.alloc _).alloc _).alloc _) _ _ (by simp), ?_⟩
    go_grown
  case round =>
    obtain ⟨a', b', hE, hn, ba, bb, b6, b7, hB⟩ := hrel
    obtain ⟨ca0, ca1, ca2⟩ := ba.three
    obtain ⟨cb0, cb1, cb2⟩ := bb.three
    by_cases hz : b'.z = 0
    · have hz' : (b'.z != 0) = false := by simpa using hz
      have HE : Hid (Lat.Euc 2 a b a' b') := hE
      have HZ : Hid (b'.z = 0) := hz
      clear hE hn hz
      obtain ⟨c60, c61, c62⟩ := b6.three
      obtain ⟨c70, c71, c72⟩ := b7.three
      have fa0 := ba.frozen 0; have fa1 := ba.frozen 1; have fa2 := ba.frozen 2
      have f60 := b6.frozen 0; have f61 := b6.frozen 1; have f62 := b6.frozen 2
      have f70 := b7.frozen 0; have f71 := b7.frozen 1; have f72 := b7.frozen 2
      by_cases hs : a'.z < 0
      · have hT : ∀ w0, Calls Tryz.prog 72 #[.agg #[.int .i64 0, .int .i64 0, .int .i64 0], .int .i64 1, .agg #[.int .i64 a'.x, .int .i64 a'.y, .int .i64 a'.z]] w0
          fun e w' => e = .returned (.agg #[.int .i64 (Lat.less ⟨0, 0, 0⟩ 1 a').x, .int .i64 (Lat.less ⟨0, 0, 0⟩ 1 a').y, .int .i64 (Lat.less ⟨0, 0, 0⟩ 1 a').z]) ∧ Below w0.heap.size w0 w' := fun w0 => by
            have e0 := (hr.euc HE.out 0 (by omega)).1; have e1 := (hr.euc HE.out 1 (by omega)).1; have e2 := (hr.euc HE.out 2 (by omega)).1
            simp only [Lat.V.at0, Lat.V.at1, Lat.V.at2, Lat.E] at e0 e1 e2
            exact takeAway_any ⟨0, 0, 0⟩ a' 1 w0 (by simp) (by omega) (by simp) (by omega) (by simp) (by omega)
        obtain ⟨la, hla⟩ : ∃ la, la = Lat.less ⟨0, 0, 0⟩ 1 a' := ⟨_, rfl⟩
        rw [← hla] at hT
        have HL : Hid (la = Lat.less ⟨0, 0, 0⟩ 1 a') := hla
        clear hla
        have hlt := b7.lt
        have hl0 : w.heap.size < wr.heap.size := by omega
        have hl1 : w.heap.size + 1 < wr.heap.size := by omega
        have hl2 : w.heap.size + 1 + 1 < wr.heap.size := by omega
        go_wp2_with fail
        refine (hT _).mono ?_
        rintro e w1 ⟨rfl, hb1⟩
        have ka := ba.below hb1 hl0
        have kb := bb.below hb1 hl1
        have k6 := b6.below hb1 hl2
        have k7 := b7.below hb1 hlt
        clear hT ca0 ca1 ca2 cb0 cb1 cb2 c60 c61 c62 c70 c71 c72 fa0 fa1 fa2 f60 f61 f62 f70 f71 f72
        obtain ⟨ca0, ca1, ca2⟩ := ka.three
        obtain ⟨cb0, cb1, cb2⟩ := kb.three
        obtain ⟨c60, c61, c62⟩ := k6.three
        obtain ⟨c70, c71, c72⟩ := k7.three
        have fa0 := ka.frozen 0; have fa1 := ka.frozen 1; have fa2 := ka.frozen 2
        have f60 := k6.frozen 0; have f61 := k6.frozen 1; have f62 := k6.frozen 2
        have f70 := k7.frozen 0; have f71 := k7.frozen 1; have f72 := k7.frozen 2
        go_wp2
        go_region
        go_wp2
        refine ret53 rfl rfl (((k6.other3 (by omega) _ _ _).set3 _ _ _).other3 (by omega) _ _ _).drew (((k7.other3 (by omega) _ _ _).other3 (by omega) _ _ _).set3 _ _ _).drew rfl ⟨la, b', ?_, rfl, ?_⟩
        · rw [HL.out]; exact Lat.Euc.turned HE.out HZ.out hs
        · exact (below_set3 (below_set3 (below_set3 (hB.trans (hb1.mono (by omega))) (by omega) _ _ _) (by omega) _ _ _) (by omega) _ _ _).drew
      · go_wp2
        go_region
        go_wp2
        refine ret53 rfl rfl ((b6.set3 _ _ _).other3 (by omega) _ _ _).drew ((b7.other3 (by omega) _ _ _).set3 _ _ _).drew rfl ⟨a', b', ?_, rfl, ?_⟩
        · exact Lat.Euc.done HE.out HZ.out hs
        · exact (below_set3 (below_set3 hB (by omega) _ _ _) (by omega) _ _ _).drew
    · have hz' : (b'.z != 0) = true := by simpa using hz
      have HE : Hid (Lat.Euc 2 a b a' b') := hE
      have HN : Hid (b'.z.natAbs = gk) := hn
      clear hE hn
      have hwq : IntKind.i64.wrap (a'.z.tdiv b'.z) = a'.z.tdiv b'.z := by
        rw [IntKind.wrap_i64]
        have e0 := (hr.euc HE.out 2 (by omega)).1
        have e1 : (a'.z.tdiv b'.z).natAbs ≤ a'.z.natAbs := by rw [Int.natAbs_tdiv]; exact Nat.div_le_self _ _
        simp only [Lat.V.at2, Lat.E] at e0
        omega
      have hT : ∀ w0, Calls Tryz.prog 72 #[.agg #[.int .i64 a'.x, .int .i64 a'.y, .int .i64 a'.z], .int .i64 (a'.z.tdiv b'.z), .agg #[.int .i64 b'.x, .int .i64 b'.y, .int .i64 b'.z]] w0
          fun e w' => e = .returned (.agg #[.int .i64 (Lat.less a' (a'.z.tdiv b'.z) b').x, .int .i64 (Lat.less a' (a'.z.tdiv b'.z) b').y, .int .i64 (Lat.less a' (a'.z.tdiv b'.z) b').z]) ∧ Below w0.heap.size w0 w' := fun w0 => by
        have e0 := (hr.euc HE.out 0 (by omega)).1; have e1 := (hr.euc HE.out 1 (by omega)).1; have e2 := (hr.euc HE.out 2 (by omega)).1
        have t0 := hr.times HE.out hz 0 (by omega); have t1 := hr.times HE.out hz 1 (by omega); have t2 := hr.times HE.out hz 2 (by omega)
        simp only [Lat.V.at0, Lat.V.at1, Lat.V.at2, Lat.E] at e0 e1 e2 t0 t1 t2
        exact takeAway_any a' b' _ w0 (by omega) (by omega) (by omega) (by omega) (by omega) (by omega)
      have hst : Hid (Lat.Euc 2 a b b' (Lat.less a' (a'.z.tdiv b'.z) b')) := HE.out.step hz
      have hms : (Lat.less a' (a'.z.tdiv b'.z) b').z.natAbs < b'.z.natAbs := by
        have : (Lat.less a' (a'.z.tdiv b'.z) b').z = a'.z.tmod b'.z := by
          show a'.z - a'.z.tdiv b'.z * b'.z = _
          rw [Int.tmod_def, Int.mul_comm]
        rw [this, Int.natAbs_tmod]; exact Nat.mod_lt _ (Int.natAbs_pos.2 hz)
      have HM : Hid ((Lat.less a' (a'.z.tdiv b'.z) b').z.natAbs < b'.z.natAbs) := hms
      clear hms
      go_wp2
      have hlt := ba.lt
      have hlt2 := bb.lt
      have hle : w.heap.size ≤ wr.heap.size := by omega
      have hn1 : ¬ w.heap.size = wr.heap.size := by omega
      have hn2 : ¬ wr.heap.size = w.heap.size := by omega
      have hn3 : ¬ w.heap.size + 1 = wr.heap.size := by omega
      have hn4 : ¬ wr.heap.size = w.heap.size + 1 := by omega
      have hle2 : w.heap.size + 1 ≤ wr.heap.size := by omega
      generalize Lat.less a' (a'.z.tdiv b'.z) b' = la at *
      go_cut [8] (fun u8 wc => ∃ p, u8 = .pointer (some ⟨p, 0, none⟩) ∧ wr.heap.size ≤ p ∧ Blk wc p #[.int .i64 la.x, .int .i64 la.y, .int .i64 la.z] 55 ∧ Below wr.heap.size wr wc)
      case first =>
        clear b6 b7
        go_region_held3 (fun w' => w'.cell? ⟨w.heap.size, 0, none⟩ = some (.int .i64 a'.x) ∧ w'.cell? ⟨w.heap.size, 1, none⟩ = some (.int .i64 a'.y) ∧ w'.cell? ⟨w.heap.size, 2, none⟩ = some (.int .i64 a'.z) ∧ w'.cell? ⟨w.heap.size + 1, 0, none⟩ = some (.int .i64 b'.x) ∧ w'.cell? ⟨w.heap.size + 1, 1, none⟩ = some (.int .i64 b'.y) ∧ w'.cell? ⟨w.heap.size + 1, 2, none⟩ = some (.int .i64 b'.z))
          (go_keep)
          ((go_at_call 72; refine (hT _).mono ?_; rintro e w1 ⟨rfl, hb1⟩; obtain ⟨hc1, hf1⟩ := bcell hb1; have hz1 := hb1.size; simp at hz1 hc1 hf1
            have m1 : ¬ w.heap.size = w1.heap.size := by omega
            have m2 : ¬ w1.heap.size = w.heap.size := by omega
            have m3 : ¬ w.heap.size + 1 = w1.heap.size := by omega
            have m4 : ¬ w1.heap.size = w.heap.size + 1 := by omega
            have kA : Blk w1 w.heap.size #[.int .i64 a'.x, .int .i64 a'.y, .int .i64 a'.z] 55 := by first | exact ba.drew.below hb1 (by simp; omega) | exact (ba.alloc _).drew.below hb1 (by simp; omega)
            have kB : Blk w1 (w.heap.size + 1) #[.int .i64 b'.x, .int .i64 b'.y, .int .i64 b'.z] 55 := by first | exact bb.drew.below hb1 (by simp; omega) | exact (bb.alloc _).drew.below hb1 (by simp; omega)
            obtain ⟨k0, k1, k2⟩ := kA.three
            obtain ⟨l0, l1, l2⟩ := kB.three))
        all_goals (go_wp2_with fail)
        all_goals go_meet
        · have q1 : Below wr.heap.size wr w1 := ⟨hb1.os, hb1.tape, hb1.output, hb1.size, hb1.block⟩
          exact ⟨_, rfl, hz1, Blk.new w1 _ _ rfl, q1.alloc hz1 _⟩
        · have q1 := (Blk.new wr #[.int .i64 0, .int .i64 0, .int .i64 0] 55 rfl).drew.below hb1 (by simp)
          have q2 : Below wr.heap.size wr w1 := ((Below.refl wr.heap.size wr).alloc (Nat.le_refl _) _).drew.trans (hb1.mono (by simp))
          exact ⟨_, rfl, Nat.le_refl _, q1.set3 _ _ _, below_set3 q2 (Nat.le_refl _) _ _ _⟩
      case rest =>
        obtain ⟨p, rfl, hp, bp, hB2⟩ := hcut
        have ka := ba.below hB2 hlt
        have kb := bb.below hB2 hlt2
        have k6 := b6.below hB2 b6.lt
        have k7 := b7.below hB2 b7.lt
        clear hT ca0 ca1 ca2 cb0 cb1 cb2
        obtain ⟨ca0, ca1, ca2⟩ := ka.three
        obtain ⟨cb0, cb1, cb2⟩ := kb.three
        obtain ⟨cp0, cp1, cp2⟩ := bp.three
        have fa0 := ka.frozen 0; have fa1 := ka.frozen 1; have fa2 := ka.frozen 2
        have fb0 := kb.frozen 0; have fb1 := kb.frozen 1; have fb2 := kb.frozen 2
        have n1 : ¬ p = w.heap.size := by omega
        have n2 : ¬ w.heap.size = p := by omega
        have n3 : ¬ p = w.heap.size + 1 := by omega
        have n4 : ¬ w.heap.size + 1 = p := by omega
        go_wp2
        go_roundg (la.z.natAbs)
        case measure => rw [← HN.out]; exact HM.out
        case rel =>
          exact ⟨b', la, hst.out, rfl, (ka.set3 _ _ _).other3 (by omega) _ _ _, (kb.other3 (by omega) _ _ _).set3 _ _ _, (k6.other3 (by omega) _ _ _).other3 (by omega) _ _ _, (k7.other3 (by omega) _ _ _).other3 (by omega) _ _ _,
            below_set3 (below_set3 (hB.trans (hB2.mono hle)) (Nat.le_refl _) _ _ _) (by omega) _ _ _⟩


end Go.Proofs.YtmlcblnndihjoaaGreat

namespace Go.Proofs.YtmlcblnndihjoaaGreat
open Go.RowKit


theorem Blk.nine {w : World} {b : Nat} {x0 x1 x2 x3 x4 x5 x6 x7 x8 : Value} {T : TypeId} (h : Blk w b #[x0, x1, x2, x3, x4, x5, x6, x7, x8] T) :
    w.cell? ⟨b, 0, none⟩ = some x0 ∧ w.cell? ⟨b, 1, none⟩ = some x1 ∧ w.cell? ⟨b, 2, none⟩ = some x2 ∧ w.cell? ⟨b, 3, none⟩ = some x3 ∧ w.cell? ⟨b, 4, none⟩ = some x4 ∧ w.cell? ⟨b, 5, none⟩ = some x5 ∧ w.cell? ⟨b, 6, none⟩ = some x6 ∧ w.cell? ⟨b, 7, none⟩ = some x7 ∧ w.cell? ⟨b, 8, none⟩ = some x8 :=
  ⟨h.cell 0, h.cell 1, h.cell 2, h.cell 3, h.cell 4, h.cell 5, h.cell 6, h.cell 7, h.cell 8⟩

theorem Blk.frozen9 {w : World} {b : Nat} {cs : Array Value} {T : TypeId} (h : Blk w b cs T) : 
    w.frozen? ⟨b, 0, none⟩ = false ∧ w.frozen? ⟨b, 1, none⟩ = false ∧ w.frozen? ⟨b, 2, none⟩ = false ∧ w.frozen? ⟨b, 3, none⟩ = false ∧ w.frozen? ⟨b, 4, none⟩ = false ∧ w.frozen? ⟨b, 5, none⟩ = false ∧ w.frozen? ⟨b, 6, none⟩ = false ∧ w.frozen? ⟨b, 7, none⟩ = false ∧ w.frozen? ⟨b, 8, none⟩ = false :=
  ⟨h.frozen 0, h.frozen 1, h.frozen 2, h.frozen 3, h.frozen 4, h.frozen 5, h.frozen 6, h.frozen 7, h.frozen 8⟩



theorem Blk.drewN {w : World} {b : Nat} {cs : Array Value} {T : TypeId} (h : Blk w b cs T) {n : Nat} : Blk (w.drewN n) b cs T := h
theorem below_drewN {B : Nat} {a w : World} {n : Nat} (h : Below B a w) : Below B a (w.drewN n) := ⟨h.os, h.tape, h.output, h.size, h.block⟩

theorem Blk.set9 {w : World} {b : Nat} {x0 x1 x2 x3 x4 x5 x6 x7 x8 : Value} {T : TypeId} (h : Blk w b #[x0, x1, x2, x3, x4, x5, x6, x7, x8] T) (y0 y1 y2 y3 y4 y5 y6 y7 y8 : Value) : Blk (((((((((w.setCell ⟨b, 0, none⟩ y0).setCell ⟨b, 1, none⟩ y1).setCell ⟨b, 2, none⟩ y2).setCell ⟨b, 3, none⟩ y3).setCell ⟨b, 4, none⟩ y4).setCell ⟨b, 5, none⟩ y5).setCell ⟨b, 6, none⟩ y6).setCell ⟨b, 7, none⟩ y7).setCell ⟨b, 8, none⟩ y8) b #[y0, y1, y2, y3, y4, y5, y6, y7, y8] T := by
  have := (((((((((h.set 0 y0).set 1 y1).set 2 y2).set 3 y3).set 4 y4).set 5 y5).set 6 y6).set 7 y7).set 8 y8); simpa using this
theorem below_set9 {B b : Nat} {a w : World} (h : Below B a w) (hb : B ≤ b) (y0 y1 y2 y3 y4 y5 y6 y7 y8 : Value) : Below B a (((((((((w.setCell ⟨b, 0, none⟩ y0).setCell ⟨b, 1, none⟩ y1).setCell ⟨b, 2, none⟩ y2).setCell ⟨b, 3, none⟩ y3).setCell ⟨b, 4, none⟩ y4).setCell ⟨b, 5, none⟩ y5).setCell ⟨b, 6, none⟩ y6).setCell ⟨b, 7, none⟩ y7).setCell ⟨b, 8, none⟩ y8) :=
  (((((((((h.setCell (p := ⟨b, 0, none⟩) hb y0).setCell (p := ⟨b, 1, none⟩) hb y1).setCell (p := ⟨b, 2, none⟩) hb y2).setCell (p := ⟨b, 3, none⟩) hb y3).setCell (p := ⟨b, 4, none⟩) hb y4).setCell (p := ⟨b, 5, none⟩) hb y5).setCell (p := ⟨b, 6, none⟩) hb y6).setCell (p := ⟨b, 7, none⟩) hb y7).setCell (p := ⟨b, 8, none⟩) hb y8)

theorem ret54 {R : Ending → World → Prop} {a : Act} {W : World} {p : Nat} {x0 x1 x2 x3 x4 x5 x6 x7 x8 : Value}
    (h : a.tmps[2]?.getD undef = .pointer (some ⟨p, 0, none⟩)) (k : Blk W p #[x0, x1, x2, x3, x4, x5, x6, x7, x8] 58) (hd : a.defers = [])
    (hR : R (.returned (.agg #[x0, x1, x2, x3, x4, x5, x6, x7, x8])) W) : bodyPost Tryz.prog Tryz.f91 R .ret a W := by
  obtain ⟨c0, c1, c2, c3, c4, c5, c6, c7, c8⟩ := k.nine
  refine bodyPost_ret (v := .agg #[x0, x1, x2, x3, x4, x5, x6, x7, x8]) ?_ hd hR
  simp [results, Tryz.results91, go_sem, h, c0, c1, c2, c3, c4, c5, c6, c7, c8]

set_option maxHeartbeats 2000000 in
theorem reduced_any (a b c : Lat.V) (w : World) (cx : c.x = 0) (cy : c.y = 0) (cz : 0 ≤ c.z) (cE : c.z.natAbs ≤ Lat.E) (bx : b.x = 0) (hby : 0 ≤ b.y) (bE : b.y.natAbs ≤ Lat.E) (bzE : b.z.natAbs ≤ Lat.E)
    (aE : a.x.natAbs ≤ Lat.E) (ayE : a.y.natAbs ≤ Lat.E) (azE : a.z.natAbs ≤ Lat.E) (hm : a.y.natAbs * (Lat.redB b c).z.natAbs ≤ Lat.E) :
    Calls Tryz.prog 91 #[.agg #[.int .i64 a.x, .int .i64 a.y, .int .i64 a.z, .int .i64 b.x, .int .i64 b.y, .int .i64 b.z, .int .i64 c.x, .int .i64 c.y, .int .i64 c.z]] w
      fun e w' => e = .returned (.agg #[.int .i64 (Lat.red a b c).a.x, .int .i64 (Lat.red a b c).a.y, .int .i64 (Lat.red a b c).a.z, .int .i64 (Lat.red a b c).b.x, .int .i64 (Lat.red a b c).b.y, .int .i64 (Lat.red a b c).b.z, .int .i64 (Lat.red a b c).c.x, .int .i64 (Lat.red a b c).c.y, .int .i64 (Lat.red a b c).c.z]) ∧ Below w.heap.size w w' := by
  have q1 : ∀ w0, Calls Tryz.prog 71 #[.int .i64 b.z, .int .i64 c.z] w0 fun e w' => e = .returned (.int .i64 (b.z / c.z)) ∧ w' = w0 := fun w0 => by
    unfold Lat.E at *; exact quotient_any _ _ _ (by omega) (by omega) cz (by omega)
  have t1 : ∀ w0, Calls Tryz.prog 72 #[.agg #[.int .i64 b.x, .int .i64 b.y, .int .i64 b.z], .int .i64 (b.z / c.z), .agg #[.int .i64 c.x, .int .i64 c.y, .int .i64 c.z]] w0 fun e w' => e = .returned (.agg #[.int .i64 (Lat.redB b c).x, .int .i64 (Lat.redB b c).y, .int .i64 (Lat.redB b c).z]) ∧ Below w0.heap.size w0 w' := fun w0 => by
    have d1 := Lat.div_mul_le b.z c.z cz
    unfold Lat.E at *
    exact takeAway_any b c _ w0 (by omega) (by rw [cx]; simp) (by omega) (by rw [cy]; simp) (by omega) (by omega)
  have b2x : (Lat.redB b c).x = 0 := by simp only [Lat.redB, Lat.less]; rw [bx, cx]; simp
  have b2y : (Lat.redB b c).y = b.y := by simp only [Lat.redB, Lat.less]; rw [cy]; simp
  have HB : Hid ((Lat.red a b c).b = Lat.redB b c) := rfl
  have HA : Hid ((Lat.red a b c).a = Lat.redA2 (Lat.redA1 a (Lat.redB b c)) c) := rfl
  generalize Lat.redB b c = b2 at *
  have q2 : ∀ w0, Calls Tryz.prog 71 #[.int .i64 a.y, .int .i64 b2.y] w0 fun e w' => e = .returned (.int .i64 (a.y / b2.y)) ∧ w' = w0 := fun w0 => by
    unfold Lat.E at *; exact quotient_any _ _ _ (by omega) (by omega) (by omega) (by omega)
  have d2 : (a.y / b2.y * b2.z).natAbs ≤ Lat.E := by
    rw [Int.natAbs_mul]
    exact Nat.le_trans (Nat.mul_le_mul (Lat.div_le a.y b2.y (by omega)) (Nat.le_refl _)) hm
  have t2 : ∀ w0, Calls Tryz.prog 72 #[.agg #[.int .i64 a.x, .int .i64 a.y, .int .i64 a.z], .int .i64 (a.y / b2.y), .agg #[.int .i64 b2.x, .int .i64 b2.y, .int .i64 b2.z]] w0 fun e w' => e = .returned (.agg #[.int .i64 (Lat.redA1 a b2).x, .int .i64 (Lat.redA1 a b2).y, .int .i64 (Lat.redA1 a b2).z]) ∧ Below w0.heap.size w0 w' := fun w0 => by
    have d1 := Lat.div_mul_le a.y b2.y (by omega)
    unfold Lat.E at *
    exact takeAway_any a b2 _ w0 (by omega) (by rw [b2x]; simp) (by omega) (by omega) (by omega) (by omega)
  have a1x : (Lat.redA1 a b2).x = a.x := by simp only [Lat.redA1, Lat.less]; rw [b2x]; simp
  have a1y : (Lat.redA1 a b2).y.natAbs ≤ Lat.E := by
    simp only [Lat.redA1, Lat.less]
    by_cases h0 : b2.y = 0
    · rw [h0]; simp; exact ayE
    · have := Lat.div_rest a.y b2.y (by omega)
      unfold Lat.E at *; omega
  have a1z : (Lat.redA1 a b2).z.natAbs ≤ 2 * Lat.E := by
    simp only [Lat.redA1, Lat.less]; generalize a.y / b2.y * b2.z = t at *; omega
  generalize Lat.redA1 a b2 = a1 at *
  have q3 : ∀ w0, Calls Tryz.prog 71 #[.int .i64 a1.z, .int .i64 c.z] w0 fun e w' => e = .returned (.int .i64 (a1.z / c.z)) ∧ w' = w0 := fun w0 => by
    unfold Lat.E at *; exact quotient_any _ _ _ (by omega) (by omega) cz (by omega)
  have t3 : ∀ w0, Calls Tryz.prog 72 #[.agg #[.int .i64 a1.x, .int .i64 a1.y, .int .i64 a1.z], .int .i64 (a1.z / c.z), .agg #[.int .i64 c.x, .int .i64 c.y, .int .i64 c.z]] w0 fun e w' => e = .returned (.agg #[.int .i64 (Lat.redA2 a1 c).x, .int .i64 (Lat.redA2 a1 c).y, .int .i64 (Lat.redA2 a1 c).z]) ∧ Below w0.heap.size w0 w' := fun w0 => by
    have d1 := Lat.div_mul_le a1.z c.z cz
    unfold Lat.E at *
    exact takeAway_any a1 c _ w0 (by omega) (by rw [cx]; simp) (by omega) (by rw [cy]; simp) (by omega) (by omega)
  generalize Lat.redA2 a1 c = a2 at *
  have HC : Hid ((Lat.red a b c).c = c) := rfl
  clear cx cy cz cE bx hby bE bzE aE ayE azE hm b2x b2y d2 a1x a1y a1z
  go_enter Tryz.func91, Tryz.ntmps91
  go_wp2
  refine wp_loop_rounds 4 ?_
  rw [rounds_succ]; go_wp2
  refine wp_loop_rounds 2 ?_
  rw [rounds_succ]; go_wp2
  rw [rounds_succ]; go_wp2
  refine wp_loop_rounds 3 ?_
  rw [rounds_succ]
  go_upto_block 3 with fail
  go_cut [] (fun wx => Blk wx w.heap.size #[.int .i64 a.x, .int .i64 a.y, .int .i64 a.z, .int .i64 b.x, .int .i64 b.y, .int .i64 b.z, .int .i64 c.x, .int .i64 c.y, .int .i64 c.z] 58 ∧ Blk wx (w.heap.size + 1) #[.int .i64 0, .int .i64 0, .int .i64 0, .int .i64 0, .int .i64 0, .int .i64 0, .int .i64 0, .int .i64 0, .int .i64 0] 58 ∧ Blk wx (w.heap.size + 1 + 1 + 1) #[.int .i64 b2.x, .int .i64 b2.y, .int .i64 b2.z] 55 ∧ Below w.heap.size w wx)
  case first =>
    go_wp2
    go_quiet ((go_at_call 71; exact Calls.quiet_of_same (q1 _)))
    go_wp2
    go_region_with
      ((go_at_call 72; refine (t1 _).mono ?_; rintro e w1 ⟨rfl, hb1⟩

        have kS : Blk w1 w.heap.size #[.int .i64 a.x, .int .i64 a.y, .int .i64 a.z, .int .i64 b.x, .int .i64 b.y, .int .i64 b.z, .int .i64 c.x, .int .i64 c.y, .int .i64 c.z] 58 := Blk.below (by (repeat (first | (with_reducible assumption) | (with_reducible exact Blk.new _ _ _ (by simp)) | (with_reducible refine Blk.drewN ?_) | (with_reducible refine Blk.drew ?_) | (with_reducible refine Blk.alloc ?_ _)))) hb1 (by go_size)
        have kR : Blk w1 (w.heap.size + 1) #[.int .i64 0, .int .i64 0, .int .i64 0, .int .i64 0, .int .i64 0, .int .i64 0, .int .i64 0, .int .i64 0, .int .i64 0] 58 := Blk.below (by (repeat (first | (with_reducible assumption) | (with_reducible exact Blk.new _ _ _ (by simp)) | (with_reducible refine Blk.drewN ?_) | (with_reducible refine Blk.drew ?_) | (with_reducible refine Blk.alloc ?_ _)))) hb1 (by go_size)
        have kP : Blk w1 (w.heap.size + 1 + 1 + 1) #[.int .i64 b.x, .int .i64 b.y, .int .i64 b.z] 55 := Blk.below (by (repeat (first | (with_reducible assumption) | (with_reducible exact Blk.new _ _ _ (by simp)) | (with_reducible refine Blk.drewN ?_) | (with_reducible refine Blk.drew ?_) | (with_reducible refine Blk.alloc ?_ _)))) hb1 (by go_size)
        have hB1 : Below w.heap.size w w1 := Below.trans (by first | exact Below.drew (below_drewN (by go_grown)) | exact below_drewN (by go_grown)) (hb1.mono (by go_size))
        obtain ⟨y0, y1, y2⟩ := kP.three
        have g0 := kP.frozen 0; have g1 := kP.frozen 1; have g2 := kP.frozen 2))
    all_goals (go_wp2_with fail)
    all_goals go_meet
    all_goals exact ⟨kS.other3 (by omega) _ _ _, kR.other3 (by omega) _ _ _, kP.set3 _ _ _, below_set3 hB1 (by omega) _ _ _⟩
  case rest =>
  rename World => wA
  obtain ⟨ks, kr, kp, hB⟩ := hcut
  obtain ⟨s0, s1, s2, s3, s4, s5, s6, s7, s8⟩ := ks.nine
  obtain ⟨p0, p1, p2⟩ := kp.three
  obtain ⟨f0, f1, f2, f3, f4, f5, f6, f7, f8⟩ := ks.frozen9
  have hl0 := ks.lt
  have hl1 := kr.lt
  have hp := kp.lt
  go_wp2
  rw [rounds_succ]; go_wp2
  rw [rounds_succ]; go_wp2
  refine wp_loop_rounds 3 ?_
  rw [rounds_succ]
  have ks2 : Blk (((wA.setCell ⟨w.heap.size, 3, none⟩ (.int .i64 b2.x)).setCell ⟨w.heap.size, 4, none⟩ (.int .i64 b2.y)).setCell ⟨w.heap.size, 5, none⟩ (.int .i64 b2.z)) w.heap.size #[.int .i64 a.x, .int .i64 a.y, .int .i64 a.z, .int .i64 b2.x, .int .i64 b2.y, .int .i64 b2.z, .int .i64 c.x, .int .i64 c.y, .int .i64 c.z] 58 := by
    have := ((ks.set 3 (.int .i64 b2.x)).set 4 (.int .i64 b2.y)).set 5 (.int .i64 b2.z); simpa using this
  have kr2 : Blk (((wA.setCell ⟨w.heap.size, 3, none⟩ (.int .i64 b2.x)).setCell ⟨w.heap.size, 4, none⟩ (.int .i64 b2.y)).setCell ⟨w.heap.size, 5, none⟩ (.int .i64 b2.z)) (w.heap.size + 1) #[.int .i64 0, .int .i64 0, .int .i64 0, .int .i64 0, .int .i64 0, .int .i64 0, .int .i64 0, .int .i64 0, .int .i64 0] 58 :=
    ((kr.other (by simp) _).other (by simp) _).other (by simp) _
  go_upto_block 3 with fail
  go_cut [] (fun wx => Blk wx w.heap.size #[.int .i64 a.x, .int .i64 a.y, .int .i64 a.z, .int .i64 b2.x, .int .i64 b2.y, .int .i64 b2.z, .int .i64 c.x, .int .i64 c.y, .int .i64 c.z] 58 ∧ Blk wx (w.heap.size + 1) #[.int .i64 0, .int .i64 0, .int .i64 0, .int .i64 0, .int .i64 0, .int .i64 0, .int .i64 0, .int .i64 0, .int .i64 0] 58 ∧ Blk wx (wA.heap.size) #[.int .i64 a1.x, .int .i64 a1.y, .int .i64 a1.z] 55 ∧ Below w.heap.size w wx)
  case first =>
    go_wp2
    go_quiet ((go_at_call 71; exact Calls.quiet_of_same (q2 _)))
    go_wp2
    go_region_with
      ((go_at_call 72; refine (t2 _).mono ?_; rintro e w1 ⟨rfl, hb1⟩

        have kS : Blk w1 w.heap.size #[.int .i64 a.x, .int .i64 a.y, .int .i64 a.z, .int .i64 b2.x, .int .i64 b2.y, .int .i64 b2.z, .int .i64 c.x, .int .i64 c.y, .int .i64 c.z] 58 := Blk.below (by (repeat (first | (with_reducible assumption) | (with_reducible exact Blk.new _ _ _ (by simp)) | (with_reducible refine Blk.drewN ?_) | (with_reducible refine Blk.drew ?_) | (with_reducible refine Blk.alloc ?_ _)))) hb1 (by go_size)
        have kR : Blk w1 (w.heap.size + 1) #[.int .i64 0, .int .i64 0, .int .i64 0, .int .i64 0, .int .i64 0, .int .i64 0, .int .i64 0, .int .i64 0, .int .i64 0] 58 := Blk.below (by (repeat (first | (with_reducible assumption) | (with_reducible exact Blk.new _ _ _ (by simp)) | (with_reducible refine Blk.drewN ?_) | (with_reducible refine Blk.drew ?_) | (with_reducible refine Blk.alloc ?_ _)))) hb1 (by go_size)
        have kP : Blk w1 (wA.heap.size) #[.int .i64 a.x, .int .i64 a.y, .int .i64 a.z] 55 := Blk.below (by (repeat (first | (with_reducible assumption) | (with_reducible exact Blk.new _ _ _ (by simp)) | (with_reducible refine Blk.drewN ?_) | (with_reducible refine Blk.drew ?_) | (with_reducible refine Blk.alloc ?_ _)))) hb1 (by go_size)
        have hB1 : Below w.heap.size w w1 := Below.trans (by first | exact Below.drew (below_drewN (by go_grown)) | exact below_drewN (by go_grown)) (hb1.mono (by go_size))
        obtain ⟨y0, y1, y2⟩ := kP.three
        have g0 := kP.frozen 0; have g1 := kP.frozen 1; have g2 := kP.frozen 2))
    all_goals (go_wp2_with fail)
    all_goals go_meet
    all_goals exact ⟨kS.other3 (by omega) _ _ _, kR.other3 (by omega) _ _ _, kP.set3 _ _ _, below_set3 hB1 (by omega) _ _ _⟩
  case rest =>
  rename World => wB
  obtain ⟨ks, kr, kp, hB⟩ := hcut
  obtain ⟨s0, s1, s2, s3, s4, s5, s6, s7, s8⟩ := ks.nine
  obtain ⟨p0, p1, p2⟩ := kp.three
  obtain ⟨f0, f1, f2, f3, f4, f5, f6, f7, f8⟩ := ks.frozen9
  have hl0 := ks.lt
  have hl1 := kr.lt
  have hp := kp.lt
  clear ks2 kr2
  go_wp2
  rw [rounds_succ]
  go_upto_block 3 with fail
  go_cut [] (fun wx => Blk wx w.heap.size #[.int .i64 a.x, .int .i64 a.y, .int .i64 a.z, .int .i64 b2.x, .int .i64 b2.y, .int .i64 b2.z, .int .i64 c.x, .int .i64 c.y, .int .i64 c.z] 58 ∧ Blk wx (w.heap.size + 1) #[.int .i64 0, .int .i64 0, .int .i64 0, .int .i64 0, .int .i64 0, .int .i64 0, .int .i64 0, .int .i64 0, .int .i64 0] 58 ∧ Blk wx (wA.heap.size) #[.int .i64 a2.x, .int .i64 a2.y, .int .i64 a2.z] 55 ∧ Below w.heap.size w wx)
  case first =>
    go_wp2
    go_quiet ((go_at_call 71; exact Calls.quiet_of_same (q3 _)))
    go_wp2
    go_region_with
      ((go_at_call 72; refine (t3 _).mono ?_; rintro e w1 ⟨rfl, hb1⟩

        have kS : Blk w1 w.heap.size #[.int .i64 a.x, .int .i64 a.y, .int .i64 a.z, .int .i64 b2.x, .int .i64 b2.y, .int .i64 b2.z, .int .i64 c.x, .int .i64 c.y, .int .i64 c.z] 58 := Blk.below (by (repeat (first | (with_reducible assumption) | (with_reducible exact Blk.new _ _ _ (by simp)) | (with_reducible refine Blk.drewN ?_) | (with_reducible refine Blk.drew ?_) | (with_reducible refine Blk.alloc ?_ _)))) hb1 (by go_size)
        have kR : Blk w1 (w.heap.size + 1) #[.int .i64 0, .int .i64 0, .int .i64 0, .int .i64 0, .int .i64 0, .int .i64 0, .int .i64 0, .int .i64 0, .int .i64 0] 58 := Blk.below (by (repeat (first | (with_reducible assumption) | (with_reducible exact Blk.new _ _ _ (by simp)) | (with_reducible refine Blk.drewN ?_) | (with_reducible refine Blk.drew ?_) | (with_reducible refine Blk.alloc ?_ _)))) hb1 (by go_size)
        have kP : Blk w1 (wA.heap.size) #[.int .i64 a1.x, .int .i64 a1.y, .int .i64 a1.z] 55 := Blk.below (by (repeat (first | (with_reducible assumption) | (with_reducible exact Blk.new _ _ _ (by simp)) | (with_reducible refine Blk.drewN ?_) | (with_reducible refine Blk.drew ?_) | (with_reducible refine Blk.alloc ?_ _)))) hb1 (by go_size)
        have hB1 : Below w.heap.size w w1 := Below.trans (by first | exact Below.drew (below_drewN (by go_grown)) | exact below_drewN (by go_grown)) (hb1.mono (by go_size))
        obtain ⟨y0, y1, y2⟩ := kP.three
        have g0 := kP.frozen 0; have g1 := kP.frozen 1; have g2 := kP.frozen 2))
    all_goals (go_wp2_with fail)
    all_goals go_meet
    all_goals exact ⟨kS.other3 (by omega) _ _ _, kR.other3 (by omega) _ _ _, kP.set3 _ _ _, below_set3 hB1 (by omega) _ _ _⟩
  case rest =>
  rename World => wC
  obtain ⟨ks, kr, kp, hB⟩ := hcut
  obtain ⟨s0, s1, s2, s3, s4, s5, s6, s7, s8⟩ := ks.nine
  obtain ⟨p0, p1, p2⟩ := kp.three
  obtain ⟨f0, f1, f2, f3, f4, f5, f6, f7, f8⟩ := ks.frozen9
  have hl0 := ks.lt
  have hl1 := kr.lt
  have hp := kp.lt
  go_wp2
  rw [rounds_succ]; go_wp2
  have ks3 : Blk (((wC.setCell ⟨w.heap.size, 0, none⟩ (.int .i64 a2.x)).setCell ⟨w.heap.size, 1, none⟩ (.int .i64 a2.y)).setCell ⟨w.heap.size, 2, none⟩ (.int .i64 a2.z)) w.heap.size #[.int .i64 a2.x, .int .i64 a2.y, .int .i64 a2.z, .int .i64 b2.x, .int .i64 b2.y, .int .i64 b2.z, .int .i64 c.x, .int .i64 c.y, .int .i64 c.z] 58 := by
    have := ((ks.set 0 (.int .i64 a2.x)).set 1 (.int .i64 a2.y)).set 2 (.int .i64 a2.z); simpa using this
  have kr3 : Blk (((wC.setCell ⟨w.heap.size, 0, none⟩ (.int .i64 a2.x)).setCell ⟨w.heap.size, 1, none⟩ (.int .i64 a2.y)).setCell ⟨w.heap.size, 2, none⟩ (.int .i64 a2.z)) (w.heap.size + 1) #[.int .i64 0, .int .i64 0, .int .i64 0, .int .i64 0, .int .i64 0, .int .i64 0, .int .i64 0, .int .i64 0, .int .i64 0] 58 :=
    ((kr.other (by simp) _).other (by simp) _).other (by simp) _
  have hB3 := below_set3 hB (Nat.le_refl _) (.int .i64 a2.x) (.int .i64 a2.y) (.int .i64 a2.z)
  rw [rounds_succ]
  generalize (((wC.setCell ⟨w.heap.size, 0, none⟩ (.int .i64 a2.x)).setCell ⟨w.heap.size, 1, none⟩ (.int .i64 a2.y)).setCell ⟨w.heap.size, 2, none⟩ (.int .i64 a2.z)) = wD at *
  clear ks kr kp hB s0 s1 s2 s3 s4 s5 s6 s7 s8 p0 p1 p2 f0 f1 f2 f3 f4 f5 f6 f7 f8
  obtain ⟨s0, s1, s2, s3, s4, s5, s6, s7, s8⟩ := ks3.nine
  obtain ⟨r0, r1, r2, r3, r4, r5, r6, r7, r8⟩ := kr3.nine
  obtain ⟨f0, f1, f2, f3, f4, f5, f6, f7, f8⟩ := kr3.frozen9
  go_wp2
  refine ret54 rfl (kr3.set9 _ _ _ _ _ _ _ _ _) rfl ⟨?_, below_set9 hB3 (by omega) _ _ _ _ _ _ _ _ _⟩
  rw [HA.out, HB.out, HC.out]

end Go.Proofs.YtmlcblnndihjoaaGreat

namespace Go.Proofs.YtmlcblnndihjoaaGreat
open Go.RowKit


theorem ret50 {R : Ending → World → Prop} {a : Act} {W : World} {p : Nat} {x0 x1 x2 x3 x4 x5 x6 x7 x8 : Value}
    (h : a.tmps[4]?.getD undef = .pointer (some ⟨p, 0, none⟩)) (k : Blk W p #[x0, x1, x2, x3, x4, x5, x6, x7, x8] 58) (hd : a.defers = [])
    (hR : R (.returned (.agg #[x0, x1, x2, x3, x4, x5, x6, x7, x8])) W) : bodyPost Tryz.prog Tryz.f78 R .ret a W := by
  obtain ⟨c0, c1, c2, c3, c4, c5, c6, c7, c8⟩ := k.nine
  refine bodyPost_ret (v := .agg #[x0, x1, x2, x3, x4, x5, x6, x7, x8]) ?_ hd hR
  simp [results, Tryz.results78, go_sem, h, c0, c1, c2, c3, c4, c5, c6, c7, c8]

theorem Blk.far3 {w : World} {b b' : Nat} {cs : Array Value} {T : TypeId} {x y z : Value} (hne : b ≠ b') (h : Blk w b cs T) : Blk (((w.setCell ⟨b', 0, none⟩ x).setCell ⟨b', 1, none⟩ y).setCell ⟨b', 2, none⟩ z) b cs T := h.other3 hne x y z

set_option maxHeartbeats 2000000 in
theorem with_any (S : Lat.St) (G : List Lat.V) (v : Lat.V) (w : World) (hS : Lat.CanonOf S G) (hG : ∀ g ∈ G, Lat.Le 511 g) (hv : Lat.Le 511 v) :
    Calls Tryz.prog 78 #[.agg #[.int .i64 S.a.x, .int .i64 S.a.y, .int .i64 S.a.z, .int .i64 S.b.x, .int .i64 S.b.y, .int .i64 S.b.z, .int .i64 S.c.x, .int .i64 S.c.y, .int .i64 S.c.z], .agg #[.int .i64 v.x, .int .i64 v.y, .int .i64 v.z]] w
      fun e w' => ∃ T, Lat.CanonOf T (v :: G) ∧ e = .returned (.agg #[.int .i64 T.a.x, .int .i64 T.a.y, .int .i64 T.a.z, .int .i64 T.b.x, .int .i64 T.b.y, .int .i64 T.b.z, .int .i64 T.c.x, .int .i64 T.c.y, .int .i64 T.c.z]) ∧ Below w.heap.size w w' := by
  have hr0 := Lat.room0 hS hG hv
  go_enter Tryz.func78, Tryz.ntmps78
  go_upto_region 1 with fail
  go_cut [5] (fun u5 wx => u5 = .int .i64 0 ∧ Blk wx w.heap.size #[.int .i64 S.a.x, .int .i64 S.a.y, .int .i64 S.a.z, .int .i64 S.b.x, .int .i64 S.b.y, .int .i64 S.b.z, .int .i64 S.c.x, .int .i64 S.c.y, .int .i64 S.c.z] 58 ∧ Blk wx (w.heap.size + 1) #[.int .i64 v.x, .int .i64 v.y, .int .i64 v.z] 55 ∧ Blk wx (w.heap.size + 1 + 1) #[.int .i64 0, .int .i64 0, .int .i64 0, .int .i64 0, .int .i64 0, .int .i64 0, .int .i64 0, .int .i64 0, .int .i64 0] 58 ∧ Below w.heap.size w wx)
  case first =>
    go_wp2
    go_meet
    refine ⟨rfl, ?_, ?_, ?_, by go_grown⟩
    all_goals (repeat (first | (with_reducible assumption) | (focus ((with_reducible refine Blk.new _ _ _ ?_); simp; done)) | (with_reducible refine Blk.drewN ?_) | (with_reducible refine Blk.drew ?_) | (with_reducible refine Blk.alloc ?_ _) | (with_reducible apply Blk.set3) | ((with_reducible refine Blk.far3 ?_ ?_); focus omega)))
  case rest =>
  rename World => wR
  obtain ⟨rfl, ks, kv, kr, hB⟩ := hcut
  obtain ⟨s0, s1, s2, s3, s4, s5, s6, s7, s8⟩ := ks.nine
  obtain ⟨t0, t1, t2⟩ := kv.three
  obtain ⟨f0, f1, f2, f3, f4, f5, f6, f7, f8⟩ := ks.frozen9
  have g0 := kv.frozen 0; have g1 := kv.frozen 1; have g2 := kv.frozen 2
  have hl0 := ks.lt
  have hl1 := kv.lt
  have hl2 := kr.lt
  go_wp2
  refine wp_loop_rounds 4 ?_
  have HT0 : Hid (∀ w0, Calls Tryz.prog 90 #[.agg #[.int .i64 S.a.x, .int .i64 S.a.y, .int .i64 S.a.z], .agg #[.int .i64 v.x, .int .i64 v.y, .int .i64 v.z], .int .i64 0] w0 fun e w' => ∃ a' b', Lat.Swept 0 S.a v a' b' ∧ e = .returned (.tuple #[.agg #[.int .i64 a'.x, .int .i64 a'.y, .int .i64 a'.z], .agg #[.int .i64 b'.x, .int .i64 b'.y, .int .i64 b'.z]]) ∧ Below w0.heap.size w0 w') := fun w0 => sweep0 _ _ w0 hr0
  rw [rounds_succ]
  go_upto_block 1 with fail
  go_cut [] (fun wx => ∃ a1 v1 : Lat.V, Lat.Swept 0 S.a v a1 v1 ∧ Blk wx w.heap.size #[.int .i64 a1.x, .int .i64 a1.y, .int .i64 a1.z, .int .i64 S.b.x, .int .i64 S.b.y, .int .i64 S.b.z, .int .i64 S.c.x, .int .i64 S.c.y, .int .i64 S.c.z] 58 ∧ Blk wx (w.heap.size + 1) #[.int .i64 v1.x, .int .i64 v1.y, .int .i64 v1.z] 55 ∧ Blk wx (w.heap.size + 1 + 1) #[.int .i64 0, .int .i64 0, .int .i64 0, .int .i64 0, .int .i64 0, .int .i64 0, .int .i64 0, .int .i64 0, .int .i64 0] 58 ∧ Below w.heap.size w wx)
  case first =>
    have n1 : ¬ w.heap.size = wR.heap.size := by omega
    have n2 : ¬ wR.heap.size = w.heap.size := by omega
    have n3 : ¬ w.heap.size + 1 = wR.heap.size := by omega
    have n4 : ¬ wR.heap.size = w.heap.size + 1 := by omega
    have n5 : ¬ w.heap.size = wR.heap.size + 1 := by omega
    have n6 : ¬ wR.heap.size + 1 = w.heap.size := by omega
    go_wp2
    go_cut [6, 7] (fun u6 u7 wx => ∃ (p q : Nat) (a1 v1 : Lat.V), u6 = .pointer (some ⟨p, 0, none⟩) ∧ u7 = .pointer (some ⟨q, 0, none⟩) ∧ w.heap.size + 1 + 1 < p ∧ w.heap.size + 1 + 1 < q ∧ p ≠ q ∧ Lat.Swept 0 S.a v a1 v1 ∧ Blk wx p #[.int .i64 a1.x, .int .i64 a1.y, .int .i64 a1.z] 55 ∧ Blk wx q #[.int .i64 v1.x, .int .i64 v1.y, .int .i64 v1.z] 55 ∧ Blk wx w.heap.size #[.int .i64 S.a.x, .int .i64 S.a.y, .int .i64 S.a.z, .int .i64 S.b.x, .int .i64 S.b.y, .int .i64 S.b.z, .int .i64 S.c.x, .int .i64 S.c.y, .int .i64 S.c.z] 58 ∧ Blk wx (w.heap.size + 1) #[.int .i64 v.x, .int .i64 v.y, .int .i64 v.z] 55 ∧ Blk wx (w.heap.size + 1 + 1) #[.int .i64 0, .int .i64 0, .int .i64 0, .int .i64 0, .int .i64 0, .int .i64 0, .int .i64 0, .int .i64 0, .int .i64 0] 58 ∧ Below w.heap.size w wx)
    case first =>
      go_region_held3 (fun w' => w'.cell? ⟨w.heap.size, 0, none⟩ = some (.int .i64 S.a.x) ∧ w'.cell? ⟨w.heap.size, 1, none⟩ = some (.int .i64 S.a.y) ∧ w'.cell? ⟨w.heap.size, 2, none⟩ = some (.int .i64 S.a.z) ∧ w'.cell? ⟨w.heap.size + 1, 0, none⟩ = some (.int .i64 v.x) ∧ w'.cell? ⟨w.heap.size + 1, 1, none⟩ = some (.int .i64 v.y) ∧ w'.cell? ⟨w.heap.size + 1, 2, none⟩ = some (.int .i64 v.z))
        (go_keep)
        ((go_at_call 90; refine (HT0.out _).mono ?_; rintro e w1 ⟨a1, v1, hsw, rfl, hb1⟩
          have hz1 := hb1.size
          obtain ⟨hc1, hf1⟩ := bcell hb1
          simp at hz1 hc1 hf1
          have kS : Blk w1 w.heap.size #[.int .i64 S.a.x, .int .i64 S.a.y, .int .i64 S.a.z, .int .i64 S.b.x, .int .i64 S.b.y, .int .i64 S.b.z, .int .i64 S.c.x, .int .i64 S.c.y, .int .i64 S.c.z] 58 := Blk.below (by (repeat (first | (with_reducible assumption) | (focus ((with_reducible refine Blk.new _ _ _ ?_); simp; done)) | (with_reducible refine Blk.drewN ?_) | (with_reducible refine Blk.drew ?_) | (with_reducible refine Blk.alloc ?_ _) | (with_reducible apply Blk.set3) | ((with_reducible refine Blk.far3 ?_ ?_); focus omega)))) hb1 (by go_size)
          have kV : Blk w1 (w.heap.size + 1) #[.int .i64 v.x, .int .i64 v.y, .int .i64 v.z] 55 := Blk.below (by (repeat (first | (with_reducible assumption) | (focus ((with_reducible refine Blk.new _ _ _ ?_); simp; done)) | (with_reducible refine Blk.drewN ?_) | (with_reducible refine Blk.drew ?_) | (with_reducible refine Blk.alloc ?_ _) | (with_reducible apply Blk.set3) | ((with_reducible refine Blk.far3 ?_ ?_); focus omega)))) hb1 (by go_size)
          have kR : Blk w1 (w.heap.size + 1 + 1) #[.int .i64 0, .int .i64 0, .int .i64 0, .int .i64 0, .int .i64 0, .int .i64 0, .int .i64 0, .int .i64 0, .int .i64 0] 58 := Blk.below (by (repeat (first | (with_reducible assumption) | (focus ((with_reducible refine Blk.new _ _ _ ?_); simp; done)) | (with_reducible refine Blk.drewN ?_) | (with_reducible refine Blk.drew ?_) | (with_reducible refine Blk.alloc ?_ _) | (with_reducible apply Blk.set3) | ((with_reducible refine Blk.far3 ?_ ?_); focus omega)))) hb1 (by go_size)
          have hB1 : Below w.heap.size w w1 := Below.trans (by go_grown) (hb1.mono (by go_size))
          have m1 : ¬ w.heap.size = w1.heap.size := by omega
          have m2 : ¬ w1.heap.size = w.heap.size := by omega
          have m3 : ¬ w.heap.size + 1 = w1.heap.size := by omega
          have m4 : ¬ w1.heap.size = w.heap.size + 1 := by omega
          have m5 : ¬ w.heap.size = w1.heap.size + 1 := by omega
          have m6 : ¬ w1.heap.size + 1 = w.heap.size := by omega
          try (have m7 : ¬ w1.heap.size = wR.heap.size := by omega
               have m8 : ¬ wR.heap.size = w1.heap.size := by omega
               have kN : Blk w1 wR.heap.size #[.int .i64 0, .int .i64 0, .int .i64 0] 55 := Blk.below (by (repeat (first | (with_reducible assumption) | (focus ((with_reducible refine Blk.new _ _ _ ?_); simp; done)) | (with_reducible refine Blk.drewN ?_) | (with_reducible refine Blk.drew ?_) | (with_reducible refine Blk.alloc ?_ _) | (with_reducible apply Blk.set3) | ((with_reducible refine Blk.far3 ?_ ?_); focus omega)))) hb1 (by go_size)
               have m11 : wR.heap.size < w1.heap.size := by omega
               obtain ⟨z0, z1, z2⟩ := kN.three
               have i0 := kN.frozen 0
               have i1 := kN.frozen 1
               have i2 := kN.frozen 2)
          try (have kO : Blk w1 (wR.heap.size + 1) #[.int .i64 0, .int .i64 0, .int .i64 0] 55 := Blk.below (by (repeat (first | (with_reducible assumption) | (focus ((with_reducible refine Blk.new _ _ _ ?_); simp; done)) | (with_reducible refine Blk.drewN ?_) | (with_reducible refine Blk.drew ?_) | (with_reducible refine Blk.alloc ?_ _) | (with_reducible apply Blk.set3) | ((with_reducible refine Blk.far3 ?_ ?_); focus omega)))) hb1 (by go_size)
               have m9 : ¬ w1.heap.size = wR.heap.size + 1 := by omega
               have m10 : ¬ wR.heap.size + 1 = w1.heap.size := by omega
               have m12 : wR.heap.size + 1 < w1.heap.size := by omega
               obtain ⟨z3, z4, z5⟩ := kO.three
               have i3 := kO.frozen 0
               have i4 := kO.frozen 1
               have i5 := kO.frozen 2)
          clear hc1 hf1
          obtain ⟨x0, x1, x2, x3, x4, x5, x6, x7, x8⟩ := kS.nine
          obtain ⟨y0, y1, y2⟩ := kV.three))
      all_goals (go_wp2_with fail)
      all_goals go_meet
      all_goals refine ⟨_, _, a1, v1, rfl, rfl, by omega, by omega, by omega, hsw, ?_, ?_, ?_, ?_, ?_, ?_⟩
      all_goals first | (focus ((repeat (first | (with_reducible assumption) | (focus ((with_reducible refine Blk.new _ _ _ ?_); simp; done)) | (with_reducible refine Blk.drewN ?_) | (with_reducible refine Blk.drew ?_) | (with_reducible refine Blk.alloc ?_ _) | (with_reducible apply Blk.set3) | ((with_reducible refine Blk.far3 ?_ ?_); focus omega))); done)) | (focus (go_grown; done)) | skip
      all_goals go_goals
    case rest =>
      obtain ⟨p, q, a1, v1, rfl, rfl, hp, hq, hpq, hsw, bp, bq, kS, kV, kR, hB1⟩ := hcut
      clear ks kv kr hB s0 s1 s2 s3 s4 s5 s6 s7 s8 t0 t1 t2 f0 f1 f2 f3 f4 f5 f6 f7 f8 g0 g1 g2
      obtain ⟨s0, s1, s2, s3, s4, s5, s6, s7, s8⟩ := kS.nine
      obtain ⟨f0, f1, f2, f3, f4, f5, f6, f7, f8⟩ := kS.frozen9
      obtain ⟨t0, t1, t2⟩ := kV.three
      have g0 := kV.frozen 0; have g1 := kV.frozen 1; have g2 := kV.frozen 2
      obtain ⟨p0, p1, p2⟩ := bp.three
      obtain ⟨q0, q1, q2⟩ := bq.three
      have d1 : ¬ p = w.heap.size := by omega
      have d2 : ¬ w.heap.size = p := by omega
      have d3 : ¬ q = w.heap.size := by omega
      have d4 : ¬ w.heap.size = q := by omega
      have d5 : ¬ q = w.heap.size + 1 := by omega
      have d6 : ¬ w.heap.size + 1 = q := by omega
      go_wp2
      go_meet
      refine ⟨a1, v1, hsw, ?_, ?_, ?_, ?_⟩
      · have := ((kS.set 0 (.int .i64 a1.x)).set 1 (.int .i64 a1.y)).set 2 (.int .i64 a1.z)
        refine Blk.other3 (b' := w.heap.size + 1) ?_ (by omega) _ _ _
        simpa using this
      · exact (((kV.other (by simp) _).other (by simp) _).other (by simp) _).set3 _ _ _
      · exact (((kR.other (by simp; omega) _).other (by simp; omega) _).other (by simp; omega) _).other3 (by omega) _ _ _
      · go_grown
  case rest =>
  clear s0 s1 s2 s3 s4 s5 s6 s7 s8 t0 t1 t2 f0 f1 f2 f3 f4 f5 f6 f7 f8 g0 g1 g2 hl0 hl1 hl2 ks kv kr hB
  rename World => wA
  obtain ⟨a1, v1, hs0, ks, kv, kr, hB⟩ := hcut
  obtain ⟨s0, s1, s2, s3, s4, s5, s6, s7, s8⟩ := ks.nine
  obtain ⟨t0, t1, t2⟩ := kv.three
  obtain ⟨f0, f1, f2, f3, f4, f5, f6, f7, f8⟩ := ks.frozen9
  have g0 := kv.frozen 0; have g1 := kv.frozen 1; have g2 := kv.frozen 2
  have hl0 := ks.lt
  have hl1 := kv.lt
  have hl2 := kr.lt
  go_wp2
  have hr1 := Lat.room1 hS hG hv hs0
  have HT1 : Hid (∀ w0, Calls Tryz.prog 90 #[.agg #[.int .i64 S.b.x, .int .i64 S.b.y, .int .i64 S.b.z], .agg #[.int .i64 v1.x, .int .i64 v1.y, .int .i64 v1.z], .int .i64 1] w0 fun e w' => ∃ a' b', Lat.Swept 1 S.b v1 a' b' ∧ e = .returned (.tuple #[.agg #[.int .i64 a'.x, .int .i64 a'.y, .int .i64 a'.z], .agg #[.int .i64 b'.x, .int .i64 b'.y, .int .i64 b'.z]]) ∧ Below w0.heap.size w0 w') := fun w0 => sweep1 _ _ w0 hr1
  rw [rounds_succ]
  go_upto_block 1 with fail
  go_cut [] (fun wx => ∃ b1 v2 : Lat.V, Lat.Swept 1 S.b v1 b1 v2 ∧ Blk wx w.heap.size #[.int .i64 a1.x, .int .i64 a1.y, .int .i64 a1.z, .int .i64 b1.x, .int .i64 b1.y, .int .i64 b1.z, .int .i64 S.c.x, .int .i64 S.c.y, .int .i64 S.c.z] 58 ∧ Blk wx (w.heap.size + 1) #[.int .i64 v2.x, .int .i64 v2.y, .int .i64 v2.z] 55 ∧ Blk wx (w.heap.size + 1 + 1) #[.int .i64 0, .int .i64 0, .int .i64 0, .int .i64 0, .int .i64 0, .int .i64 0, .int .i64 0, .int .i64 0, .int .i64 0] 58 ∧ Below w.heap.size w wx)
  case first =>
    have n1 : ¬ w.heap.size = wA.heap.size := by omega
    have n2 : ¬ wA.heap.size = w.heap.size := by omega
    have n3 : ¬ w.heap.size + 1 = wA.heap.size := by omega
    have n4 : ¬ wA.heap.size = w.heap.size + 1 := by omega
    have n5 : ¬ w.heap.size = wA.heap.size + 1 := by omega
    have n6 : ¬ wA.heap.size + 1 = w.heap.size := by omega
    go_wp2
    go_cut [6, 7] (fun u6 u7 wx => ∃ (p q : Nat) (b1 v2 : Lat.V), u6 = .pointer (some ⟨p, 0, none⟩) ∧ u7 = .pointer (some ⟨q, 0, none⟩) ∧ w.heap.size + 1 + 1 < p ∧ w.heap.size + 1 + 1 < q ∧ p ≠ q ∧ Lat.Swept 1 S.b v1 b1 v2 ∧ Blk wx p #[.int .i64 b1.x, .int .i64 b1.y, .int .i64 b1.z] 55 ∧ Blk wx q #[.int .i64 v2.x, .int .i64 v2.y, .int .i64 v2.z] 55 ∧ Blk wx w.heap.size #[.int .i64 a1.x, .int .i64 a1.y, .int .i64 a1.z, .int .i64 S.b.x, .int .i64 S.b.y, .int .i64 S.b.z, .int .i64 S.c.x, .int .i64 S.c.y, .int .i64 S.c.z] 58 ∧ Blk wx (w.heap.size + 1) #[.int .i64 v1.x, .int .i64 v1.y, .int .i64 v1.z] 55 ∧ Blk wx (w.heap.size + 1 + 1) #[.int .i64 0, .int .i64 0, .int .i64 0, .int .i64 0, .int .i64 0, .int .i64 0, .int .i64 0, .int .i64 0, .int .i64 0] 58 ∧ Below w.heap.size w wx)
    case first =>
      go_region_held3 (fun w' => w'.cell? ⟨w.heap.size, 3, none⟩ = some (.int .i64 S.b.x) ∧ w'.cell? ⟨w.heap.size, 4, none⟩ = some (.int .i64 S.b.y) ∧ w'.cell? ⟨w.heap.size, 5, none⟩ = some (.int .i64 S.b.z) ∧ w'.cell? ⟨w.heap.size + 1, 0, none⟩ = some (.int .i64 v1.x) ∧ w'.cell? ⟨w.heap.size + 1, 1, none⟩ = some (.int .i64 v1.y) ∧ w'.cell? ⟨w.heap.size + 1, 2, none⟩ = some (.int .i64 v1.z))
        (go_keep)
        ((go_at_call 90; refine (HT1.out _).mono ?_; rintro e w1 ⟨b1, v2, hsw, rfl, hb1⟩
          have hz1 := hb1.size
          obtain ⟨hc1, hf1⟩ := bcell hb1
          simp at hz1 hc1 hf1
          have kS : Blk w1 w.heap.size #[.int .i64 a1.x, .int .i64 a1.y, .int .i64 a1.z, .int .i64 S.b.x, .int .i64 S.b.y, .int .i64 S.b.z, .int .i64 S.c.x, .int .i64 S.c.y, .int .i64 S.c.z] 58 := Blk.below (by (repeat (first | (with_reducible assumption) | (focus ((with_reducible refine Blk.new _ _ _ ?_); simp; done)) | (with_reducible refine Blk.drewN ?_) | (with_reducible refine Blk.drew ?_) | (with_reducible refine Blk.alloc ?_ _) | (with_reducible apply Blk.set3) | ((with_reducible refine Blk.far3 ?_ ?_); focus omega)))) hb1 (by go_size)
          have kV : Blk w1 (w.heap.size + 1) #[.int .i64 v1.x, .int .i64 v1.y, .int .i64 v1.z] 55 := Blk.below (by (repeat (first | (with_reducible assumption) | (focus ((with_reducible refine Blk.new _ _ _ ?_); simp; done)) | (with_reducible refine Blk.drewN ?_) | (with_reducible refine Blk.drew ?_) | (with_reducible refine Blk.alloc ?_ _) | (with_reducible apply Blk.set3) | ((with_reducible refine Blk.far3 ?_ ?_); focus omega)))) hb1 (by go_size)
          have kR : Blk w1 (w.heap.size + 1 + 1) #[.int .i64 0, .int .i64 0, .int .i64 0, .int .i64 0, .int .i64 0, .int .i64 0, .int .i64 0, .int .i64 0, .int .i64 0] 58 := Blk.below (by (repeat (first | (with_reducible assumption) | (focus ((with_reducible refine Blk.new _ _ _ ?_); simp; done)) | (with_reducible refine Blk.drewN ?_) | (with_reducible refine Blk.drew ?_) | (with_reducible refine Blk.alloc ?_ _) | (with_reducible apply Blk.set3) | ((with_reducible refine Blk.far3 ?_ ?_); focus omega)))) hb1 (by go_size)
          have hB1 : Below w.heap.size w w1 := Below.trans (by go_grown) (hb1.mono (by go_size))
          have m1 : ¬ w.heap.size = w1.heap.size := by omega
          have m2 : ¬ w1.heap.size = w.heap.size := by omega
          have m3 : ¬ w.heap.size + 1 = w1.heap.size := by omega
          have m4 : ¬ w1.heap.size = w.heap.size + 1 := by omega
          have m5 : ¬ w.heap.size = w1.heap.size + 1 := by omega
          have m6 : ¬ w1.heap.size + 1 = w.heap.size := by omega
          try (have m7 : ¬ w1.heap.size = wA.heap.size := by omega
               have m8 : ¬ wA.heap.size = w1.heap.size := by omega
               have kN : Blk w1 wA.heap.size #[.int .i64 0, .int .i64 0, .int .i64 0] 55 := Blk.below (by (repeat (first | (with_reducible assumption) | (focus ((with_reducible refine Blk.new _ _ _ ?_); simp; done)) | (with_reducible refine Blk.drewN ?_) | (with_reducible refine Blk.drew ?_) | (with_reducible refine Blk.alloc ?_ _) | (with_reducible apply Blk.set3) | ((with_reducible refine Blk.far3 ?_ ?_); focus omega)))) hb1 (by go_size)
               have m11 : wA.heap.size < w1.heap.size := by omega
               obtain ⟨z0, z1, z2⟩ := kN.three
               have i0 := kN.frozen 0
               have i1 := kN.frozen 1
               have i2 := kN.frozen 2)
          try (have kO : Blk w1 (wA.heap.size + 1) #[.int .i64 0, .int .i64 0, .int .i64 0] 55 := Blk.below (by (repeat (first | (with_reducible assumption) | (focus ((with_reducible refine Blk.new _ _ _ ?_); simp; done)) | (with_reducible refine Blk.drewN ?_) | (with_reducible refine Blk.drew ?_) | (with_reducible refine Blk.alloc ?_ _) | (with_reducible apply Blk.set3) | ((with_reducible refine Blk.far3 ?_ ?_); focus omega)))) hb1 (by go_size)
               have m9 : ¬ w1.heap.size = wA.heap.size + 1 := by omega
               have m10 : ¬ wA.heap.size + 1 = w1.heap.size := by omega
               have m12 : wA.heap.size + 1 < w1.heap.size := by omega
               obtain ⟨z3, z4, z5⟩ := kO.three
               have i3 := kO.frozen 0
               have i4 := kO.frozen 1
               have i5 := kO.frozen 2)
          clear hc1 hf1
          obtain ⟨x0, x1, x2, x3, x4, x5, x6, x7, x8⟩ := kS.nine
          obtain ⟨y0, y1, y2⟩ := kV.three))
      all_goals (go_wp2_with fail)
      all_goals go_meet
      all_goals refine ⟨_, _, b1, v2, rfl, rfl, by omega, by omega, by omega, hsw, ?_, ?_, ?_, ?_, ?_, ?_⟩
      all_goals first | (focus ((repeat (first | (with_reducible assumption) | (focus ((with_reducible refine Blk.new _ _ _ ?_); simp; done)) | (with_reducible refine Blk.drewN ?_) | (with_reducible refine Blk.drew ?_) | (with_reducible refine Blk.alloc ?_ _) | (with_reducible apply Blk.set3) | ((with_reducible refine Blk.far3 ?_ ?_); focus omega))); done)) | (focus (go_grown; done)) | skip
      all_goals go_goals
    case rest =>
      obtain ⟨p, q, b1, v2, rfl, rfl, hp, hq, hpq, hsw, bp, bq, kS, kV, kR, hB1⟩ := hcut
      clear ks kv kr hB s0 s1 s2 s3 s4 s5 s6 s7 s8 t0 t1 t2 f0 f1 f2 f3 f4 f5 f6 f7 f8 g0 g1 g2
      obtain ⟨s0, s1, s2, s3, s4, s5, s6, s7, s8⟩ := kS.nine
      obtain ⟨f0, f1, f2, f3, f4, f5, f6, f7, f8⟩ := kS.frozen9
      obtain ⟨t0, t1, t2⟩ := kV.three
      have g0 := kV.frozen 0; have g1 := kV.frozen 1; have g2 := kV.frozen 2
      obtain ⟨p0, p1, p2⟩ := bp.three
      obtain ⟨q0, q1, q2⟩ := bq.three
      have d1 : ¬ p = w.heap.size := by omega
      have d2 : ¬ w.heap.size = p := by omega
      have d3 : ¬ q = w.heap.size := by omega
      have d4 : ¬ w.heap.size = q := by omega
      have d5 : ¬ q = w.heap.size + 1 := by omega
      have d6 : ¬ w.heap.size + 1 = q := by omega
      go_wp2
      go_meet
      refine ⟨b1, v2, hsw, ?_, ?_, ?_, ?_⟩
      · have := ((kS.set 3 (.int .i64 b1.x)).set 4 (.int .i64 b1.y)).set 5 (.int .i64 b1.z)
        refine Blk.other3 (b' := w.heap.size + 1) ?_ (by omega) _ _ _
        simpa using this
      · exact (((kV.other (by simp) _).other (by simp) _).other (by simp) _).set3 _ _ _
      · exact (((kR.other (by simp; omega) _).other (by simp; omega) _).other (by simp; omega) _).other3 (by omega) _ _ _
      · go_grown
  case rest =>
  clear s0 s1 s2 s3 s4 s5 s6 s7 s8 t0 t1 t2 f0 f1 f2 f3 f4 f5 f6 f7 f8 g0 g1 g2 hl0 hl1 hl2 ks kv kr hB
  rename World => wB
  obtain ⟨b1, v2, hs1, ks, kv, kr, hB⟩ := hcut
  obtain ⟨s0, s1, s2, s3, s4, s5, s6, s7, s8⟩ := ks.nine
  obtain ⟨t0, t1, t2⟩ := kv.three
  obtain ⟨f0, f1, f2, f3, f4, f5, f6, f7, f8⟩ := ks.frozen9
  have g0 := kv.frozen 0; have g1 := kv.frozen 1; have g2 := kv.frozen 2
  have hl0 := ks.lt
  have hl1 := kv.lt
  have hl2 := kr.lt
  go_wp2
  have hr2 := Lat.room2 hS hG hv hs0 hs1
  have HT2 : Hid (∀ w0, Calls Tryz.prog 90 #[.agg #[.int .i64 S.c.x, .int .i64 S.c.y, .int .i64 S.c.z], .agg #[.int .i64 v2.x, .int .i64 v2.y, .int .i64 v2.z], .int .i64 2] w0 fun e w' => ∃ a' b', Lat.Swept 2 S.c v2 a' b' ∧ e = .returned (.tuple #[.agg #[.int .i64 a'.x, .int .i64 a'.y, .int .i64 a'.z], .agg #[.int .i64 b'.x, .int .i64 b'.y, .int .i64 b'.z]]) ∧ Below w0.heap.size w0 w') := fun w0 => sweep2 _ _ w0 hr2
  rw [rounds_succ]
  go_upto_block 1 with fail
  go_cut [] (fun wx => ∃ c1 v3 : Lat.V, Lat.Swept 2 S.c v2 c1 v3 ∧ Blk wx w.heap.size #[.int .i64 a1.x, .int .i64 a1.y, .int .i64 a1.z, .int .i64 b1.x, .int .i64 b1.y, .int .i64 b1.z, .int .i64 c1.x, .int .i64 c1.y, .int .i64 c1.z] 58 ∧ Blk wx (w.heap.size + 1) #[.int .i64 v3.x, .int .i64 v3.y, .int .i64 v3.z] 55 ∧ Blk wx (w.heap.size + 1 + 1) #[.int .i64 0, .int .i64 0, .int .i64 0, .int .i64 0, .int .i64 0, .int .i64 0, .int .i64 0, .int .i64 0, .int .i64 0] 58 ∧ Below w.heap.size w wx)
  case first =>
    have n1 : ¬ w.heap.size = wB.heap.size := by omega
    have n2 : ¬ wB.heap.size = w.heap.size := by omega
    have n3 : ¬ w.heap.size + 1 = wB.heap.size := by omega
    have n4 : ¬ wB.heap.size = w.heap.size + 1 := by omega
    have n5 : ¬ w.heap.size = wB.heap.size + 1 := by omega
    have n6 : ¬ wB.heap.size + 1 = w.heap.size := by omega
    go_wp2
    go_cut [6, 7] (fun u6 u7 wx => ∃ (p q : Nat) (c1 v3 : Lat.V), u6 = .pointer (some ⟨p, 0, none⟩) ∧ u7 = .pointer (some ⟨q, 0, none⟩) ∧ w.heap.size + 1 + 1 < p ∧ w.heap.size + 1 + 1 < q ∧ p ≠ q ∧ Lat.Swept 2 S.c v2 c1 v3 ∧ Blk wx p #[.int .i64 c1.x, .int .i64 c1.y, .int .i64 c1.z] 55 ∧ Blk wx q #[.int .i64 v3.x, .int .i64 v3.y, .int .i64 v3.z] 55 ∧ Blk wx w.heap.size #[.int .i64 a1.x, .int .i64 a1.y, .int .i64 a1.z, .int .i64 b1.x, .int .i64 b1.y, .int .i64 b1.z, .int .i64 S.c.x, .int .i64 S.c.y, .int .i64 S.c.z] 58 ∧ Blk wx (w.heap.size + 1) #[.int .i64 v2.x, .int .i64 v2.y, .int .i64 v2.z] 55 ∧ Blk wx (w.heap.size + 1 + 1) #[.int .i64 0, .int .i64 0, .int .i64 0, .int .i64 0, .int .i64 0, .int .i64 0, .int .i64 0, .int .i64 0, .int .i64 0] 58 ∧ Below w.heap.size w wx)
    case first =>
      go_region_held3 (fun w' => w'.cell? ⟨w.heap.size, 6, none⟩ = some (.int .i64 S.c.x) ∧ w'.cell? ⟨w.heap.size, 7, none⟩ = some (.int .i64 S.c.y) ∧ w'.cell? ⟨w.heap.size, 8, none⟩ = some (.int .i64 S.c.z) ∧ w'.cell? ⟨w.heap.size + 1, 0, none⟩ = some (.int .i64 v2.x) ∧ w'.cell? ⟨w.heap.size + 1, 1, none⟩ = some (.int .i64 v2.y) ∧ w'.cell? ⟨w.heap.size + 1, 2, none⟩ = some (.int .i64 v2.z))
        (go_keep)
        ((go_at_call 90; refine (HT2.out _).mono ?_; rintro e w1 ⟨c1, v3, hsw, rfl, hb1⟩
          have hz1 := hb1.size
          obtain ⟨hc1, hf1⟩ := bcell hb1
          simp at hz1 hc1 hf1
          have kS : Blk w1 w.heap.size #[.int .i64 a1.x, .int .i64 a1.y, .int .i64 a1.z, .int .i64 b1.x, .int .i64 b1.y, .int .i64 b1.z, .int .i64 S.c.x, .int .i64 S.c.y, .int .i64 S.c.z] 58 := Blk.below (by (repeat (first | (with_reducible assumption) | (focus ((with_reducible refine Blk.new _ _ _ ?_); simp; done)) | (with_reducible refine Blk.drewN ?_) | (with_reducible refine Blk.drew ?_) | (with_reducible refine Blk.alloc ?_ _) | (with_reducible apply Blk.set3) | ((with_reducible refine Blk.far3 ?_ ?_); focus omega)))) hb1 (by go_size)
          have kV : Blk w1 (w.heap.size + 1) #[.int .i64 v2.x, .int .i64 v2.y, .int .i64 v2.z] 55 := Blk.below (by (repeat (first | (with_reducible assumption) | (focus ((with_reducible refine Blk.new _ _ _ ?_); simp; done)) | (with_reducible refine Blk.drewN ?_) | (with_reducible refine Blk.drew ?_) | (with_reducible refine Blk.alloc ?_ _) | (with_reducible apply Blk.set3) | ((with_reducible refine Blk.far3 ?_ ?_); focus omega)))) hb1 (by go_size)
          have kR : Blk w1 (w.heap.size + 1 + 1) #[.int .i64 0, .int .i64 0, .int .i64 0, .int .i64 0, .int .i64 0, .int .i64 0, .int .i64 0, .int .i64 0, .int .i64 0] 58 := Blk.below (by (repeat (first | (with_reducible assumption) | (focus ((with_reducible refine Blk.new _ _ _ ?_); simp; done)) | (with_reducible refine Blk.drewN ?_) | (with_reducible refine Blk.drew ?_) | (with_reducible refine Blk.alloc ?_ _) | (with_reducible apply Blk.set3) | ((with_reducible refine Blk.far3 ?_ ?_); focus omega)))) hb1 (by go_size)
          have hB1 : Below w.heap.size w w1 := Below.trans (by go_grown) (hb1.mono (by go_size))
          have m1 : ¬ w.heap.size = w1.heap.size := by omega
          have m2 : ¬ w1.heap.size = w.heap.size := by omega
          have m3 : ¬ w.heap.size + 1 = w1.heap.size := by omega
          have m4 : ¬ w1.heap.size = w.heap.size + 1 := by omega
          have m5 : ¬ w.heap.size = w1.heap.size + 1 := by omega
          have m6 : ¬ w1.heap.size + 1 = w.heap.size := by omega
          try (have m7 : ¬ w1.heap.size = wB.heap.size := by omega
               have m8 : ¬ wB.heap.size = w1.heap.size := by omega
               have kN : Blk w1 wB.heap.size #[.int .i64 0, .int .i64 0, .int .i64 0] 55 := Blk.below (by (repeat (first | (with_reducible assumption) | (focus ((with_reducible refine Blk.new _ _ _ ?_); simp; done)) | (with_reducible refine Blk.drewN ?_) | (with_reducible refine Blk.drew ?_) | (with_reducible refine Blk.alloc ?_ _) | (with_reducible apply Blk.set3) | ((with_reducible refine Blk.far3 ?_ ?_); focus omega)))) hb1 (by go_size)
               have m11 : wB.heap.size < w1.heap.size := by omega
               obtain ⟨z0, z1, z2⟩ := kN.three
               have i0 := kN.frozen 0
               have i1 := kN.frozen 1
               have i2 := kN.frozen 2)
          try (have kO : Blk w1 (wB.heap.size + 1) #[.int .i64 0, .int .i64 0, .int .i64 0] 55 := Blk.below (by (repeat (first | (with_reducible assumption) | (focus ((with_reducible refine Blk.new _ _ _ ?_); simp; done)) | (with_reducible refine Blk.drewN ?_) | (with_reducible refine Blk.drew ?_) | (with_reducible refine Blk.alloc ?_ _) | (with_reducible apply Blk.set3) | ((with_reducible refine Blk.far3 ?_ ?_); focus omega)))) hb1 (by go_size)
               have m9 : ¬ w1.heap.size = wB.heap.size + 1 := by omega
               have m10 : ¬ wB.heap.size + 1 = w1.heap.size := by omega
               have m12 : wB.heap.size + 1 < w1.heap.size := by omega
               obtain ⟨z3, z4, z5⟩ := kO.three
               have i3 := kO.frozen 0
               have i4 := kO.frozen 1
               have i5 := kO.frozen 2)
          clear hc1 hf1
          obtain ⟨x0, x1, x2, x3, x4, x5, x6, x7, x8⟩ := kS.nine
          obtain ⟨y0, y1, y2⟩ := kV.three))
      all_goals (go_wp2_with fail)
      all_goals go_meet
      all_goals refine ⟨_, _, c1, v3, rfl, rfl, by omega, by omega, by omega, hsw, ?_, ?_, ?_, ?_, ?_, ?_⟩
      all_goals first | (focus ((repeat (first | (with_reducible assumption) | (focus ((with_reducible refine Blk.new _ _ _ ?_); simp; done)) | (with_reducible refine Blk.drewN ?_) | (with_reducible refine Blk.drew ?_) | (with_reducible refine Blk.alloc ?_ _) | (with_reducible apply Blk.set3) | ((with_reducible refine Blk.far3 ?_ ?_); focus omega))); done)) | (focus (go_grown; done)) | skip
      all_goals go_goals
    case rest =>
      obtain ⟨p, q, c1, v3, rfl, rfl, hp, hq, hpq, hsw, bp, bq, kS, kV, kR, hB1⟩ := hcut
      clear ks kv kr hB s0 s1 s2 s3 s4 s5 s6 s7 s8 t0 t1 t2 f0 f1 f2 f3 f4 f5 f6 f7 f8 g0 g1 g2
      obtain ⟨s0, s1, s2, s3, s4, s5, s6, s7, s8⟩ := kS.nine
      obtain ⟨f0, f1, f2, f3, f4, f5, f6, f7, f8⟩ := kS.frozen9
      obtain ⟨t0, t1, t2⟩ := kV.three
      have g0 := kV.frozen 0; have g1 := kV.frozen 1; have g2 := kV.frozen 2
      obtain ⟨p0, p1, p2⟩ := bp.three
      obtain ⟨q0, q1, q2⟩ := bq.three
      have d1 : ¬ p = w.heap.size := by omega
      have d2 : ¬ w.heap.size = p := by omega
      have d3 : ¬ q = w.heap.size := by omega
      have d4 : ¬ w.heap.size = q := by omega
      have d5 : ¬ q = w.heap.size + 1 := by omega
      have d6 : ¬ w.heap.size + 1 = q := by omega
      go_wp2
      go_meet
      refine ⟨c1, v3, hsw, ?_, ?_, ?_, ?_⟩
      · have := ((kS.set 6 (.int .i64 c1.x)).set 7 (.int .i64 c1.y)).set 8 (.int .i64 c1.z)
        refine Blk.other3 (b' := w.heap.size + 1) ?_ (by omega) _ _ _
        simpa using this
      · exact (((kV.other (by simp) _).other (by simp) _).other (by simp) _).set3 _ _ _
      · exact (((kR.other (by simp; omega) _).other (by simp; omega) _).other (by simp; omega) _).other3 (by omega) _ _ _
      · go_grown
  case rest =>
  clear s0 s1 s2 s3 s4 s5 s6 s7 s8 t0 t1 t2 f0 f1 f2 f3 f4 f5 f6 f7 f8 g0 g1 g2 hl0 hl1 hl2 ks kv kr hB
  rename World => wC
  obtain ⟨c1, v3, hs2, ks, kv, kr, hB⟩ := hcut
  obtain ⟨s0, s1, s2, s3, s4, s5, s6, s7, s8⟩ := ks.nine
  obtain ⟨t0, t1, t2⟩ := kv.three
  obtain ⟨f0, f1, f2, f3, f4, f5, f6, f7, f8⟩ := ks.frozen9
  have g0 := kv.frozen 0; have g1 := kv.frozen 1; have g2 := kv.frozen 2
  have hl0 := ks.lt
  have hl1 := kv.lt
  have hl2 := kr.lt
  go_wp2
  rw [rounds_succ]
  have hC := Lat.with_canon hS hs0 hs1 hs2
  have hR : Hid (∀ w0, Calls Tryz.prog 91 #[.agg #[.int .i64 a1.x, .int .i64 a1.y, .int .i64 a1.z, .int .i64 b1.x, .int .i64 b1.y, .int .i64 b1.z, .int .i64 c1.x, .int .i64 c1.y, .int .i64 c1.z]] w0 fun e w' => e = .returned (.agg #[.int .i64 (Lat.red a1 b1 c1).a.x, .int .i64 (Lat.red a1 b1 c1).a.y, .int .i64 (Lat.red a1 b1 c1).a.z, .int .i64 (Lat.red a1 b1 c1).b.x, .int .i64 (Lat.red a1 b1 c1).b.y, .int .i64 (Lat.red a1 b1 c1).b.z, .int .i64 (Lat.red a1 b1 c1).c.x, .int .i64 (Lat.red a1 b1 c1).c.y, .int .i64 (Lat.red a1 b1 c1).c.z]) ∧ Below w0.heap.size w0 w') := fun w0 => by
    obtain ⟨q1, q2, q3, q4, q5, q6, q7, q8, _⟩ := Lat.swept_shape hS.shape hs0 hs1 hs2
    obtain ⟨r1, r2, r3, r4, r5⟩ := Lat.roomR hS hG hv hs0 hs1 hs2
    obtain ⟨o1, o2, o3⟩ := Lat.after1 hS hG hv hs0 hs1
    exact reduced_any a1 b1 c1 w0 q6 q7 q8 r1 q3 q4 o3 o1 r2 r3 r4 r5
  generalize Lat.red a1 b1 c1 = T at *
  have hC' : Hid (Lat.CanonOf T (v :: G)) := hC
  clear hs0 hs1 hs2 hr0 hr1 hr2 hC hS hG hv HT0 HT1 HT2
  go_wp2_with fail
  refine (hR.out _).mono ?_
  rintro e w1 ⟨rfl, hb1⟩
  have kR := kr.below hb1 hl2
  have hB1 := hB.trans (hb1.mono (by omega))
  clear hR ks kv kr hB s0 s1 s2 s3 s4 s5 s6 s7 s8 t0 t1 t2 f0 f1 f2 f3 f4 f5 f6 f7 f8 g0 g1 g2
  obtain ⟨r0, r1, r2, r3, r4, r5, r6, r7, r8⟩ := kR.nine
  obtain ⟨f0, f1, f2, f3, f4, f5, f6, f7, f8⟩ := kR.frozen9
  go_wp2
  exact ret50 rfl (kR.set9 _ _ _ _ _ _ _ _ _) rfl ⟨T, hC'.out, rfl, below_set9 hB1 (by omega) _ _ _ _ _ _ _ _ _⟩

end Go.Proofs.YtmlcblnndihjoaaGreat
