import Derived.Test.YtmlcblnndihjoaaSpanA
namespace Go.Proofs.Ytmlcblnndihjoaa
open Go.RowKit

theorem ret53 {R : Ending → World → Prop} {a : Act} {W : World} {p q : Nat} {x y z x' y' z' : Value}
    (h6 : a.tmps[6]?.getD undef = .pointer (some ⟨p, 0, none⟩)) (h7 : a.tmps[7]?.getD undef = .pointer (some ⟨q, 0, none⟩)) (k6 : Blk W p #[x, y, z] 62) (k7 : Blk W q #[x', y', z'] 62) (hd : a.defers = [])
    (hR : R (.returned (.tuple #[.agg #[x, y, z], .agg #[x', y', z']])) W) : bodyPost Try.prog Try.f93 R .ret a W := by
  obtain ⟨c0, c1, c2⟩ := k6.three
  obtain ⟨d0, d1, d2⟩ := k7.three
  refine bodyPost_ret (v := .tuple #[.agg #[x, y, z], .agg #[x', y', z']]) ?_ hd hR
  simp [results, Try.results93, go_sem, h6, h7, c0, c1, c2, d0, d1, d2]



set_option maxHeartbeats 1000000 in
theorem sweep0 (a b : Lat.V) (w : World) (hr : Lat.Room 0 a b) :
    Calls Try.prog 93 #[.agg #[.int .i64 a.x, .int .i64 a.y, .int .i64 a.z], .agg #[.int .i64 b.x, .int .i64 b.y, .int .i64 b.z], .int .i64 0] w
      fun e w' => ∃ a' b', Lat.Swept 0 a b a' b' ∧ e = .returned (.tuple #[.agg #[.int .i64 a'.x, .int .i64 a'.y, .int .i64 a'.z], .agg #[.int .i64 b'.x, .int .i64 b'.y, .int .i64 b'.z]]) ∧ Below w.heap.size w w' := by
  go_enter Try.func93, Try.ntmps93
  go_wp2
  go_loopg [] (b.x.natAbs) (fun n wr => ∃ a' b' : Lat.V, Lat.Euc 0 a b a' b' ∧ b'.x.natAbs = n ∧
     Blk wr w.heap.size #[.int .i64 a'.x, .int .i64 a'.y, .int .i64 a'.z] 62 ∧ Blk wr (w.heap.size + 1) #[.int .i64 b'.x, .int .i64 b'.y, .int .i64 b'.z] 62 ∧
     Blk wr (w.heap.size + 1 + 1) #[.int .i64 0, .int .i64 0, .int .i64 0] 62 ∧ Blk wr (w.heap.size + 1 + 1 + 1) #[.int .i64 0, .int .i64 0, .int .i64 0] 62 ∧ Below w.heap.size w wr)
  case atStart =>
    refine ⟨a, b, Lat.Euc.start 0 a b, rfl, (((Blk.new w _ _ rfl).alloc _).alloc _).alloc _, ((Blk.new (w.alloc _) _ _ (by simp)).alloc _).alloc _, (Blk.new ((w.alloc _).alloc _) _ _ (by simp)).alloc _, Blk.new (((w.alloc _).alloc _).alloc _) _ _ (by simp), ?_⟩
    go_grown
  case round =>
    obtain ⟨a', b', hE, hn, ba, bb, b6, b7, hB⟩ := hrel
    obtain ⟨ca0, ca1, ca2⟩ := ba.three
    obtain ⟨cb0, cb1, cb2⟩ := bb.three
    by_cases hz : b'.x = 0
    · have hz' : (b'.x != 0) = false := by simpa using hz
      have HE : Hid (Lat.Euc 0 a b a' b') := hE
      have HZ : Hid (b'.x = 0) := hz
      clear hE hn hz
      obtain ⟨c60, c61, c62⟩ := b6.three
      obtain ⟨c70, c71, c72⟩ := b7.three
      have fa0 := ba.frozen 0; have fa1 := ba.frozen 1; have fa2 := ba.frozen 2
      have f60 := b6.frozen 0; have f61 := b6.frozen 1; have f62 := b6.frozen 2
      have f70 := b7.frozen 0; have f71 := b7.frozen 1; have f72 := b7.frozen 2
      by_cases hs : a'.x < 0
      · have hT : ∀ w0, Calls Try.prog 74 #[.agg #[.int .i64 0, .int .i64 0, .int .i64 0], .int .i64 1, .agg #[.int .i64 a'.x, .int .i64 a'.y, .int .i64 a'.z]] w0
          fun e w' => e = .returned (.agg #[.int .i64 (Lat.less ⟨0, 0, 0⟩ 1 a').x, .int .i64 (Lat.less ⟨0, 0, 0⟩ 1 a').y, .int .i64 (Lat.less ⟨0, 0, 0⟩ 1 a').z]) ∧ Below w0.heap.size w0 w' := fun w0 => by
            have e0 := (hr.euc HE.out 0 (by omega)).1; have e1 := (hr.euc HE.out 1 (by omega)).1; have e2 := (hr.euc HE.out 2 (by omega)).1
            simp only [Lat.V.at0, Lat.V.at1, Lat.V.at2, Lat.E] at e0 e1 e2
            exact takeAway_any ⟨0, 0, 0⟩ a' 1 w0 (by simp) (by omega) (by simp) (by omega) (by simp) (by omega)
        obtain ⟨la, hla⟩ : ∃ la, la = Lat.less ⟨0, 0, 0⟩ 1 a' := ⟨_, rfl⟩
        rw [← hla] at hT
        have HL : Hid (la = Lat.less ⟨0, 0, 0⟩ 1 a') := hla
        clear hla
        have hlt := b7.lt
        have hl0 : w.heap.size < wr.heap.size := by omega
        have hl1 : w.heap.size + 1 < wr.heap.size := by omega
        have hl2 : w.heap.size + 1 + 1 < wr.heap.size := by omega
        go_wp2_with fail
        refine (hT _).mono ?_
        rintro e w1 ⟨rfl, hb1⟩
        have ka := ba.below hb1 hl0
        have kb := bb.below hb1 hl1
        have k6 := b6.below hb1 hl2
        have k7 := b7.below hb1 hlt
        clear hT ca0 ca1 ca2 cb0 cb1 cb2 c60 c61 c62 c70 c71 c72 fa0 fa1 fa2 f60 f61 f62 f70 f71 f72
        obtain ⟨ca0, ca1, ca2⟩ := ka.three
        obtain ⟨cb0, cb1, cb2⟩ := kb.three
        obtain ⟨c60, c61, c62⟩ := k6.three
        obtain ⟨c70, c71, c72⟩ := k7.three
        have fa0 := ka.frozen 0; have fa1 := ka.frozen 1; have fa2 := ka.frozen 2
        have f60 := k6.frozen 0; have f61 := k6.frozen 1; have f62 := k6.frozen 2
        have f70 := k7.frozen 0; have f71 := k7.frozen 1; have f72 := k7.frozen 2
        go_wp2
        go_region
        go_wp2
        refine ret53 rfl rfl (((k6.other3 (by omega) _ _ _).set3 _ _ _).other3 (by omega) _ _ _).drew (((k7.other3 (by omega) _ _ _).other3 (by omega) _ _ _).set3 _ _ _).drew rfl ⟨la, b', ?_, rfl, ?_⟩
        · rw [HL.out]; exact Lat.Euc.turned HE.out HZ.out hs
        · exact (below_set3 (below_set3 (below_set3 (hB.trans (hb1.mono (by omega))) (by omega) _ _ _) (by omega) _ _ _) (by omega) _ _ _).drew
      · go_wp2
        go_region
        go_wp2
        refine ret53 rfl rfl ((b6.set3 _ _ _).other3 (by omega) _ _ _).drew ((b7.other3 (by omega) _ _ _).set3 _ _ _).drew rfl ⟨a', b', ?_, rfl, ?_⟩
        · exact Lat.Euc.done HE.out HZ.out hs
        · exact (below_set3 (below_set3 hB (by omega) _ _ _) (by omega) _ _ _).drew
    · have hz' : (b'.x != 0) = true := by simpa using hz
      have HE : Hid (Lat.Euc 0 a b a' b') := hE
      have HN : Hid (b'.x.natAbs = gk) := hn
      clear hE hn
      have hwq : IntKind.i64.wrap (a'.x.tdiv b'.x) = a'.x.tdiv b'.x := by
        rw [IntKind.wrap_i64]
        have e0 := (hr.euc HE.out 0 (by omega)).1
        have e1 : (a'.x.tdiv b'.x).natAbs ≤ a'.x.natAbs := by rw [Int.natAbs_tdiv]; exact Nat.div_le_self _ _
        simp only [Lat.V.at0, Lat.E] at e0
        omega
      have hT : ∀ w0, Calls Try.prog 74 #[.agg #[.int .i64 a'.x, .int .i64 a'.y, .int .i64 a'.z], .int .i64 (a'.x.tdiv b'.x), .agg #[.int .i64 b'.x, .int .i64 b'.y, .int .i64 b'.z]] w0
          fun e w' => e = .returned (.agg #[.int .i64 (Lat.less a' (a'.x.tdiv b'.x) b').x, .int .i64 (Lat.less a' (a'.x.tdiv b'.x) b').y, .int .i64 (Lat.less a' (a'.x.tdiv b'.x) b').z]) ∧ Below w0.heap.size w0 w' := fun w0 => by
        have e0 := (hr.euc HE.out 0 (by omega)).1; have e1 := (hr.euc HE.out 1 (by omega)).1; have e2 := (hr.euc HE.out 2 (by omega)).1
        have t0 := hr.times HE.out hz 0 (by omega); have t1 := hr.times HE.out hz 1 (by omega); have t2 := hr.times HE.out hz 2 (by omega)
        simp only [Lat.V.at0, Lat.V.at1, Lat.V.at2, Lat.E] at e0 e1 e2 t0 t1 t2
        exact takeAway_any a' b' _ w0 (by omega) (by omega) (by omega) (by omega) (by omega) (by omega)
      have hst : Hid (Lat.Euc 0 a b b' (Lat.less a' (a'.x.tdiv b'.x) b')) := HE.out.step hz
      have hms : (Lat.less a' (a'.x.tdiv b'.x) b').x.natAbs < b'.x.natAbs := by
        have : (Lat.less a' (a'.x.tdiv b'.x) b').x = a'.x.tmod b'.x := by
          show a'.x - a'.x.tdiv b'.x * b'.x = _
          rw [Int.tmod_def, Int.mul_comm]
        rw [this, Int.natAbs_tmod]; exact Nat.mod_lt _ (Int.natAbs_pos.2 hz)
      have HM : Hid ((Lat.less a' (a'.x.tdiv b'.x) b').x.natAbs < b'.x.natAbs) := hms
      clear hms
      go_wp2
      have hlt := ba.lt
      have hlt2 := bb.lt
      have hle : w.heap.size ≤ wr.heap.size := by omega
      have hn1 : ¬ w.heap.size = wr.heap.size := by omega
      have hn2 : ¬ wr.heap.size = w.heap.size := by omega
      have hn3 : ¬ w.heap.size + 1 = wr.heap.size := by omega
      have hn4 : ¬ wr.heap.size = w.heap.size + 1 := by omega
      have hle2 : w.heap.size + 1 ≤ wr.heap.size := by omega
      generalize Lat.less a' (a'.x.tdiv b'.x) b' = la at *
      go_cut [8] (fun u8 wc => ∃ p, u8 = .pointer (some ⟨p, 0, none⟩) ∧ wr.heap.size ≤ p ∧ Blk wc p #[.int .i64 la.x, .int .i64 la.y, .int .i64 la.z] 62 ∧ Below wr.heap.size wr wc)
      case first =>
        clear b6 b7
        go_region_held3 (fun w' => w'.cell? ⟨w.heap.size, 0, none⟩ = some (.int .i64 a'.x) ∧ w'.cell? ⟨w.heap.size, 1, none⟩ = some (.int .i64 a'.y) ∧ w'.cell? ⟨w.heap.size, 2, none⟩ = some (.int .i64 a'.z) ∧ w'.cell? ⟨w.heap.size + 1, 0, none⟩ = some (.int .i64 b'.x) ∧ w'.cell? ⟨w.heap.size + 1, 1, none⟩ = some (.int .i64 b'.y) ∧ w'.cell? ⟨w.heap.size + 1, 2, none⟩ = some (.int .i64 b'.z))
          (go_keep)
          ((go_at_call 74; refine (hT _).mono ?_; rintro e w1 ⟨rfl, hb1⟩; obtain ⟨hc1, hf1⟩ := bcell hb1; have hz1 := hb1.size; simp at hz1 hc1 hf1
            have m1 : ¬ w.heap.size = w1.heap.size := by omega
            have m2 : ¬ w1.heap.size = w.heap.size := by omega
            have m3 : ¬ w.heap.size + 1 = w1.heap.size := by omega
            have m4 : ¬ w1.heap.size = w.heap.size + 1 := by omega
            have kA : Blk w1 w.heap.size #[.int .i64 a'.x, .int .i64 a'.y, .int .i64 a'.z] 62 := by first | exact ba.drew.below hb1 (by simp; omega) | exact (ba.alloc _).drew.below hb1 (by simp; omega)
            have kB : Blk w1 (w.heap.size + 1) #[.int .i64 b'.x, .int .i64 b'.y, .int .i64 b'.z] 62 := by first | exact bb.drew.below hb1 (by simp; omega) | exact (bb.alloc _).drew.below hb1 (by simp; omega)
            obtain ⟨k0, k1, k2⟩ := kA.three
            obtain ⟨l0, l1, l2⟩ := kB.three))
        all_goals (go_wp2_with fail)
        all_goals go_meet
        · have q1 : Below wr.heap.size wr w1 := ⟨hb1.os, hb1.tape, hb1.output, hb1.size, hb1.block⟩
          exact ⟨_, rfl, hz1, Blk.new w1 _ _ rfl, q1.alloc hz1 _⟩
        · have q1 := (Blk.new wr #[.int .i64 0, .int .i64 0, .int .i64 0] 62 rfl).drew.below hb1 (by simp)
          have q2 : Below wr.heap.size wr w1 := ((Below.refl wr.heap.size wr).alloc (Nat.le_refl _) _).drew.trans (hb1.mono (by simp))
          exact ⟨_, rfl, Nat.le_refl _, q1.set3 _ _ _, below_set3 q2 (Nat.le_refl _) _ _ _⟩
      case rest =>
        obtain ⟨p, rfl, hp, bp, hB2⟩ := hcut
        have ka := ba.below hB2 hlt
        have kb := bb.below hB2 hlt2
        have k6 := b6.below hB2 b6.lt
        have k7 := b7.below hB2 b7.lt
        clear hT ca0 ca1 ca2 cb0 cb1 cb2
        obtain ⟨ca0, ca1, ca2⟩ := ka.three
        obtain ⟨cb0, cb1, cb2⟩ := kb.three
        obtain ⟨cp0, cp1, cp2⟩ := bp.three
        have fa0 := ka.frozen 0; have fa1 := ka.frozen 1; have fa2 := ka.frozen 2
        have fb0 := kb.frozen 0; have fb1 := kb.frozen 1; have fb2 := kb.frozen 2
        have n1 : ¬ p = w.heap.size := by omega
        have n2 : ¬ w.heap.size = p := by omega
        have n3 : ¬ p = w.heap.size + 1 := by omega
        have n4 : ¬ w.heap.size + 1 = p := by omega
        go_wp2
        go_roundg (la.x.natAbs)
        case measure => rw [← HN.out]; exact HM.out
        case rel =>
          exact ⟨b', la, hst.out, rfl, (ka.set3 _ _ _).other3 (by omega) _ _ _, (kb.other3 (by omega) _ _ _).set3 _ _ _, (k6.other3 (by omega) _ _ _).other3 (by omega) _ _ _, (k7.other3 (by omega) _ _ _).other3 (by omega) _ _ _,
            below_set3 (below_set3 (hB.trans (hB2.mono hle)) (Nat.le_refl _) _ _ _) (by omega) _ _ _⟩


set_option maxHeartbeats 1000000 in
theorem sweep1 (a b : Lat.V) (w : World) (hr : Lat.Room 1 a b) :
    Calls Try.prog 93 #[.agg #[.int .i64 a.x, .int .i64 a.y, .int .i64 a.z], .agg #[.int .i64 b.x, .int .i64 b.y, .int .i64 b.z], .int .i64 1] w
      fun e w' => ∃ a' b', Lat.Swept 1 a b a' b' ∧ e = .returned (.tuple #[.agg #[.int .i64 a'.x, .int .i64 a'.y, .int .i64 a'.z], .agg #[.int .i64 b'.x, .int .i64 b'.y, .int .i64 b'.z]]) ∧ Below w.heap.size w w' := by
  go_enter Try.func93, Try.ntmps93
  go_wp2
  go_loopg [] (b.y.natAbs) (fun n wr => ∃ a' b' : Lat.V, Lat.Euc 1 a b a' b' ∧ b'.y.natAbs = n ∧
     Blk wr w.heap.size #[.int .i64 a'.x, .int .i64 a'.y, .int .i64 a'.z] 62 ∧ Blk wr (w.heap.size + 1) #[.int .i64 b'.x, .int .i64 b'.y, .int .i64 b'.z] 62 ∧
     Blk wr (w.heap.size + 1 + 1) #[.int .i64 0, .int .i64 0, .int .i64 0] 62 ∧ Blk wr (w.heap.size + 1 + 1 + 1) #[.int .i64 0, .int .i64 0, .int .i64 0] 62 ∧ Below w.heap.size w wr)
  case atStart =>
    refine ⟨a, b, Lat.Euc.start 1 a b, rfl, (((Blk.new w _ _ rfl).alloc _).alloc _).alloc _, ((Blk.new (w.alloc _) _ _ (by simp)).alloc _).alloc _, (Blk.new ((w.alloc _).alloc _) _ _ (by simp)).alloc _, Blk.new (((w.alloc _).alloc _).alloc _) _ _ (by simp), ?_⟩
    go_grown
  case round =>
    obtain ⟨a', b', hE, hn, ba, bb, b6, b7, hB⟩ := hrel
    obtain ⟨ca0, ca1, ca2⟩ := ba.three
    obtain ⟨cb0, cb1, cb2⟩ := bb.three
    by_cases hz : b'.y = 0
    · have hz' : (b'.y != 0) = false := by simpa using hz
      have HE : Hid (Lat.Euc 1 a b a' b') := hE
      have HZ : Hid (b'.y = 0) := hz
      clear hE hn hz
      obtain ⟨c60, c61, c62⟩ := b6.three
      obtain ⟨c70, c71, c72⟩ := b7.three
      have fa0 := ba.frozen 0; have fa1 := ba.frozen 1; have fa2 := ba.frozen 2
      have f60 := b6.frozen 0; have f61 := b6.frozen 1; have f62 := b6.frozen 2
      have f70 := b7.frozen 0; have f71 := b7.frozen 1; have f72 := b7.frozen 2
      by_cases hs : a'.y < 0
      · have hT : ∀ w0, Calls Try.prog 74 #[.agg #[.int .i64 0, .int .i64 0, .int .i64 0], .int .i64 1, .agg #[.int .i64 a'.x, .int .i64 a'.y, .int .i64 a'.z]] w0
          fun e w' => e = .returned (.agg #[.int .i64 (Lat.less ⟨0, 0, 0⟩ 1 a').x, .int .i64 (Lat.less ⟨0, 0, 0⟩ 1 a').y, .int .i64 (Lat.less ⟨0, 0, 0⟩ 1 a').z]) ∧ Below w0.heap.size w0 w' := fun w0 => by
            have e0 := (hr.euc HE.out 0 (by omega)).1; have e1 := (hr.euc HE.out 1 (by omega)).1; have e2 := (hr.euc HE.out 2 (by omega)).1
            simp only [Lat.V.at0, Lat.V.at1, Lat.V.at2, Lat.E] at e0 e1 e2
            exact takeAway_any ⟨0, 0, 0⟩ a' 1 w0 (by simp) (by omega) (by simp) (by omega) (by simp) (by omega)
        obtain ⟨la, hla⟩ : ∃ la, la = Lat.less ⟨0, 0, 0⟩ 1 a' := ⟨_, rfl⟩
        rw [← hla] at hT
        have HL : Hid (la = Lat.less ⟨0, 0, 0⟩ 1 a') := hla
        clear hla
        have hlt := b7.lt
        have hl0 : w.heap.size < wr.heap.size := by omega
        have hl1 : w.heap.size + 1 < wr.heap.size := by omega
        have hl2 : w.heap.size + 1 + 1 < wr.heap.size := by omega
        go_wp2_with fail
        refine (hT _).mono ?_
        rintro e w1 ⟨rfl, hb1⟩
        have ka := ba.below hb1 hl0
        have kb := bb.below hb1 hl1
        have k6 := b6.below hb1 hl2
        have k7 := b7.below hb1 hlt
        clear hT ca0 ca1 ca2 cb0 cb1 cb2 c60 c61 c62 c70 c71 c72 fa0 fa1 fa2 f60 f61 f62 f70 f71 f72
        obtain ⟨ca0, ca1, ca2⟩ := ka.three
        obtain ⟨cb0, cb1, cb2⟩ := kb.three
        obtain ⟨c60, c61, c62⟩ := k6.three
        obtain ⟨c70, c71, c72⟩ := k7.three
        have fa0 := ka.frozen 0; have fa1 := ka.frozen 1; have fa2 := ka.frozen 2
        have f60 := k6.frozen 0; have f61 := k6.frozen 1; have f62 := k6.frozen 2
        have f70 := k7.frozen 0; have f71 := k7.frozen 1; have f72 := k7.frozen 2
        go_wp2
        go_region
        go_wp2
        refine ret53 rfl rfl (((k6.other3 (by omega) _ _ _).set3 _ _ _).other3 (by omega) _ _ _).drew (((k7.other3 (by omega) _ _ _).other3 (by omega) _ _ _).set3 _ _ _).drew rfl ⟨la, b', ?_, rfl, ?_⟩
        · rw [HL.out]; exact Lat.Euc.turned HE.out HZ.out hs
        · exact (below_set3 (below_set3 (below_set3 (hB.trans (hb1.mono (by omega))) (by omega) _ _ _) (by omega) _ _ _) (by omega) _ _ _).drew
      · go_wp2
        go_region
        go_wp2
        refine ret53 rfl rfl ((b6.set3 _ _ _).other3 (by omega) _ _ _).drew ((b7.other3 (by omega) _ _ _).set3 _ _ _).drew rfl ⟨a', b', ?_, rfl, ?_⟩
        · exact Lat.Euc.done HE.out HZ.out hs
        · exact (below_set3 (below_set3 hB (by omega) _ _ _) (by omega) _ _ _).drew
    · have hz' : (b'.y != 0) = true := by simpa using hz
      have HE : Hid (Lat.Euc 1 a b a' b') := hE
      have HN : Hid (b'.y.natAbs = gk) := hn
      clear hE hn
      have hwq : IntKind.i64.wrap (a'.y.tdiv b'.y) = a'.y.tdiv b'.y := by
        rw [IntKind.wrap_i64]
        have e0 := (hr.euc HE.out 1 (by omega)).1
        have e1 : (a'.y.tdiv b'.y).natAbs ≤ a'.y.natAbs := by rw [Int.natAbs_tdiv]; exact Nat.div_le_self _ _
        simp only [Lat.V.at1, Lat.E] at e0
        omega
      have hT : ∀ w0, Calls Try.prog 74 #[.agg #[.int .i64 a'.x, .int .i64 a'.y, .int .i64 a'.z], .int .i64 (a'.y.tdiv b'.y), .agg #[.int .i64 b'.x, .int .i64 b'.y, .int .i64 b'.z]] w0
          fun e w' => e = .returned (.agg #[.int .i64 (Lat.less a' (a'.y.tdiv b'.y) b').x, .int .i64 (Lat.less a' (a'.y.tdiv b'.y) b').y, .int .i64 (Lat.less a' (a'.y.tdiv b'.y) b').z]) ∧ Below w0.heap.size w0 w' := fun w0 => by
        have e0 := (hr.euc HE.out 0 (by omega)).1; have e1 := (hr.euc HE.out 1 (by omega)).1; have e2 := (hr.euc HE.out 2 (by omega)).1
        have t0 := hr.times HE.out hz 0 (by omega); have t1 := hr.times HE.out hz 1 (by omega); have t2 := hr.times HE.out hz 2 (by omega)
        simp only [Lat.V.at0, Lat.V.at1, Lat.V.at2, Lat.E] at e0 e1 e2 t0 t1 t2
        exact takeAway_any a' b' _ w0 (by omega) (by omega) (by omega) (by omega) (by omega) (by omega)
      have hst : Hid (Lat.Euc 1 a b b' (Lat.less a' (a'.y.tdiv b'.y) b')) := HE.out.step hz
      have hms : (Lat.less a' (a'.y.tdiv b'.y) b').y.natAbs < b'.y.natAbs := by
        have : (Lat.less a' (a'.y.tdiv b'.y) b').y = a'.y.tmod b'.y := by
          show a'.y - a'.y.tdiv b'.y * b'.y = _
          rw [Int.tmod_def, Int.mul_comm]
        rw [this, Int.natAbs_tmod]; exact Nat.mod_lt _ (Int.natAbs_pos.2 hz)
      have HM : Hid ((Lat.less a' (a'.y.tdiv b'.y) b').y.natAbs < b'.y.natAbs) := hms
      clear hms
      go_wp2
      have hlt := ba.lt
      have hlt2 := bb.lt
      have hle : w.heap.size ≤ wr.heap.size := by omega
      have hn1 : ¬ w.heap.size = wr.heap.size := by omega
      have hn2 : ¬ wr.heap.size = w.heap.size := by omega
      have hn3 : ¬ w.heap.size + 1 = wr.heap.size := by omega
      have hn4 : ¬ wr.heap.size = w.heap.size + 1 := by omega
      have hle2 : w.heap.size + 1 ≤ wr.heap.size := by omega
      generalize Lat.less a' (a'.y.tdiv b'.y) b' = la at *
      go_cut [8] (fun u8 wc => ∃ p, u8 = .pointer (some ⟨p, 0, none⟩) ∧ wr.heap.size ≤ p ∧ Blk wc p #[.int .i64 la.x, .int .i64 la.y, .int .i64 la.z] 62 ∧ Below wr.heap.size wr wc)
      case first =>
        clear b6 b7
        go_region_held3 (fun w' => w'.cell? ⟨w.heap.size, 0, none⟩ = some (.int .i64 a'.x) ∧ w'.cell? ⟨w.heap.size, 1, none⟩ = some (.int .i64 a'.y) ∧ w'.cell? ⟨w.heap.size, 2, none⟩ = some (.int .i64 a'.z) ∧ w'.cell? ⟨w.heap.size + 1, 0, none⟩ = some (.int .i64 b'.x) ∧ w'.cell? ⟨w.heap.size + 1, 1, none⟩ = some (.int .i64 b'.y) ∧ w'.cell? ⟨w.heap.size + 1, 2, none⟩ = some (.int .i64 b'.z))
          (go_keep)
          ((go_at_call 74; refine (hT _).mono ?_; rintro e w1 ⟨rfl, hb1⟩; obtain ⟨hc1, hf1⟩ := bcell hb1; have hz1 := hb1.size; simp at hz1 hc1 hf1
            have m1 : ¬ w.heap.size = w1.heap.size := by omega
            have m2 : ¬ w1.heap.size = w.heap.size := by omega
            have m3 : ¬ w.heap.size + 1 = w1.heap.size := by omega
            have m4 : ¬ w1.heap.size = w.heap.size + 1 := by omega
            have kA : Blk w1 w.heap.size #[.int .i64 a'.x, .int .i64 a'.y, .int .i64 a'.z] 62 := by first | exact ba.drew.below hb1 (by simp; omega) | exact (ba.alloc _).drew.below hb1 (by simp; omega)
            have kB : Blk w1 (w.heap.size + 1) #[.int .i64 b'.x, .int .i64 b'.y, .int .i64 b'.z] 62 := by first | exact bb.drew.below hb1 (by simp; omega) | exact (bb.alloc _).drew.below hb1 (by simp; omega)
            obtain ⟨k0, k1, k2⟩ := kA.three
            obtain ⟨l0, l1, l2⟩ := kB.three))
        all_goals (go_wp2_with fail)
        all_goals go_meet
        · have q1 : Below wr.heap.size wr w1 := ⟨hb1.os, hb1.tape, hb1.output, hb1.size, hb1.block⟩
          exact ⟨_, rfl, hz1, Blk.new w1 _ _ rfl, q1.alloc hz1 _⟩
        · have q1 := (Blk.new wr #[.int .i64 0, .int .i64 0, .int .i64 0] 62 rfl).drew.below hb1 (by simp)
          have q2 : Below wr.heap.size wr w1 := ((Below.refl wr.heap.size wr).alloc (Nat.le_refl _) _).drew.trans (hb1.mono (by simp))
          exact ⟨_, rfl, Nat.le_refl _, q1.set3 _ _ _, below_set3 q2 (Nat.le_refl _) _ _ _⟩
      case rest =>
        obtain ⟨p, rfl, hp, bp, hB2⟩ := hcut
        have ka := ba.below hB2 hlt
        have kb := bb.below hB2 hlt2
        have k6 := b6.below hB2 b6.lt
        have k7 := b7.below hB2 b7.lt
        clear hT ca0 ca1 ca2 cb0 cb1 cb2
        obtain ⟨ca0, ca1, ca2⟩ := ka.three
        obtain ⟨cb0, cb1, cb2⟩ := kb.three
        obtain ⟨cp0, cp1, cp2⟩ := bp.three
        have fa0 := ka.frozen 0; have fa1 := ka.frozen 1; have fa2 := ka.frozen 2
        have fb0 := kb.frozen 0; have fb1 := kb.frozen 1; have fb2 := kb.frozen 2
        have n1 : ¬ p = w.heap.size := by omega
        have n2 : ¬ w.heap.size = p := by omega
        have n3 : ¬ p = w.heap.size + 1 := by omega
        have n4 : ¬ w.heap.size + 1 = p := by omega
        go_wp2
        go_roundg (la.y.natAbs)
        case measure => rw [← HN.out]; exact HM.out
        case rel =>
          exact ⟨b', la, hst.out, rfl, (ka.set3 _ _ _).other3 (by omega) _ _ _, (kb.other3 (by omega) _ _ _).set3 _ _ _, (k6.other3 (by omega) _ _ _).other3 (by omega) _ _ _, (k7.other3 (by omega) _ _ _).other3 (by omega) _ _ _,
            below_set3 (below_set3 (hB.trans (hB2.mono hle)) (Nat.le_refl _) _ _ _) (by omega) _ _ _⟩


set_option maxHeartbeats 1000000 in
theorem sweep2 (a b : Lat.V) (w : World) (hr : Lat.Room 2 a b) :
    Calls Try.prog 93 #[.agg #[.int .i64 a.x, .int .i64 a.y, .int .i64 a.z], .agg #[.int .i64 b.x, .int .i64 b.y, .int .i64 b.z], .int .i64 2] w
      fun e w' => ∃ a' b', Lat.Swept 2 a b a' b' ∧ e = .returned (.tuple #[.agg #[.int .i64 a'.x, .int .i64 a'.y, .int .i64 a'.z], .agg #[.int .i64 b'.x, .int .i64 b'.y, .int .i64 b'.z]]) ∧ Below w.heap.size w w' := by
  go_enter Try.func93, Try.ntmps93
  go_wp2
  go_loopg [] (b.z.natAbs) (fun n wr => ∃ a' b' : Lat.V, Lat.Euc 2 a b a' b' ∧ b'.z.natAbs = n ∧
     Blk wr w.heap.size #[.int .i64 a'.x, .int .i64 a'.y, .int .i64 a'.z] 62 ∧ Blk wr (w.heap.size + 1) #[.int .i64 b'.x, .int .i64 b'.y, .int .i64 b'.z] 62 ∧
     Blk wr (w.heap.size + 1 + 1) #[.int .i64 0, .int .i64 0, .int .i64 0] 62 ∧ Blk wr (w.heap.size + 1 + 1 + 1) #[.int .i64 0, .int .i64 0, .int .i64 0] 62 ∧ Below w.heap.size w wr)
  case atStart =>
    refine ⟨a, b, Lat.Euc.start 2 a b, rfl, (((Blk.new w _ _ rfl).alloc _).alloc _).alloc _, ((Blk.new (w.alloc _) _ _ (by simp)).alloc _).alloc _, (Blk.new ((w.alloc _).alloc _) _ _ (by simp)).alloc _, Blk.new (((w.alloc _).alloc _).alloc _) _ _ (by simp), ?_⟩
    go_grown
  case round =>
    obtain ⟨a', b', hE, hn, ba, bb, b6, b7, hB⟩ := hrel
    obtain ⟨ca0, ca1, ca2⟩ := ba.three
    obtain ⟨cb0, cb1, cb2⟩ := bb.three
    by_cases hz : b'.z = 0
    · have hz' : (b'.z != 0) = false := by simpa using hz
      have HE : Hid (Lat.Euc 2 a b a' b') := hE
      have HZ : Hid (b'.z = 0) := hz
      clear hE hn hz
      obtain ⟨c60, c61, c62⟩ := b6.three
      obtain ⟨c70, c71, c72⟩ := b7.three
      have fa0 := ba.frozen 0; have fa1 := ba.frozen 1; have fa2 := ba.frozen 2
      have f60 := b6.frozen 0; have f61 := b6.frozen 1; have f62 := b6.frozen 2
      have f70 := b7.frozen 0; have f71 := b7.frozen 1; have f72 := b7.frozen 2
      by_cases hs : a'.z < 0
      · have hT : ∀ w0, Calls Try.prog 74 #[.agg #[.int .i64 0, .int .i64 0, .int .i64 0], .int .i64 1, .agg #[.int .i64 a'.x, .int .i64 a'.y, .int .i64 a'.z]] w0
          fun e w' => e = .returned (.agg #[.int .i64 (Lat.less ⟨0, 0, 0⟩ 1 a').x, .int .i64 (Lat.less ⟨0, 0, 0⟩ 1 a').y, .int .i64 (Lat.less ⟨0, 0, 0⟩ 1 a').z]) ∧ Below w0.heap.size w0 w' := fun w0 => by
            have e0 := (hr.euc HE.out 0 (by omega)).1; have e1 := (hr.euc HE.out 1 (by omega)).1; have e2 := (hr.euc HE.out 2 (by omega)).1
            simp only [Lat.V.at0, Lat.V.at1, Lat.V.at2, Lat.E] at e0 e1 e2
            exact takeAway_any ⟨0, 0, 0⟩ a' 1 w0 (by simp) (by omega) (by simp) (by omega) (by simp) (by omega)
        obtain ⟨la, hla⟩ : ∃ la, la = Lat.less ⟨0, 0, 0⟩ 1 a' := ⟨_, rfl⟩
        rw [← hla] at hT
        have HL : Hid (la = Lat.less ⟨0, 0, 0⟩ 1 a') := hla
        clear hla
        have hlt := b7.lt
        have hl0 : w.heap.size < wr.heap.size := by omega
        have hl1 : w.heap.size + 1 < wr.heap.size := by omega
        have hl2 : w.heap.size + 1 + 1 < wr.heap.size := by omega
        go_wp2_with fail
        refine (hT _).mono ?_
        rintro e w1 ⟨rfl, hb1⟩
        have ka := ba.below hb1 hl0
        have kb := bb.below hb1 hl1
        have k6 := b6.below hb1 hl2
        have k7 := b7.below hb1 hlt
        clear hT ca0 ca1 ca2 cb0 cb1 cb2 c60 c61 c62 c70 c71 c72 fa0 fa1 fa2 f60 f61 f62 f70 f71 f72
        obtain ⟨ca0, ca1, ca2⟩ := ka.three
        obtain ⟨cb0, cb1, cb2⟩ := kb.three
        obtain ⟨c60, c61, c62⟩ := k6.three
        obtain ⟨c70, c71, c72⟩ := k7.three
        have fa0 := ka.frozen 0; have fa1 := ka.frozen 1; have fa2 := ka.frozen 2
        have f60 := k6.frozen 0; have f61 := k6.frozen 1; have f62 := k6.frozen 2
        have f70 := k7.frozen 0; have f71 := k7.frozen 1; have f72 := k7.frozen 2
        go_wp2
        go_region
        go_wp2
        refine ret53 rfl rfl (((k6.other3 (by omega) _ _ _).set3 _ _ _).other3 (by omega) _ _ _).drew (((k7.other3 (by omega) _ _ _).other3 (by omega) _ _ _).set3 _ _ _).drew rfl ⟨la, b', ?_, rfl, ?_⟩
        · rw [HL.out]; exact Lat.Euc.turned HE.out HZ.out hs
        · exact (below_set3 (below_set3 (below_set3 (hB.trans (hb1.mono (by omega))) (by omega) _ _ _) (by omega) _ _ _) (by omega) _ _ _).drew
      · go_wp2
        go_region
        go_wp2
        refine ret53 rfl rfl ((b6.set3 _ _ _).other3 (by omega) _ _ _).drew ((b7.other3 (by omega) _ _ _).set3 _ _ _).drew rfl ⟨a', b', ?_, rfl, ?_⟩
        · exact Lat.Euc.done HE.out HZ.out hs
        · exact (below_set3 (below_set3 hB (by omega) _ _ _) (by omega) _ _ _).drew
    · have hz' : (b'.z != 0) = true := by simpa using hz
      have HE : Hid (Lat.Euc 2 a b a' b') := hE
      have HN : Hid (b'.z.natAbs = gk) := hn
      clear hE hn
      have hwq : IntKind.i64.wrap (a'.z.tdiv b'.z) = a'.z.tdiv b'.z := by
        rw [IntKind.wrap_i64]
        have e0 := (hr.euc HE.out 2 (by omega)).1
        have e1 : (a'.z.tdiv b'.z).natAbs ≤ a'.z.natAbs := by rw [Int.natAbs_tdiv]; exact Nat.div_le_self _ _
        simp only [Lat.V.at2, Lat.E] at e0
        omega
      have hT : ∀ w0, Calls Try.prog 74 #[.agg #[.int .i64 a'.x, .int .i64 a'.y, .int .i64 a'.z], .int .i64 (a'.z.tdiv b'.z), .agg #[.int .i64 b'.x, .int .i64 b'.y, .int .i64 b'.z]] w0
          fun e w' => e = .returned (.agg #[.int .i64 (Lat.less a' (a'.z.tdiv b'.z) b').x, .int .i64 (Lat.less a' (a'.z.tdiv b'.z) b').y, .int .i64 (Lat.less a' (a'.z.tdiv b'.z) b').z]) ∧ Below w0.heap.size w0 w' := fun w0 => by
        have e0 := (hr.euc HE.out 0 (by omega)).1; have e1 := (hr.euc HE.out 1 (by omega)).1; have e2 := (hr.euc HE.out 2 (by omega)).1
        have t0 := hr.times HE.out hz 0 (by omega); have t1 := hr.times HE.out hz 1 (by omega); have t2 := hr.times HE.out hz 2 (by omega)
        simp only [Lat.V.at0, Lat.V.at1, Lat.V.at2, Lat.E] at e0 e1 e2 t0 t1 t2
        exact takeAway_any a' b' _ w0 (by omega) (by omega) (by omega) (by omega) (by omega) (by omega)
      have hst : Hid (Lat.Euc 2 a b b' (Lat.less a' (a'.z.tdiv b'.z) b')) := HE.out.step hz
      have hms : (Lat.less a' (a'.z.tdiv b'.z) b').z.natAbs < b'.z.natAbs := by
        have : (Lat.less a' (a'.z.tdiv b'.z) b').z = a'.z.tmod b'.z := by
          show a'.z - a'.z.tdiv b'.z * b'.z = _
          rw [Int.tmod_def, Int.mul_comm]
        rw [this, Int.natAbs_tmod]; exact Nat.mod_lt _ (Int.natAbs_pos.2 hz)
      have HM : Hid ((Lat.less a' (a'.z.tdiv b'.z) b').z.natAbs < b'.z.natAbs) := hms
      clear hms
      go_wp2
      have hlt := ba.lt
      have hlt2 := bb.lt
      have hle : w.heap.size ≤ wr.heap.size := by omega
      have hn1 : ¬ w.heap.size = wr.heap.size := by omega
      have hn2 : ¬ wr.heap.size = w.heap.size := by omega
      have hn3 : ¬ w.heap.size + 1 = wr.heap.size := by omega
      have hn4 : ¬ wr.heap.size = w.heap.size + 1 := by omega
      have hle2 : w.heap.size + 1 ≤ wr.heap.size := by omega
      generalize Lat.less a' (a'.z.tdiv b'.z) b' = la at *
      go_cut [8] (fun u8 wc => ∃ p, u8 = .pointer (some ⟨p, 0, none⟩) ∧ wr.heap.size ≤ p ∧ Blk wc p #[.int .i64 la.x, .int .i64 la.y, .int .i64 la.z] 62 ∧ Below wr.heap.size wr wc)
      case first =>
        clear b6 b7
        go_region_held3 (fun w' => w'.cell? ⟨w.heap.size, 0, none⟩ = some (.int .i64 a'.x) ∧ w'.cell? ⟨w.heap.size, 1, none⟩ = some (.int .i64 a'.y) ∧ w'.cell? ⟨w.heap.size, 2, none⟩ = some (.int .i64 a'.z) ∧ w'.cell? ⟨w.heap.size + 1, 0, none⟩ = some (.int .i64 b'.x) ∧ w'.cell? ⟨w.heap.size + 1, 1, none⟩ = some (.int .i64 b'.y) ∧ w'.cell? ⟨w.heap.size + 1, 2, none⟩ = some (.int .i64 b'.z))
          (go_keep)
          ((go_at_call 74; refine (hT _).mono ?_; rintro e w1 ⟨rfl, hb1⟩; obtain ⟨hc1, hf1⟩ := bcell hb1; have hz1 := hb1.size; simp at hz1 hc1 hf1
            have m1 : ¬ w.heap.size = w1.heap.size := by omega
            have m2 : ¬ w1.heap.size = w.heap.size := by omega
            have m3 : ¬ w.heap.size + 1 = w1.heap.size := by omega
            have m4 : ¬ w1.heap.size = w.heap.size + 1 := by omega
            have kA : Blk w1 w.heap.size #[.int .i64 a'.x, .int .i64 a'.y, .int .i64 a'.z] 62 := by first | exact ba.drew.below hb1 (by simp; omega) | exact (ba.alloc _).drew.below hb1 (by simp; omega)
            have kB : Blk w1 (w.heap.size + 1) #[.int .i64 b'.x, .int .i64 b'.y, .int .i64 b'.z] 62 := by first | exact bb.drew.below hb1 (by simp; omega) | exact (bb.alloc _).drew.below hb1 (by simp; omega)
            obtain ⟨k0, k1, k2⟩ := kA.three
            obtain ⟨l0, l1, l2⟩ := kB.three))
        all_goals (go_wp2_with fail)
        all_goals go_meet
        · have q1 : Below wr.heap.size wr w1 := ⟨hb1.os, hb1.tape, hb1.output, hb1.size, hb1.block⟩
          exact ⟨_, rfl, hz1, Blk.new w1 _ _ rfl, q1.alloc hz1 _⟩
        · have q1 := (Blk.new wr #[.int .i64 0, .int .i64 0, .int .i64 0] 62 rfl).drew.below hb1 (by simp)
          have q2 : Below wr.heap.size wr w1 := ((Below.refl wr.heap.size wr).alloc (Nat.le_refl _) _).drew.trans (hb1.mono (by simp))
          exact ⟨_, rfl, Nat.le_refl _, q1.set3 _ _ _, below_set3 q2 (Nat.le_refl _) _ _ _⟩
      case rest =>
        obtain ⟨p, rfl, hp, bp, hB2⟩ := hcut
        have ka := ba.below hB2 hlt
        have kb := bb.below hB2 hlt2
        have k6 := b6.below hB2 b6.lt
        have k7 := b7.below hB2 b7.lt
        clear hT ca0 ca1 ca2 cb0 cb1 cb2
        obtain ⟨ca0, ca1, ca2⟩ := ka.three
        obtain ⟨cb0, cb1, cb2⟩ := kb.three
        obtain ⟨cp0, cp1, cp2⟩ := bp.three
        have fa0 := ka.frozen 0; have fa1 := ka.frozen 1; have fa2 := ka.frozen 2
        have fb0 := kb.frozen 0; have fb1 := kb.frozen 1; have fb2 := kb.frozen 2
        have n1 : ¬ p = w.heap.size := by omega
        have n2 : ¬ w.heap.size = p := by omega
        have n3 : ¬ p = w.heap.size + 1 := by omega
        have n4 : ¬ w.heap.size + 1 = p := by omega
        go_wp2
        go_roundg (la.z.natAbs)
        case measure => rw [← HN.out]; exact HM.out
        case rel =>
          exact ⟨b', la, hst.out, rfl, (ka.set3 _ _ _).other3 (by omega) _ _ _, (kb.other3 (by omega) _ _ _).set3 _ _ _, (k6.other3 (by omega) _ _ _).other3 (by omega) _ _ _, (k7.other3 (by omega) _ _ _).other3 (by omega) _ _ _,
            below_set3 (below_set3 (hB.trans (hB2.mono hle)) (Nat.le_refl _) _ _ _) (by omega) _ _ _⟩


end Go.Proofs.Ytmlcblnndihjoaa
