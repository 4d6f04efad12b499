import Derived.Test.YtmlcblnndihjoaaSpanB
import Derived.Deep.CutBlock
namespace Go.Proofs.Ytmlcblnndihjoaa
open Go.RowKit


theorem Blk.nine {w : World} {b : Nat} {x0 x1 x2 x3 x4 x5 x6 x7 x8 : Value} {T : TypeId} (h : Blk w b #[x0, x1, x2, x3, x4, x5, x6, x7, x8] T) :
    w.cell? ⟨b, 0, none⟩ = some x0 ∧ w.cell? ⟨b, 1, none⟩ = some x1 ∧ w.cell? ⟨b, 2, none⟩ = some x2 ∧ w.cell? ⟨b, 3, none⟩ = some x3 ∧ w.cell? ⟨b, 4, none⟩ = some x4 ∧ w.cell? ⟨b, 5, none⟩ = some x5 ∧ w.cell? ⟨b, 6, none⟩ = some x6 ∧ w.cell? ⟨b, 7, none⟩ = some x7 ∧ w.cell? ⟨b, 8, none⟩ = some x8 :=
  ⟨h.cell 0, h.cell 1, h.cell 2, h.cell 3, h.cell 4, h.cell 5, h.cell 6, h.cell 7, h.cell 8⟩

theorem Blk.frozen9 {w : World} {b : Nat} {cs : Array Value} {T : TypeId} (h : Blk w b cs T) : 
    w.frozen? ⟨b, 0, none⟩ = false ∧ w.frozen? ⟨b, 1, none⟩ = false ∧ w.frozen? ⟨b, 2, none⟩ = false ∧ w.frozen? ⟨b, 3, none⟩ = false ∧ w.frozen? ⟨b, 4, none⟩ = false ∧ w.frozen? ⟨b, 5, none⟩ = false ∧ w.frozen? ⟨b, 6, none⟩ = false ∧ w.frozen? ⟨b, 7, none⟩ = false ∧ w.frozen? ⟨b, 8, none⟩ = false :=
  ⟨h.frozen 0, h.frozen 1, h.frozen 2, h.frozen 3, h.frozen 4, h.frozen 5, h.frozen 6, h.frozen 7, h.frozen 8⟩



theorem Blk.drewN {w : World} {b : Nat} {cs : Array Value} {T : TypeId} (h : Blk w b cs T) {n : Nat} : Blk (w.drewN n) b cs T := h
theorem below_drewN {B : Nat} {a w : World} {n : Nat} (h : Below B a w) : Below B a (w.drewN n) := ⟨h.os, h.tape, h.output, h.size, h.block⟩

theorem Blk.set9 {w : World} {b : Nat} {x0 x1 x2 x3 x4 x5 x6 x7 x8 : Value} {T : TypeId} (h : Blk w b #[x0, x1, x2, x3, x4, x5, x6, x7, x8] T) (y0 y1 y2 y3 y4 y5 y6 y7 y8 : Value) : Blk (((((((((w.setCell ⟨b, 0, none⟩ y0).setCell ⟨b, 1, none⟩ y1).setCell ⟨b, 2, none⟩ y2).setCell ⟨b, 3, none⟩ y3).setCell ⟨b, 4, none⟩ y4).setCell ⟨b, 5, none⟩ y5).setCell ⟨b, 6, none⟩ y6).setCell ⟨b, 7, none⟩ y7).setCell ⟨b, 8, none⟩ y8) b #[y0, y1, y2, y3, y4, y5, y6, y7, y8] T := by
  have := (((((((((h.set 0 y0).set 1 y1).set 2 y2).set 3 y3).set 4 y4).set 5 y5).set 6 y6).set 7 y7).set 8 y8); simpa using this
theorem below_set9 {B b : Nat} {a w : World} (h : Below B a w) (hb : B ≤ b) (y0 y1 y2 y3 y4 y5 y6 y7 y8 : Value) : Below B a (((((((((w.setCell ⟨b, 0, none⟩ y0).setCell ⟨b, 1, none⟩ y1).setCell ⟨b, 2, none⟩ y2).setCell ⟨b, 3, none⟩ y3).setCell ⟨b, 4, none⟩ y4).setCell ⟨b, 5, none⟩ y5).setCell ⟨b, 6, none⟩ y6).setCell ⟨b, 7, none⟩ y7).setCell ⟨b, 8, none⟩ y8) :=
  (((((((((h.setCell (p := ⟨b, 0, none⟩) hb y0).setCell (p := ⟨b, 1, none⟩) hb y1).setCell (p := ⟨b, 2, none⟩) hb y2).setCell (p := ⟨b, 3, none⟩) hb y3).setCell (p := ⟨b, 4, none⟩) hb y4).setCell (p := ⟨b, 5, none⟩) hb y5).setCell (p := ⟨b, 6, none⟩) hb y6).setCell (p := ⟨b, 7, none⟩) hb y7).setCell (p := ⟨b, 8, none⟩) hb y8)

theorem ret54 {R : Ending → World → Prop} {a : Act} {W : World} {p : Nat} {x0 x1 x2 x3 x4 x5 x6 x7 x8 : Value}
    (h : a.tmps[2]?.getD undef = .pointer (some ⟨p, 0, none⟩)) (k : Blk W p #[x0, x1, x2, x3, x4, x5, x6, x7, x8] 65) (hd : a.defers = [])
    (hR : R (.returned (.agg #[x0, x1, x2, x3, x4, x5, x6, x7, x8])) W) : bodyPost Try.prog Try.f94 R .ret a W := by
  obtain ⟨c0, c1, c2, c3, c4, c5, c6, c7, c8⟩ := k.nine
  refine bodyPost_ret (v := .agg #[x0, x1, x2, x3, x4, x5, x6, x7, x8]) ?_ hd hR
  simp [results, Try.results94, go_sem, h, c0, c1, c2, c3, c4, c5, c6, c7, c8]

set_option maxHeartbeats 2000000 in
theorem reduced_any (a b c : Lat.V) (w : World) (cx : c.x = 0) (cy : c.y = 0) (cz : 0 ≤ c.z) (cE : c.z.natAbs ≤ Lat.E) (bx : b.x = 0) (hby : 0 ≤ b.y) (bE : b.y.natAbs ≤ Lat.E) (bzE : b.z.natAbs ≤ Lat.E)
    (aE : a.x.natAbs ≤ Lat.E) (ayE : a.y.natAbs ≤ Lat.E) (azE : a.z.natAbs ≤ Lat.E) (hm : a.y.natAbs * (Lat.redB b c).z.natAbs ≤ Lat.E) :
    Calls Try.prog 94 #[.agg #[.int .i64 a.x, .int .i64 a.y, .int .i64 a.z, .int .i64 b.x, .int .i64 b.y, .int .i64 b.z, .int .i64 c.x, .int .i64 c.y, .int .i64 c.z]] w
      fun e w' => e = .returned (.agg #[.int .i64 (Lat.red a b c).a.x, .int .i64 (Lat.red a b c).a.y, .int .i64 (Lat.red a b c).a.z, .int .i64 (Lat.red a b c).b.x, .int .i64 (Lat.red a b c).b.y, .int .i64 (Lat.red a b c).b.z, .int .i64 (Lat.red a b c).c.x, .int .i64 (Lat.red a b c).c.y, .int .i64 (Lat.red a b c).c.z]) ∧ Below w.heap.size w w' := by
  have q1 : ∀ w0, Calls Try.prog 73 #[.int .i64 b.z, .int .i64 c.z] w0 fun e w' => e = .returned (.int .i64 (b.z / c.z)) ∧ w' = w0 := fun w0 => by
    unfold Lat.E at *; exact quotient_any _ _ _ (by omega) (by omega) cz (by omega)
  have t1 : ∀ w0, Calls Try.prog 74 #[.agg #[.int .i64 b.x, .int .i64 b.y, .int .i64 b.z], .int .i64 (b.z / c.z), .agg #[.int .i64 c.x, .int .i64 c.y, .int .i64 c.z]] w0 fun e w' => e = .returned (.agg #[.int .i64 (Lat.redB b c).x, .int .i64 (Lat.redB b c).y, .int .i64 (Lat.redB b c).z]) ∧ Below w0.heap.size w0 w' := fun w0 => by
    have d1 := Lat.div_mul_le b.z c.z cz
    unfold Lat.E at *
    exact takeAway_any b c _ w0 (by omega) (by rw [cx]; simp) (by omega) (by rw [cy]; simp) (by omega) (by omega)
  have b2x : (Lat.redB b c).x = 0 := by simp only [Lat.redB, Lat.less]; rw [bx, cx]; simp
  have b2y : (Lat.redB b c).y = b.y := by simp only [Lat.redB, Lat.less]; rw [cy]; simp
  have HB : Hid ((Lat.red a b c).b = Lat.redB b c) := rfl
  have HA : Hid ((Lat.red a b c).a = Lat.redA2 (Lat.redA1 a (Lat.redB b c)) c) := rfl
  generalize Lat.redB b c = b2 at *
  have q2 : ∀ w0, Calls Try.prog 73 #[.int .i64 a.y, .int .i64 b2.y] w0 fun e w' => e = .returned (.int .i64 (a.y / b2.y)) ∧ w' = w0 := fun w0 => by
    unfold Lat.E at *; exact quotient_any _ _ _ (by omega) (by omega) (by omega) (by omega)
  have d2 : (a.y / b2.y * b2.z).natAbs ≤ Lat.E := by
    rw [Int.natAbs_mul]
    exact Nat.le_trans (Nat.mul_le_mul (Lat.div_le a.y b2.y (by omega)) (Nat.le_refl _)) hm
  have t2 : ∀ w0, Calls Try.prog 74 #[.agg #[.int .i64 a.x, .int .i64 a.y, .int .i64 a.z], .int .i64 (a.y / b2.y), .agg #[.int .i64 b2.x, .int .i64 b2.y, .int .i64 b2.z]] w0 fun e w' => e = .returned (.agg #[.int .i64 (Lat.redA1 a b2).x, .int .i64 (Lat.redA1 a b2).y, .int .i64 (Lat.redA1 a b2).z]) ∧ Below w0.heap.size w0 w' := fun w0 => by
    have d1 := Lat.div_mul_le a.y b2.y (by omega)
    unfold Lat.E at *
    exact takeAway_any a b2 _ w0 (by omega) (by rw [b2x]; simp) (by omega) (by omega) (by omega) (by omega)
  have a1x : (Lat.redA1 a b2).x = a.x := by simp only [Lat.redA1, Lat.less]; rw [b2x]; simp
  have a1y : (Lat.redA1 a b2).y.natAbs ≤ Lat.E := by
    simp only [Lat.redA1, Lat.less]
    by_cases h0 : b2.y = 0
    · rw [h0]; simp; exact ayE
    · have := Lat.div_rest a.y b2.y (by omega)
      unfold Lat.E at *; omega
  have a1z : (Lat.redA1 a b2).z.natAbs ≤ 2 * Lat.E := by
    simp only [Lat.redA1, Lat.less]; generalize a.y / b2.y * b2.z = t at *; omega
  generalize Lat.redA1 a b2 = a1 at *
  have q3 : ∀ w0, Calls Try.prog 73 #[.int .i64 a1.z, .int .i64 c.z] w0 fun e w' => e = .returned (.int .i64 (a1.z / c.z)) ∧ w' = w0 := fun w0 => by
    unfold Lat.E at *; exact quotient_any _ _ _ (by omega) (by omega) cz (by omega)
  have t3 : ∀ w0, Calls Try.prog 74 #[.agg #[.int .i64 a1.x, .int .i64 a1.y, .int .i64 a1.z], .int .i64 (a1.z / c.z), .agg #[.int .i64 c.x, .int .i64 c.y, .int .i64 c.z]] w0 fun e w' => e = .returned (.agg #[.int .i64 (Lat.redA2 a1 c).x, .int .i64 (Lat.redA2 a1 c).y, .int .i64 (Lat.redA2 a1 c).z]) ∧ Below w0.heap.size w0 w' := fun w0 => by
    have d1 := Lat.div_mul_le a1.z c.z cz
    unfold Lat.E at *
    exact takeAway_any a1 c _ w0 (by omega) (by rw [cx]; simp) (by omega) (by rw [cy]; simp) (by omega) (by omega)
  generalize Lat.redA2 a1 c = a2 at *
  have HC : Hid ((Lat.red a b c).c = c) := rfl
  clear cx cy cz cE bx hby bE bzE aE ayE azE hm b2x b2y d2 a1x a1y a1z
  go_enter Try.func94, Try.ntmps94
  go_wp2
  refine wp_loop_rounds 4 ?_
  rw [rounds_succ]; go_wp2
  refine wp_loop_rounds 2 ?_
  rw [rounds_succ]; go_wp2
  rw [rounds_succ]; go_wp2
  refine wp_loop_rounds 3 ?_
  rw [rounds_succ]
  go_upto_block 3 with fail
  go_cut [] (fun wx => Blk wx w.heap.size #[.int .i64 a.x, .int .i64 a.y, .int .i64 a.z, .int .i64 b.x, .int .i64 b.y, .int .i64 b.z, .int .i64 c.x, .int .i64 c.y, .int .i64 c.z] 65 ∧ Blk wx (w.heap.size + 1) #[.int .i64 0, .int .i64 0, .int .i64 0, .int .i64 0, .int .i64 0, .int .i64 0, .int .i64 0, .int .i64 0, .int .i64 0] 65 ∧ Blk wx (w.heap.size + 1 + 1 + 1) #[.int .i64 b2.x, .int .i64 b2.y, .int .i64 b2.z] 62 ∧ Below w.heap.size w wx)
  case first =>
    go_wp2
    go_quiet ((go_at_call 73; exact Calls.quiet_of_same (q1 _)))
    go_wp2
    go_region_with
      ((go_at_call 74; refine (t1 _).mono ?_; rintro e w1 ⟨rfl, hb1⟩

        have kS : Blk w1 w.heap.size #[.int .i64 a.x, .int .i64 a.y, .int .i64 a.z, .int .i64 b.x, .int .i64 b.y, .int .i64 b.z, .int .i64 c.x, .int .i64 c.y, .int .i64 c.z] 65 := Blk.below (by (repeat (first | (with_reducible assumption) | (with_reducible exact Blk.new _ _ _ (by simp)) | (with_reducible refine Blk.drewN ?_) | (with_reducible refine Blk.drew ?_) | (with_reducible refine Blk.alloc ?_ _)))) hb1 (by go_size)
        have kR : Blk w1 (w.heap.size + 1) #[.int .i64 0, .int .i64 0, .int .i64 0, .int .i64 0, .int .i64 0, .int .i64 0, .int .i64 0, .int .i64 0, .int .i64 0] 65 := Blk.below (by (repeat (first | (with_reducible assumption) | (with_reducible exact Blk.new _ _ _ (by simp)) | (with_reducible refine Blk.drewN ?_) | (with_reducible refine Blk.drew ?_) | (with_reducible refine Blk.alloc ?_ _)))) hb1 (by go_size)
        have kP : Blk w1 (w.heap.size + 1 + 1 + 1) #[.int .i64 b.x, .int .i64 b.y, .int .i64 b.z] 62 := Blk.below (by (repeat (first | (with_reducible assumption) | (with_reducible exact Blk.new _ _ _ (by simp)) | (with_reducible refine Blk.drewN ?_) | (with_reducible refine Blk.drew ?_) | (with_reducible refine Blk.alloc ?_ _)))) hb1 (by go_size)
        have hB1 : Below w.heap.size w w1 := Below.trans (by first | exact Below.drew (below_drewN (by go_grown)) | exact below_drewN (by go_grown)) (hb1.mono (by go_size))
        obtain ⟨y0, y1, y2⟩ := kP.three
        have g0 := kP.frozen 0; have g1 := kP.frozen 1; have g2 := kP.frozen 2))
    all_goals (go_wp2_with fail)
    all_goals go_meet
    all_goals exact ⟨kS.other3 (by omega) _ _ _, kR.other3 (by omega) _ _ _, kP.set3 _ _ _, below_set3 hB1 (by omega) _ _ _⟩
  case rest =>
  rename World => wA
  obtain ⟨ks, kr, kp, hB⟩ := hcut
  obtain ⟨s0, s1, s2, s3, s4, s5, s6, s7, s8⟩ := ks.nine
  obtain ⟨p0, p1, p2⟩ := kp.three
  obtain ⟨f0, f1, f2, f3, f4, f5, f6, f7, f8⟩ := ks.frozen9
  have hl0 := ks.lt
  have hl1 := kr.lt
  have hp := kp.lt
  go_wp2
  rw [rounds_succ]; go_wp2
  rw [rounds_succ]; go_wp2
  refine wp_loop_rounds 3 ?_
  rw [rounds_succ]
  have ks2 : Blk (((wA.setCell ⟨w.heap.size, 3, none⟩ (.int .i64 b2.x)).setCell ⟨w.heap.size, 4, none⟩ (.int .i64 b2.y)).setCell ⟨w.heap.size, 5, none⟩ (.int .i64 b2.z)) w.heap.size #[.int .i64 a.x, .int .i64 a.y, .int .i64 a.z, .int .i64 b2.x, .int .i64 b2.y, .int .i64 b2.z, .int .i64 c.x, .int .i64 c.y, .int .i64 c.z] 65 := by
    have := ((ks.set 3 (.int .i64 b2.x)).set 4 (.int .i64 b2.y)).set 5 (.int .i64 b2.z); simpa using this
  have kr2 : Blk (((wA.setCell ⟨w.heap.size, 3, none⟩ (.int .i64 b2.x)).setCell ⟨w.heap.size, 4, none⟩ (.int .i64 b2.y)).setCell ⟨w.heap.size, 5, none⟩ (.int .i64 b2.z)) (w.heap.size + 1) #[.int .i64 0, .int .i64 0, .int .i64 0, .int .i64 0, .int .i64 0, .int .i64 0, .int .i64 0, .int .i64 0, .int .i64 0] 65 :=
    ((kr.other (by simp) _).other (by simp) _).other (by simp) _
  go_upto_block 3 with fail
  go_cut [] (fun wx => Blk wx w.heap.size #[.int .i64 a.x, .int .i64 a.y, .int .i64 a.z, .int .i64 b2.x, .int .i64 b2.y, .int .i64 b2.z, .int .i64 c.x, .int .i64 c.y, .int .i64 c.z] 65 ∧ Blk wx (w.heap.size + 1) #[.int .i64 0, .int .i64 0, .int .i64 0, .int .i64 0, .int .i64 0, .int .i64 0, .int .i64 0, .int .i64 0, .int .i64 0] 65 ∧ Blk wx (wA.heap.size) #[.int .i64 a1.x, .int .i64 a1.y, .int .i64 a1.z] 62 ∧ Below w.heap.size w wx)
  case first =>
    go_wp2
    go_quiet ((go_at_call 73; exact Calls.quiet_of_same (q2 _)))
    go_wp2
    go_region_with
      ((go_at_call 74; refine (t2 _).mono ?_; rintro e w1 ⟨rfl, hb1⟩

        have kS : Blk w1 w.heap.size #[.int .i64 a.x, .int .i64 a.y, .int .i64 a.z, .int .i64 b2.x, .int .i64 b2.y, .int .i64 b2.z, .int .i64 c.x, .int .i64 c.y, .int .i64 c.z] 65 := Blk.below (by (repeat (first | (with_reducible assumption) | (with_reducible exact Blk.new _ _ _ (by simp)) | (with_reducible refine Blk.drewN ?_) | (with_reducible refine Blk.drew ?_) | (with_reducible refine Blk.alloc ?_ _)))) hb1 (by go_size)
        have kR : Blk w1 (w.heap.size + 1) #[.int .i64 0, .int .i64 0, .int .i64 0, .int .i64 0, .int .i64 0, .int .i64 0, .int .i64 0, .int .i64 0, .int .i64 0] 65 := Blk.below (by (repeat (first | (with_reducible assumption) | (with_reducible exact Blk.new _ _ _ (by simp)) | (with_reducible refine Blk.drewN ?_) | (with_reducible refine Blk.drew ?_) | (with_reducible refine Blk.alloc ?_ _)))) hb1 (by go_size)
        have kP : Blk w1 (wA.heap.size) #[.int .i64 a.x, .int .i64 a.y, .int .i64 a.z] 62 := Blk.below (by (repeat (first | (with_reducible assumption) | (with_reducible exact Blk.new _ _ _ (by simp)) | (with_reducible refine Blk.drewN ?_) | (with_reducible refine Blk.drew ?_) | (with_reducible refine Blk.alloc ?_ _)))) hb1 (by go_size)
        have hB1 : Below w.heap.size w w1 := Below.trans (by first | exact Below.drew (below_drewN (by go_grown)) | exact below_drewN (by go_grown)) (hb1.mono (by go_size))
        obtain ⟨y0, y1, y2⟩ := kP.three
        have g0 := kP.frozen 0; have g1 := kP.frozen 1; have g2 := kP.frozen 2))
    all_goals (go_wp2_with fail)
    all_goals go_meet
    all_goals exact ⟨kS.other3 (by omega) _ _ _, kR.other3 (by omega) _ _ _, kP.set3 _ _ _, below_set3 hB1 (by omega) _ _ _⟩
  case rest =>
  rename World => wB
  obtain ⟨ks, kr, kp, hB⟩ := hcut
  obtain ⟨s0, s1, s2, s3, s4, s5, s6, s7, s8⟩ := ks.nine
  obtain ⟨p0, p1, p2⟩ := kp.three
  obtain ⟨f0, f1, f2, f3, f4, f5, f6, f7, f8⟩ := ks.frozen9
  have hl0 := ks.lt
  have hl1 := kr.lt
  have hp := kp.lt
  clear ks2 kr2
  go_wp2
  rw [rounds_succ]
  go_upto_block 3 with fail
  go_cut [] (fun wx => Blk wx w.heap.size #[.int .i64 a.x, .int .i64 a.y, .int .i64 a.z, .int .i64 b2.x, .int .i64 b2.y, .int .i64 b2.z, .int .i64 c.x, .int .i64 c.y, .int .i64 c.z] 65 ∧ Blk wx (w.heap.size + 1) #[.int .i64 0, .int .i64 0, .int .i64 0, .int .i64 0, .int .i64 0, .int .i64 0, .int .i64 0, .int .i64 0, .int .i64 0] 65 ∧ Blk wx (wA.heap.size) #[.int .i64 a2.x, .int .i64 a2.y, .int .i64 a2.z] 62 ∧ Below w.heap.size w wx)
  case first =>
    go_wp2
    go_quiet ((go_at_call 73; exact Calls.quiet_of_same (q3 _)))
    go_wp2
    go_region_with
      ((go_at_call 74; refine (t3 _).mono ?_; rintro e w1 ⟨rfl, hb1⟩

        have kS : Blk w1 w.heap.size #[.int .i64 a.x, .int .i64 a.y, .int .i64 a.z, .int .i64 b2.x, .int .i64 b2.y, .int .i64 b2.z, .int .i64 c.x, .int .i64 c.y, .int .i64 c.z] 65 := Blk.below (by (repeat (first | (with_reducible assumption) | (with_reducible exact Blk.new _ _ _ (by simp)) | (with_reducible refine Blk.drewN ?_) | (with_reducible refine Blk.drew ?_) | (with_reducible refine Blk.alloc ?_ _)))) hb1 (by go_size)
        have kR : Blk w1 (w.heap.size + 1) #[.int .i64 0, .int .i64 0, .int .i64 0, .int .i64 0, .int .i64 0, .int .i64 0, .int .i64 0, .int .i64 0, .int .i64 0] 65 := Blk.below (by (repeat (first | (with_reducible assumption) | (with_reducible exact Blk.new _ _ _ (by simp)) | (with_reducible refine Blk.drewN ?_) | (with_reducible refine Blk.drew ?_) | (with_reducible refine Blk.alloc ?_ _)))) hb1 (by go_size)
        have kP : Blk w1 (wA.heap.size) #[.int .i64 a1.x, .int .i64 a1.y, .int .i64 a1.z] 62 := Blk.below (by (repeat (first | (with_reducible assumption) | (with_reducible exact Blk.new _ _ _ (by simp)) | (with_reducible refine Blk.drewN ?_) | (with_reducible refine Blk.drew ?_) | (with_reducible refine Blk.alloc ?_ _)))) hb1 (by go_size)
        have hB1 : Below w.heap.size w w1 := Below.trans (by first | exact Below.drew (below_drewN (by go_grown)) | exact below_drewN (by go_grown)) (hb1.mono (by go_size))
        obtain ⟨y0, y1, y2⟩ := kP.three
        have g0 := kP.frozen 0; have g1 := kP.frozen 1; have g2 := kP.frozen 2))
    all_goals (go_wp2_with fail)
    all_goals go_meet
    all_goals exact ⟨kS.other3 (by omega) _ _ _, kR.other3 (by omega) _ _ _, kP.set3 _ _ _, below_set3 hB1 (by omega) _ _ _⟩
  case rest =>
  rename World => wC
  obtain ⟨ks, kr, kp, hB⟩ := hcut
  obtain ⟨s0, s1, s2, s3, s4, s5, s6, s7, s8⟩ := ks.nine
  obtain ⟨p0, p1, p2⟩ := kp.three
  obtain ⟨f0, f1, f2, f3, f4, f5, f6, f7, f8⟩ := ks.frozen9
  have hl0 := ks.lt
  have hl1 := kr.lt
  have hp := kp.lt
  go_wp2
  rw [rounds_succ]; go_wp2
  have ks3 : Blk (((wC.setCell ⟨w.heap.size, 0, none⟩ (.int .i64 a2.x)).setCell ⟨w.heap.size, 1, none⟩ (.int .i64 a2.y)).setCell ⟨w.heap.size, 2, none⟩ (.int .i64 a2.z)) w.heap.size #[.int .i64 a2.x, .int .i64 a2.y, .int .i64 a2.z, .int .i64 b2.x, .int .i64 b2.y, .int .i64 b2.z, .int .i64 c.x, .int .i64 c.y, .int .i64 c.z] 65 := by
    have := ((ks.set 0 (.int .i64 a2.x)).set 1 (.int .i64 a2.y)).set 2 (.int .i64 a2.z); simpa using this
  have kr3 : Blk (((wC.setCell ⟨w.heap.size, 0, none⟩ (.int .i64 a2.x)).setCell ⟨w.heap.size, 1, none⟩ (.int .i64 a2.y)).setCell ⟨w.heap.size, 2, none⟩ (.int .i64 a2.z)) (w.heap.size + 1) #[.int .i64 0, .int .i64 0, .int .i64 0, .int .i64 0, .int .i64 0, .int .i64 0, .int .i64 0, .int .i64 0, .int .i64 0] 65 :=
    ((kr.other (by simp) _).other (by simp) _).other (by simp) _
  have hB3 := below_set3 hB (Nat.le_refl _) (.int .i64 a2.x) (.int .i64 a2.y) (.int .i64 a2.z)
  rw [rounds_succ]
  generalize (((wC.setCell ⟨w.heap.size, 0, none⟩ (.int .i64 a2.x)).setCell ⟨w.heap.size, 1, none⟩ (.int .i64 a2.y)).setCell ⟨w.heap.size, 2, none⟩ (.int .i64 a2.z)) = wD at *
  clear ks kr kp hB s0 s1 s2 s3 s4 s5 s6 s7 s8 p0 p1 p2 f0 f1 f2 f3 f4 f5 f6 f7 f8
  obtain ⟨s0, s1, s2, s3, s4, s5, s6, s7, s8⟩ := ks3.nine
  obtain ⟨r0, r1, r2, r3, r4, r5, r6, r7, r8⟩ := kr3.nine
  obtain ⟨f0, f1, f2, f3, f4, f5, f6, f7, f8⟩ := kr3.frozen9
  go_wp2
  refine ret54 rfl (kr3.set9 _ _ _ _ _ _ _ _ _) rfl ⟨?_, below_set9 hB3 (by omega) _ _ _ _ _ _ _ _ _⟩
  rw [HA.out, HB.out, HC.out]

end Go.Proofs.Ytmlcblnndihjoaa
