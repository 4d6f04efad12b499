import Derived.Test.YtmlcblnndihjoaaGreatKeepD
namespace Go.Proofs.YtmlcblnndihjoaaGreat
open Go.RowKit

namespace Lat

theorem Mem.away_iff {S : St} {u v : V} {k : Int} (hv : Mem S v) : Mem S (less u k v) ↔ Mem S u := ⟨fun h => Mem.back h hv, fun h => h.away hv k⟩

theorem mem_x {S : St} (s : Shape S) {v : V} (h : Mem S v) (h0 : v.x - v.x / S.a.x * S.a.x ≠ 0) : False := by
  obtain ⟨i, j, k, h1, _, _⟩ := h
  rw [s.bx, s.cx] at h1
  by_cases ha : S.a.x = 0
  · rw [ha] at h0 h1; simp at h0 h1; exact h0 h1
  · have hp : 0 < S.a.x := by have := s.ax; omega
    have d := div_rest v.x S.a.x hp
    have e : v.x - v.x / S.a.x * S.a.x = (i - v.x / S.a.x) * S.a.x := by
      have : (i - v.x / S.a.x) * S.a.x = i * S.a.x - v.x / S.a.x * S.a.x := by rw [Int.sub_mul]
      omega
    rcases small_mul e (by omega) (by omega) with q | q
    · rw [q] at e; simp at e; omega
    · omega

theorem mem_y {S : St} (s : Shape S) {v : V} (hx : v.x = 0) (h : Mem S v) (h0 : v.y - v.y / S.b.y * S.b.y ≠ 0) : False := by
  obtain ⟨j, k, h1, _⟩ := h.tail s hx
  by_cases ha : S.b.y = 0
  · rw [ha] at h0 h1; simp at h0 h1; exact h0 h1
  · have hp : 0 < S.b.y := by have := s.by0; omega
    have d := div_rest v.y S.b.y hp
    have e : v.y - v.y / S.b.y * S.b.y = (j - v.y / S.b.y) * S.b.y := by
      have : (j - v.y / S.b.y) * S.b.y = j * S.b.y - v.y / S.b.y * S.b.y := by rw [Int.sub_mul]
      omega
    rcases small_mul e (by omega) (by omega) with q | q
    · rw [q] at e; simp at e; omega
    · omega

theorem mem_z {S : St} (s : Shape S) {v : V} (hx : v.x = 0) (hy : v.y = 0) (h : Mem S v) (h0 : v.z - v.z / S.c.z * S.c.z ≠ 0) : False := by
  obtain ⟨k, h1⟩ := h.tail2 s hx hy
  by_cases ha : S.c.z = 0
  · rw [ha] at h0 h1; simp at h0 h1; exact h0 h1
  · have hp : 0 < S.c.z := by have := s.cz; omega
    have d := div_rest v.z S.c.z hp
    have e : v.z - v.z / S.c.z * S.c.z = (k - v.z / S.c.z) * S.c.z := by
      have : (k - v.z / S.c.z) * S.c.z = k * S.c.z - v.z / S.c.z * S.c.z := by rw [Int.sub_mul]
      omega
    rcases small_mul e (by omega) (by omega) with q | q
    · rw [q] at e; simp at e; omega
    · omega

end Lat

theorem mul_abs_le {a b : Int} {A B : Nat} (h1 : a.natAbs ≤ A) (h2 : b.natAbs ≤ B) : (a * b).natAbs ≤ A * B := by
  rw [Int.natAbs_mul]; exact Nat.mul_le_mul h1 h2

def HasEnd (S : Lat.St) (v : Lat.V) (e : Ending) : Prop := ∃ r : Bool, e = .returned (.bool r) ∧ (r = true ↔ Lat.Mem S v)

set_option maxHeartbeats 2000000 in
theorem spanHas_any (S : Lat.St) (v : Lat.V) (w : World) (hS : Lat.Shape S) (hF : FitsS S) (hv : Lat.Le 511 v) :
    Calls Tryz.prog 45 #[.agg #[.int .i64 S.a.x, .int .i64 S.a.y, .int .i64 S.a.z, .int .i64 S.b.x, .int .i64 S.b.y, .int .i64 S.b.z, .int .i64 S.c.x, .int .i64 S.c.y, .int .i64 S.c.z], .agg #[.int .i64 v.x, .int .i64 v.y, .int .i64 v.z]] w fun e w' => HasEnd S v e ∧ Below w.heap.size w w' := by
  obtain ⟨⟨ax, ay, az⟩, ⟨bx, byy, bz⟩, ⟨cx, cy, cz⟩⟩ := hF
  obtain ⟨vx, vy, vz⟩ := hv
  have hax := hS.ax; have hby := hS.by0; have hcz := hS.cz
  have hbx := hS.bx; have hcx := hS.cx; have hcy := hS.cy
  -- the first column
  have d0 := Lat.div_le v.x S.a.x hax
  have m00 := Lat.div_mul_le v.x S.a.x hax
  have m01 := mul_abs_le (a := v.x / S.a.x) (b := S.a.y) (A := 511) (B := 511) (by omega) (by omega)
  have m02 := mul_abs_le (a := v.x / S.a.x) (b := S.a.z) (A := 511) (B := 511) (by omega) (by omega)
  have q0 : Hid (∀ w0, Calls Tryz.prog 71 #[.int .i64 v.x, .int .i64 S.a.x] w0 fun e w' => e = .returned (.int .i64 (v.x / S.a.x)) ∧ w' = w0) := fun w0 => quotient_any _ _ _ (by omega) (by omega) hax (by omega)
  have t0 : Hid (∀ w0, Calls Tryz.prog 72 #[.agg #[.int .i64 v.x, .int .i64 v.y, .int .i64 v.z], .int .i64 (v.x / S.a.x), .agg #[.int .i64 S.a.x, .int .i64 S.a.y, .int .i64 S.a.z]] w0 fun e w' => e = .returned (.agg #[.int .i64 (Lat.less v (v.x / S.a.x) S.a).x, .int .i64 (Lat.less v (v.x / S.a.x) S.a).y, .int .i64 (Lat.less v (v.x / S.a.x) S.a).z]) ∧ Below w0.heap.size w0 w') := fun w0 =>
    takeAway_any v S.a _ w0 (by omega) (by omega) (by omega) (by omega) (by omega) (by omega)
  have i0 : Hid (Lat.Mem S (Lat.less v (v.x / S.a.x) S.a) ↔ Lat.Mem S v) := Lat.Mem.away_iff (Lat.Mem.ra S)
  have n0 : Hid (Lat.Mem S v → ¬ (Lat.less v (v.x / S.a.x) S.a).x = 0 → False) := fun h h0 => Lat.mem_x hS h h0
  have u1y : (Lat.less v (v.x / S.a.x) S.a).y.natAbs ≤ 261632 := by simp only [Lat.less]; generalize v.x / S.a.x * S.a.y = t at *; omega
  have u1z : (Lat.less v (v.x / S.a.x) S.a).z.natAbs ≤ 261632 := by simp only [Lat.less]; generalize v.x / S.a.x * S.a.z = t at *; omega
  have u1x : (Lat.less v (v.x / S.a.x) S.a).x.natAbs ≤ 2000 := by simp only [Lat.less]; generalize v.x / S.a.x * S.a.x = t at *; omega
  generalize v.x / S.a.x = k0 at *
  generalize Lat.less v k0 S.a = u at *
  -- the second
  have d1 := Lat.div_le u.y S.b.y hby
  have m11 := Lat.div_mul_le u.y S.b.y hby
  have m12 := mul_abs_le (a := u.y / S.b.y) (b := S.b.z) (A := 261632) (B := 511) (by omega) (by omega)
  have q1 : Hid (∀ w0, Calls Tryz.prog 71 #[.int .i64 u.y, .int .i64 S.b.y] w0 fun e w' => e = .returned (.int .i64 (u.y / S.b.y)) ∧ w' = w0) := fun w0 => quotient_any _ _ _ (by omega) (by omega) hby (by omega)
  have t1 : Hid (∀ w0, Calls Tryz.prog 72 #[.agg #[.int .i64 u.x, .int .i64 u.y, .int .i64 u.z], .int .i64 (u.y / S.b.y), .agg #[.int .i64 S.b.x, .int .i64 S.b.y, .int .i64 S.b.z]] w0 fun e w' => e = .returned (.agg #[.int .i64 (Lat.less u (u.y / S.b.y) S.b).x, .int .i64 (Lat.less u (u.y / S.b.y) S.b).y, .int .i64 (Lat.less u (u.y / S.b.y) S.b).z]) ∧ Below w0.heap.size w0 w') := fun w0 =>
    takeAway_any u S.b _ w0 (by omega) (by rw [hbx]; simp) (by omega) (by omega) (by omega) (by omega)
  have i1 : Hid (Lat.Mem S (Lat.less u (u.y / S.b.y) S.b) ↔ Lat.Mem S u) := Lat.Mem.away_iff (Lat.Mem.rb S)
  have n1 : Hid (u.x = 0 → Lat.Mem S u → ¬ (Lat.less u (u.y / S.b.y) S.b).y = 0 → False) := fun hx h h0 => Lat.mem_y hS hx h h0
  have e1 : Hid ((Lat.less u (u.y / S.b.y) S.b).x = u.x) := by show (Lat.less u (u.y / S.b.y) S.b).x = u.x; simp only [Lat.less]; rw [hbx]; simp
  have x2z : (Lat.less u (u.y / S.b.y) S.b).z.natAbs ≤ 200000000 := by simp only [Lat.less]; generalize u.y / S.b.y * S.b.z = t at *; omega
  have x2y : (Lat.less u (u.y / S.b.y) S.b).y.natAbs ≤ 1000000 := by simp only [Lat.less]; generalize u.y / S.b.y * S.b.y = t at *; omega
  have x2x : (Lat.less u (u.y / S.b.y) S.b).x.natAbs ≤ 2000 := by rw [e1.out]; exact u1x
  generalize u.y / S.b.y = k1 at *
  generalize Lat.less u k1 S.b = x at *
  -- the third
  have d2 := Lat.div_le x.z S.c.z hcz
  have m22 := Lat.div_mul_le x.z S.c.z hcz
  have q2 : Hid (∀ w0, Calls Tryz.prog 71 #[.int .i64 x.z, .int .i64 S.c.z] w0 fun e w' => e = .returned (.int .i64 (x.z / S.c.z)) ∧ w' = w0) := fun w0 => quotient_any _ _ _ (by omega) (by omega) hcz (by omega)
  have t2 : Hid (∀ w0, Calls Tryz.prog 72 #[.agg #[.int .i64 x.x, .int .i64 x.y, .int .i64 x.z], .int .i64 (x.z / S.c.z), .agg #[.int .i64 S.c.x, .int .i64 S.c.y, .int .i64 S.c.z]] w0 fun e w' => e = .returned (.agg #[.int .i64 (Lat.less x (x.z / S.c.z) S.c).x, .int .i64 (Lat.less x (x.z / S.c.z) S.c).y, .int .i64 (Lat.less x (x.z / S.c.z) S.c).z]) ∧ Below w0.heap.size w0 w') := fun w0 =>
    takeAway_any x S.c _ w0 (by omega) (by rw [hcx]; simp) (by omega) (by rw [hcy]; simp) (by omega) (by omega)
  have i2 : Hid (Lat.Mem S (Lat.less x (x.z / S.c.z) S.c) ↔ Lat.Mem S x) := Lat.Mem.away_iff (Lat.Mem.rc S)
  have n2 : Hid (x.x = 0 → x.y = 0 → Lat.Mem S x → ¬ (Lat.less x (x.z / S.c.z) S.c).z = 0 → False) := fun hx hy h h0 => Lat.mem_z hS hx hy h h0
  have e2 : Hid ((Lat.less x (x.z / S.c.z) S.c).x = x.x ∧ (Lat.less x (x.z / S.c.z) S.c).y = x.y) := by
    constructor
    · simp only [Lat.less]; rw [hcx]; simp
    · simp only [Lat.less]; rw [hcy]; simp
  generalize x.z / S.c.z = k2 at *
  generalize Lat.less x k2 S.c = y at *
  clear d0 m00 m01 m02 d1 m11 m12 d2 m22 u1x u1y u1z x2x x2y x2z ax ay az bx byy bz cx cy cz vx vy vz hax hby hcz hbx hcx hcy hS
  go_enter Tryz.func45, Tryz.ntmps45
  go_wp2
  refine wp_loop_rounds 4 ?_
  rw [rounds_succ]; go_wp2
  go_quiet ((go_at_call 71; exact Calls.quiet_of_same (q0.out _)))
  go_wp2
  go_cut [] (fun wx => Blk wx w.heap.size #[.int .i64 S.a.x, .int .i64 S.a.y, .int .i64 S.a.z, .int .i64 S.b.x, .int .i64 S.b.y, .int .i64 S.b.z, .int .i64 S.c.x, .int .i64 S.c.y, .int .i64 S.c.z] 58 ∧ Blk wx (w.heap.size + 1) #[.int .i64 u.x, .int .i64 u.y, .int .i64 u.z] 55 ∧ Below w.heap.size w wx)
  case first =>
    go_region_with
      ((go_at_call 72; refine (t0.out _).mono ?_; rintro e w1 ⟨rfl, hb1⟩
        have kS : Blk w1 w.heap.size #[.int .i64 S.a.x, .int .i64 S.a.y, .int .i64 S.a.z, .int .i64 S.b.x, .int .i64 S.b.y, .int .i64 S.b.z, .int .i64 S.c.x, .int .i64 S.c.y, .int .i64 S.c.z] 58 := Blk.below (by (repeat (first | (with_reducible assumption) | (focus ((with_reducible refine Blk.new _ _ _ ?_); simp; done)) | (with_reducible refine Blk.drewN ?_) | (with_reducible refine Blk.drew ?_) | (with_reducible refine Blk.alloc ?_ _) | (with_reducible apply Blk.set3) | ((with_reducible refine Blk.far3 ?_ ?_); focus omega)))) hb1 (by go_size)
        have kV : Blk w1 (w.heap.size + 1) #[.int .i64 v.x, .int .i64 v.y, .int .i64 v.z] 55 := Blk.below (by (repeat (first | (with_reducible assumption) | (focus ((with_reducible refine Blk.new _ _ _ ?_); simp; done)) | (with_reducible refine Blk.drewN ?_) | (with_reducible refine Blk.drew ?_) | (with_reducible refine Blk.alloc ?_ _) | (with_reducible apply Blk.set3) | ((with_reducible refine Blk.far3 ?_ ?_); focus omega)))) hb1 (by go_size)
        have hB1 : Below w.heap.size w w1 := Below.trans (by first | exact Below.drew (below_drewN (by go_grown)) | exact below_drewN (by go_grown)) (hb1.mono (by go_size))
        obtain ⟨y0, y1, y2⟩ := kV.three
        have g0 := kV.frozen 0; have g1 := kV.frozen 1; have g2 := kV.frozen 2))
    all_goals (go_wp2_with fail)
    all_goals go_meet
    all_goals exact ⟨kS.other3 (by omega) _ _ _, kV.set3 _ _ _, below_set3 hB1 (by omega) _ _ _⟩
  case rest =>
  rename World => wA
  obtain ⟨ks, kv, hB⟩ := hcut
  obtain ⟨s0, s1, s2, s3, s4, s5, s6, s7, s8⟩ := ks.nine
  obtain ⟨v0, v1, v2⟩ := kv.three
  have hl0 := ks.lt
  have hl1 := kv.lt
  by_cases z0 : u.x = 0
  rotate_left
  · have hn : (u.x != 0) = true := by simpa using z0
    have hN : Hid (¬ Lat.Mem S v) := fun h => n0.out h z0
    clear z0
    go_wp2
    go_ret
    exact ⟨⟨false, rfl, ⟨fun h => by simp at h, fun h => absurd h hN.out⟩⟩, hB⟩
  have hn0 : (u.x != 0) = false := by simpa using z0
  have Z0 : Hid (u.x = 0) := z0
  clear z0
  go_wp2
  clear hn0
  rw [rounds_succ]; go_wp2
  go_quiet ((go_at_call 71; exact Calls.quiet_of_same (q1.out _)))
  go_wp2
  go_cut [] (fun wx => Blk wx w.heap.size #[.int .i64 S.a.x, .int .i64 S.a.y, .int .i64 S.a.z, .int .i64 S.b.x, .int .i64 S.b.y, .int .i64 S.b.z, .int .i64 S.c.x, .int .i64 S.c.y, .int .i64 S.c.z] 58 ∧ Blk wx (w.heap.size + 1) #[.int .i64 x.x, .int .i64 x.y, .int .i64 x.z] 55 ∧ Below w.heap.size w wx)
  case first =>
    go_region_with
      ((go_at_call 72; refine (t1.out _).mono ?_; rintro e w1 ⟨rfl, hb1⟩
        have kS : Blk w1 w.heap.size #[.int .i64 S.a.x, .int .i64 S.a.y, .int .i64 S.a.z, .int .i64 S.b.x, .int .i64 S.b.y, .int .i64 S.b.z, .int .i64 S.c.x, .int .i64 S.c.y, .int .i64 S.c.z] 58 := Blk.below (by (repeat (first | (with_reducible assumption) | (focus ((with_reducible refine Blk.new _ _ _ ?_); simp; done)) | (with_reducible refine Blk.drewN ?_) | (with_reducible refine Blk.drew ?_) | (with_reducible refine Blk.alloc ?_ _) | (with_reducible apply Blk.set3) | ((with_reducible refine Blk.far3 ?_ ?_); focus omega)))) hb1 (by go_size)
        have kV : Blk w1 (w.heap.size + 1) #[.int .i64 u.x, .int .i64 u.y, .int .i64 u.z] 55 := Blk.below (by (repeat (first | (with_reducible assumption) | (focus ((with_reducible refine Blk.new _ _ _ ?_); simp; done)) | (with_reducible refine Blk.drewN ?_) | (with_reducible refine Blk.drew ?_) | (with_reducible refine Blk.alloc ?_ _) | (with_reducible apply Blk.set3) | ((with_reducible refine Blk.far3 ?_ ?_); focus omega)))) hb1 (by go_size)
        have hB1 : Below w.heap.size w w1 := Below.trans (by first | exact Below.drew (below_drewN (by go_grown)) | exact below_drewN (by go_grown)) (hb1.mono (by go_size))
        obtain ⟨y0, y1, y2⟩ := kV.three
        have g0 := kV.frozen 0; have g1 := kV.frozen 1; have g2 := kV.frozen 2))
    all_goals (go_wp2_with fail)
    all_goals go_meet
    all_goals exact ⟨kS.other3 (by omega) _ _ _, kV.set3 _ _ _, below_set3 hB1 (by omega) _ _ _⟩
  case rest =>
  rename World => wB
  obtain ⟨ks, kv, hB⟩ := hcut
  obtain ⟨s0, s1, s2, s3, s4, s5, s6, s7, s8⟩ := ks.nine
  obtain ⟨v0, v1, v2⟩ := kv.three
  have hl0 := ks.lt
  have hl1 := kv.lt
  by_cases z1 : x.y = 0
  rotate_left
  · have hn : (x.y != 0) = true := by simpa using z1
    have hN : Hid (¬ Lat.Mem S v) := fun h => n1.out Z0.out (i0.out.2 h) z1
    clear z1
    go_wp2
    go_ret
    exact ⟨⟨false, rfl, ⟨fun h => by simp at h, fun h => absurd h hN.out⟩⟩, hB⟩
  have hn1 : (x.y != 0) = false := by simpa using z1
  have Z1 : Hid (x.y = 0) := z1
  clear z1
  go_wp2
  clear hn1
  rw [rounds_succ]; go_wp2
  go_quiet ((go_at_call 71; exact Calls.quiet_of_same (q2.out _)))
  go_wp2
  go_cut [] (fun wx => Blk wx w.heap.size #[.int .i64 S.a.x, .int .i64 S.a.y, .int .i64 S.a.z, .int .i64 S.b.x, .int .i64 S.b.y, .int .i64 S.b.z, .int .i64 S.c.x, .int .i64 S.c.y, .int .i64 S.c.z] 58 ∧ Blk wx (w.heap.size + 1) #[.int .i64 y.x, .int .i64 y.y, .int .i64 y.z] 55 ∧ Below w.heap.size w wx)
  case first =>
    go_region_with
      ((go_at_call 72; refine (t2.out _).mono ?_; rintro e w1 ⟨rfl, hb1⟩
        have kS : Blk w1 w.heap.size #[.int .i64 S.a.x, .int .i64 S.a.y, .int .i64 S.a.z, .int .i64 S.b.x, .int .i64 S.b.y, .int .i64 S.b.z, .int .i64 S.c.x, .int .i64 S.c.y, .int .i64 S.c.z] 58 := Blk.below (by (repeat (first | (with_reducible assumption) | (focus ((with_reducible refine Blk.new _ _ _ ?_); simp; done)) | (with_reducible refine Blk.drewN ?_) | (with_reducible refine Blk.drew ?_) | (with_reducible refine Blk.alloc ?_ _) | (with_reducible apply Blk.set3) | ((with_reducible refine Blk.far3 ?_ ?_); focus omega)))) hb1 (by go_size)
        have kV : Blk w1 (w.heap.size + 1) #[.int .i64 x.x, .int .i64 x.y, .int .i64 x.z] 55 := Blk.below (by (repeat (first | (with_reducible assumption) | (focus ((with_reducible refine Blk.new _ _ _ ?_); simp; done)) | (with_reducible refine Blk.drewN ?_) | (with_reducible refine Blk.drew ?_) | (with_reducible refine Blk.alloc ?_ _) | (with_reducible apply Blk.set3) | ((with_reducible refine Blk.far3 ?_ ?_); focus omega)))) hb1 (by go_size)
        have hB1 : Below w.heap.size w w1 := Below.trans (by first | exact Below.drew (below_drewN (by go_grown)) | exact below_drewN (by go_grown)) (hb1.mono (by go_size))
        obtain ⟨y0, y1, y2⟩ := kV.three
        have g0 := kV.frozen 0; have g1 := kV.frozen 1; have g2 := kV.frozen 2))
    all_goals (go_wp2_with fail)
    all_goals go_meet
    all_goals exact ⟨kS.other3 (by omega) _ _ _, kV.set3 _ _ _, below_set3 hB1 (by omega) _ _ _⟩
  case rest =>
  rename World => wC
  obtain ⟨ks, kv, hB⟩ := hcut
  obtain ⟨s0, s1, s2, s3, s4, s5, s6, s7, s8⟩ := ks.nine
  obtain ⟨v0, v1, v2⟩ := kv.three
  have hl0 := ks.lt
  have hl1 := kv.lt
  by_cases z2 : y.z = 0
  rotate_left
  · have hn : (y.z != 0) = true := by simpa using z2
    have hN : Hid (¬ Lat.Mem S v) := fun h => n2.out (by rw [e1.out]; exact Z0.out) Z1.out (i1.out.2 (i0.out.2 h)) z2
    clear z2
    go_wp2
    go_ret
    exact ⟨⟨false, rfl, ⟨fun h => by simp at h, fun h => absurd h hN.out⟩⟩, hB⟩
  have hn2 : (y.z != 0) = false := by simpa using z2
  have Z2 : Hid (y.z = 0) := z2
  clear z2
  go_wp2
  clear hn2
  rw [rounds_succ]; go_wp2
  go_ret
  refine ⟨⟨true, rfl, ⟨fun _ => ?_, fun _ => rfl⟩⟩, hB⟩
  have hy : y = ⟨0, 0, 0⟩ := Lat.V.same (by rw [e2.out.1, e1.out]; exact Z0.out) (by rw [e2.out.2]; exact Z1.out) Z2.out
  have h2 := i2.out
  rw [hy] at h2
  exact i0.out.1 (i1.out.1 (h2.1 (Lat.Mem.zero S)))

end Go.Proofs.YtmlcblnndihjoaaGreat
