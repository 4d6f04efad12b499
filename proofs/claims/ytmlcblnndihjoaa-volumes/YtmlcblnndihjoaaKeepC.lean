import Derived.Test.YtmlcblnndihjoaaKeepB
namespace Go.Proofs.Ytmlcblnndihjoaa
open Go.RowKit

/-! the index is the determinant's size -/
namespace Lat

theorem natAbs_eq_of {a b s t : Int} (h1 : a = s * b) (h2 : b = t * a) : a = b ∨ a = -b := by
  have d1 : b ∣ a := ⟨s, by rw [h1]; exact Int.mul_comm _ _⟩
  have d2 : a ∣ b := ⟨t, by rw [h2]; exact Int.mul_comm _ _⟩
  have n1 := Int.natAbs_dvd_natAbs.2 d1
  have n2 := Int.natAbs_dvd_natAbs.2 d2
  have := Nat.dvd_antisymm n1 n2
  omega

theorem span3 {f g k u : V} (h : InSpan [f, g, k] u) : ∃ i j l : Int, u.x = i * f.x + j * g.x + l * k.x ∧ u.y = i * f.y + j * g.y + l * k.y ∧ u.z = i * f.z + j * g.z + l * k.z := by
  obtain ⟨i, u1, ⟨j, u2, ⟨l, u3, ⟨z1, z2, z3⟩, l1, l2, l3⟩, j1, j2, j3⟩, i1, i2, i3⟩ := h
  exact ⟨i, j, l, by omega, by omega, by omega⟩

theorem span2 {f g u : V} (h : InSpan [f, g] u) : ∃ i j : Int, u.x = i * f.x + j * g.x ∧ u.y = i * f.y + j * g.y := by
  obtain ⟨i, u1, ⟨j, u2, ⟨z1, z2, z3⟩, j1, j2, j3⟩, i1, i2, i3⟩ := h
  exact ⟨i, j, by omega, by omega⟩

theorem span1 {f u : V} (h : InSpan [f] u) : ∃ i : Int, u.x = i * f.x := by
  obtain ⟨i, u1, ⟨z1, z2, z3⟩, i1, i2, i3⟩ := h
  exact ⟨i, by omega⟩

theorem vol3 {T : St} {f g k : V} (h : CanonOf T [k, g, f]) : T.a.x * T.b.y * T.c.z = det f g k ∨ T.a.x * T.b.y * T.c.z = -det f g k := by
  have bx := h.shape.bx; have cx := h.shape.cx; have cy := h.shape.cy
  obtain ⟨i1, j1, l1, p1, p2, p3⟩ := span3 ((h.span _).1 (Mem.ra T))
  obtain ⟨i2, j2, l2, q1, q2, q3⟩ := span3 ((h.span _).1 (Mem.rb T))
  obtain ⟨i3, j3, l3, r1, r2, r3⟩ := span3 ((h.span _).1 (Mem.rc T))
  obtain ⟨a1, b1, c1, f1, f2, f3⟩ := (h.span f).2 (InSpan.of_mem (by simp))
  obtain ⟨a2, b2, c2, g1, g2, g3⟩ := (h.span g).2 (InSpan.of_mem (by simp))
  obtain ⟨a3, b3, c3, k1, k2, k3⟩ := (h.span k).2 (InSpan.of_mem (by simp))
  have hd : det T.a T.b T.c = T.a.x * T.b.y * T.c.z := by unfold det; rw [bx, cx, cy]; grind
  have e1 : det T.a T.b T.c = (-det ⟨i1, j1, l1⟩ ⟨i2, j2, l2⟩ ⟨i3, j3, l3⟩) * det f g k := by
    unfold det; rw [p1, p2, p3, q1, q2, q3, r1, r2, r3]; grind
  have e2 : det f g k = det ⟨a1, b1, c1⟩ ⟨a2, b2, c2⟩ ⟨a3, b3, c3⟩ * det T.a T.b T.c := by
    unfold det; rw [f1, f2, f3, g1, g2, g3, k1, k2, k3]; grind
  rw [← hd]
  exact natAbs_eq_of e1 e2

theorem vol2 {T : St} {f g : V} (h : CanonOf T [g, f]) : T.a.x * T.b.y = mxy f g ∨ T.a.x * T.b.y = -mxy f g := by
  have bx := h.shape.bx; have cx := h.shape.cx; have cy := h.shape.cy
  obtain ⟨i1, j1, p1, p2⟩ := span2 ((h.span _).1 (Mem.ra T))
  obtain ⟨i2, j2, q1, q2⟩ := span2 ((h.span _).1 (Mem.rb T))
  obtain ⟨a1, b1, c1, f1, f2, f3⟩ := (h.span f).2 (InSpan.of_mem (by simp))
  obtain ⟨a2, b2, c2, g1, g2, g3⟩ := (h.span g).2 (InSpan.of_mem (by simp))
  have hd : mxy T.a T.b = T.a.x * T.b.y := by unfold mxy; rw [bx]; simp
  have e1 : mxy T.a T.b = (-(i1 * j2 - j1 * i2)) * mxy f g := by
    unfold mxy; rw [p1, p2, q1, q2]; grind
  have e2 : mxy f g = (a1 * b2 - b1 * a2) * mxy T.a T.b := by
    unfold mxy; rw [f1, f2, g1, g2, cx, cy]; grind
  rw [← hd]
  exact natAbs_eq_of e1 e2

theorem vol1 {T : St} {f : V} (h : CanonOf T [f]) : T.a.x = f.x ∨ T.a.x = -f.x := by
  have bx := h.shape.bx; have cx := h.shape.cx
  obtain ⟨i1, p1⟩ := span1 ((h.span _).1 (Mem.ra T))
  obtain ⟨a1, b1, c1, f1, f2, f3⟩ := (h.span f).2 (InSpan.of_mem (by simp))
  rw [bx, cx] at f1
  exact natAbs_eq_of (s := i1) (t := a1) p1 (by omega)

/-- With entries of at most 4 it always fits. -/
theorem light_fits {T : St} {G : List V} (h : CanonOf T G) (hG : ∀ g ∈ G, Le 4 g) : Le 511 T.a ∧ Le 511 T.b ∧ Le 511 T.c := by
  obtain ⟨p, q, r⟩ := h.bound (M := 4) (by omega) hG
  exact ⟨p.mono (by omega), q.mono (by omega), r.mono (by omega)⟩

end Lat

theorem det1_any (g cap b0 : Nat) (p : Lat.V) (w : World) (m0 : w.cell? ⟨g, 0, none⟩ = some (.slice (some ⟨b0, 0, none⟩) 1 1)) (e00 : w.cell? ⟨b0, 0, none⟩ = some (.int .i64 p.x)) :
    Calls Try.prog 43 #[.int .i64 1, .slice (some ⟨g, 0, none⟩) 1 cap] w fun e w' => e = .returned (.int .i64 p.x) ∧ Below w.heap.size w w' := by
  go_enter Try.func43, Try.ntmps43
  go_wp2
  go_ret
  exact ⟨rfl, Below.refl _ _⟩

theorem wrap_in {x : Int} (h1 : -9223372036854775808 ≤ x) (h2 : x ≤ 9223372036854775807) : IntKind.i64.wrap x = x := by
  rw [IntKind.wrap_i64]; omega

set_option maxHeartbeats 1000000 in
theorem det2_any (g cap b0 b1 : Nat) (p q : Lat.V) (w : World) (m0 : w.cell? ⟨g, 0, none⟩ = some (.slice (some ⟨b0, 0, none⟩) 2 2)) (e00 : w.cell? ⟨b0, 0, none⟩ = some (.int .i64 p.x)) (e01 : w.cell? ⟨b0, 1, none⟩ = some (.int .i64 p.y)) (m1 : w.cell? ⟨g, 1, none⟩ = some (.slice (some ⟨b1, 0, none⟩) 2 2)) (e10 : w.cell? ⟨b1, 0, none⟩ = some (.int .i64 q.x)) (e11 : w.cell? ⟨b1, 1, none⟩ = some (.int .i64 q.y)) (hp : Lat.Le 511 p) (hq : Lat.Le 511 q) :
    Calls Try.prog 43 #[.int .i64 2, .slice (some ⟨g, 0, none⟩) 2 cap] w fun e w' => e = .returned (.int .i64 (Lat.mxy p q)) ∧ Below w.heap.size w w' := by
  have t1 := Lat.abs_mul_le hp.1.1 hp.1.2 hq.2.1.1 hq.2.1.2
  have t2 := Lat.abs_mul_le hp.2.1.1 hp.2.1.2 hq.1.1 hq.1.2
  have w1 : IntKind.i64.wrap (p.x * q.y) = p.x * q.y := wrap_in (by omega) (by omega)
  have w2 : IntKind.i64.wrap (p.y * q.x) = p.y * q.x := wrap_in (by omega) (by omega)
  have w3 : IntKind.i64.wrap (p.x * q.y - p.y * q.x) = p.x * q.y - p.y * q.x := wrap_in (by omega) (by omega)
  clear t1 t2
  go_enter Try.func43, Try.ntmps43
  go_wp2
  go_quiet (fail)
  go_wp2
  go_ret
  exact ⟨rfl, below_drewN (Below.refl _ _)⟩

set_option maxHeartbeats 2000000 in
theorem det3_any (g cap b0 b1 b2 : Nat) (p q r : Lat.V) (w : World) (m0 : w.cell? ⟨g, 0, none⟩ = some (.slice (some ⟨b0, 0, none⟩) 3 3)) (e00 : w.cell? ⟨b0, 0, none⟩ = some (.int .i64 p.x)) (e01 : w.cell? ⟨b0, 1, none⟩ = some (.int .i64 p.y)) (e02 : w.cell? ⟨b0, 2, none⟩ = some (.int .i64 p.z)) (m1 : w.cell? ⟨g, 1, none⟩ = some (.slice (some ⟨b1, 0, none⟩) 3 3)) (e10 : w.cell? ⟨b1, 0, none⟩ = some (.int .i64 q.x)) (e11 : w.cell? ⟨b1, 1, none⟩ = some (.int .i64 q.y)) (e12 : w.cell? ⟨b1, 2, none⟩ = some (.int .i64 q.z)) (m2 : w.cell? ⟨g, 2, none⟩ = some (.slice (some ⟨b2, 0, none⟩) 3 3)) (e20 : w.cell? ⟨b2, 0, none⟩ = some (.int .i64 r.x)) (e21 : w.cell? ⟨b2, 1, none⟩ = some (.int .i64 r.y)) (e22 : w.cell? ⟨b2, 2, none⟩ = some (.int .i64 r.z)) (hp : Lat.Le 511 p) (hq : Lat.Le 511 q) (hr : Lat.Le 511 r) :
    Calls Try.prog 43 #[.int .i64 3, .slice (some ⟨g, 0, none⟩) 3 cap] w fun e w' => e = .returned (.int .i64 (Lat.det p q r)) ∧ Below w.heap.size w w' := by
  obtain ⟨px, py, pz⟩ := hp
  obtain ⟨qx, qy, qz⟩ := hq
  obtain ⟨rx, ry, rz⟩ := hr
  have t1 := Lat.abs_mul_le qy.1 qy.2 rz.1 rz.2
  have t2 := Lat.abs_mul_le qz.1 qz.2 ry.1 ry.2
  have t3 := Lat.abs_mul_le qx.1 qx.2 rz.1 rz.2
  have t4 := Lat.abs_mul_le qz.1 qz.2 rx.1 rx.2
  have t5 := Lat.abs_mul_le qx.1 qx.2 ry.1 ry.2
  have t6 := Lat.abs_mul_le qy.1 qy.2 rx.1 rx.2
  have s1 := Lat.abs_mul_le (b := q.y * r.z - q.z * r.y) (B := 522242) px.1 px.2 (by omega) (by omega)
  have s2 := Lat.abs_mul_le (b := q.x * r.z - q.z * r.x) (B := 522242) py.1 py.2 (by omega) (by omega)
  have s3 := Lat.abs_mul_le (b := q.x * r.y - q.y * r.x) (B := 522242) pz.1 pz.2 (by omega) (by omega)
  have w1 : IntKind.i64.wrap (q.y * r.z) = q.y * r.z := wrap_in (by omega) (by omega)
  have w2 : IntKind.i64.wrap (q.z * r.y) = q.z * r.y := wrap_in (by omega) (by omega)
  have w3 : IntKind.i64.wrap (q.y * r.z - q.z * r.y) = q.y * r.z - q.z * r.y := wrap_in (by omega) (by omega)
  have w4 : IntKind.i64.wrap (p.x * (q.y * r.z - q.z * r.y)) = p.x * (q.y * r.z - q.z * r.y) := wrap_in (by omega) (by omega)
  have w5 : IntKind.i64.wrap (q.x * r.z) = q.x * r.z := wrap_in (by omega) (by omega)
  have w6 : IntKind.i64.wrap (q.z * r.x) = q.z * r.x := wrap_in (by omega) (by omega)
  have w7 : IntKind.i64.wrap (q.x * r.z - q.z * r.x) = q.x * r.z - q.z * r.x := wrap_in (by omega) (by omega)
  have w8 : IntKind.i64.wrap (p.y * (q.x * r.z - q.z * r.x)) = p.y * (q.x * r.z - q.z * r.x) := wrap_in (by omega) (by omega)
  have w9 : IntKind.i64.wrap (q.x * r.y) = q.x * r.y := wrap_in (by omega) (by omega)
  have w10 : IntKind.i64.wrap (q.y * r.x) = q.y * r.x := wrap_in (by omega) (by omega)
  have w11 : IntKind.i64.wrap (q.x * r.y - q.y * r.x) = q.x * r.y - q.y * r.x := wrap_in (by omega) (by omega)
  have w12 : IntKind.i64.wrap (p.z * (q.x * r.y - q.y * r.x)) = p.z * (q.x * r.y - q.y * r.x) := wrap_in (by omega) (by omega)
  clear t1 t2 t3 t4 t5 t6
  have HD : Hid (Lat.det p q r = p.x * (q.y * r.z - q.z * r.y) - p.y * (q.x * r.z - q.z * r.x) + p.z * (q.x * r.y - q.y * r.x)) := rfl
  go_enter Try.func43, Try.ntmps43
  go_wp2
  go_quiet (fail)
  go_wp2
  go_quiet (fail)
  go_wp2
  go_quiet (fail)
  go_wp2
  go_ret
  exact ⟨ret_int HD.out.symm, below_drewN (Below.refl _ _)⟩

end Go.Proofs.Ytmlcblnndihjoaa
