import Derived.Test.YtdjicplcognddabKeepB
namespace Go.Proofs.Ytdjicplcognddab
open Go.RowKit

/-! the index is the determinant's size -/
namespace Lat

theorem natAbs_eq_of {a b s t : Int} (h1 : a = s * b) (h2 : b = t * a) : a = b ∨ a = -b := by
  have d1 : b ∣ a := ⟨s, by rw [h1]; exact Int.mul_comm _ _⟩
  have d2 : a ∣ b := ⟨t, by rw [h2]; exact Int.mul_comm _ _⟩
  have n1 := Int.natAbs_dvd_natAbs.2 d1
  have n2 := Int.natAbs_dvd_natAbs.2 d2
  have := Nat.dvd_antisymm n1 n2
  omega

theorem span3 {f g k u : V} (h : InSpan [f, g, k] u) : ∃ i j l : Int, u.x = i * f.x + j * g.x + l * k.x ∧ u.y = i * f.y + j * g.y + l * k.y ∧ u.z = i * f.z + j * g.z + l * k.z := by
  obtain ⟨i, u1, ⟨j, u2, ⟨l, u3, ⟨z1, z2, z3⟩, l1, l2, l3⟩, j1, j2, j3⟩, i1, i2, i3⟩ := h
  exact ⟨i, j, l, by omega, by omega, by omega⟩

theorem span2 {f g u : V} (h : InSpan [f, g] u) : ∃ i j : Int, u.x = i * f.x + j * g.x ∧ u.y = i * f.y + j * g.y := by
  obtain ⟨i, u1, ⟨j, u2, ⟨z1, z2, z3⟩, j1, j2, j3⟩, i1, i2, i3⟩ := h
  exact ⟨i, j, by omega, by omega⟩

theorem span1 {f u : V} (h : InSpan [f] u) : ∃ i : Int, u.x = i * f.x := by
  obtain ⟨i, u1, ⟨z1, z2, z3⟩, i1, i2, i3⟩ := h
  exact ⟨i, by omega⟩

theorem vol3 {T : St} {f g k : V} (h : CanonOf T [k, g, f]) : T.a.x * T.b.y * T.c.z = det f g k ∨ T.a.x * T.b.y * T.c.z = -det f g k := by
  have bx := h.shape.bx; have cx := h.shape.cx; have cy := h.shape.cy
  obtain ⟨i1, j1, l1, p1, p2, p3⟩ := span3 ((h.span _).1 (Mem.ra T))
  obtain ⟨i2, j2, l2, q1, q2, q3⟩ := span3 ((h.span _).1 (Mem.rb T))
  obtain ⟨i3, j3, l3, r1, r2, r3⟩ := span3 ((h.span _).1 (Mem.rc T))
  obtain ⟨a1, b1, c1, f1, f2, f3⟩ := (h.span f).2 (InSpan.of_mem (by simp))
  obtain ⟨a2, b2, c2, g1, g2, g3⟩ := (h.span g).2 (InSpan.of_mem (by simp))
  obtain ⟨a3, b3, c3, k1, k2, k3⟩ := (h.span k).2 (InSpan.of_mem (by simp))
  have hd : det T.a T.b T.c = T.a.x * T.b.y * T.c.z := by unfold det; rw [bx, cx, cy]; grind
  have e1 : det T.a T.b T.c = (-det ⟨i1, j1, l1⟩ ⟨i2, j2, l2⟩ ⟨i3, j3, l3⟩) * det f g k := by
    unfold det; rw [p1, p2, p3, q1, q2, q3, r1, r2, r3]; grind
  have e2 : det f g k = det ⟨a1, b1, c1⟩ ⟨a2, b2, c2⟩ ⟨a3, b3, c3⟩ * det T.a T.b T.c := by
    unfold det; rw [f1, f2, f3, g1, g2, g3, k1, k2, k3]; grind
  rw [← hd]
  exact natAbs_eq_of e1 e2

theorem vol2 {T : St} {f g : V} (h : CanonOf T [g, f]) : T.a.x * T.b.y = mxy f g ∨ T.a.x * T.b.y = -mxy f g := by
  have bx := h.shape.bx; have cx := h.shape.cx; have cy := h.shape.cy
  obtain ⟨i1, j1, p1, p2⟩ := span2 ((h.span _).1 (Mem.ra T))
  obtain ⟨i2, j2, q1, q2⟩ := span2 ((h.span _).1 (Mem.rb T))
  obtain ⟨a1, b1, c1, f1, f2, f3⟩ := (h.span f).2 (InSpan.of_mem (by simp))
  obtain ⟨a2, b2, c2, g1, g2, g3⟩ := (h.span g).2 (InSpan.of_mem (by simp))
  have hd : mxy T.a T.b = T.a.x * T.b.y := by unfold mxy; rw [bx]; simp
  have e1 : mxy T.a T.b = (-(i1 * j2 - j1 * i2)) * mxy f g := by
    unfold mxy; rw [p1, p2, q1, q2]; grind
  have e2 : mxy f g = (a1 * b2 - b1 * a2) * mxy T.a T.b := by
    unfold mxy; rw [f1, f2, g1, g2, cx, cy]; grind
  rw [← hd]
  exact natAbs_eq_of e1 e2

theorem vol1 {T : St} {f : V} (h : CanonOf T [f]) : T.a.x = f.x ∨ T.a.x = -f.x := by
  have bx := h.shape.bx; have cx := h.shape.cx
  obtain ⟨i1, p1⟩ := span1 ((h.span _).1 (Mem.ra T))
  obtain ⟨a1, b1, c1, f1, f2, f3⟩ := (h.span f).2 (InSpan.of_mem (by simp))
  rw [bx, cx] at f1
  exact natAbs_eq_of (s := i1) (t := a1) p1 (by omega)

/-- With entries of at most 4 it always fits. -/
theorem light_fits {T : St} {G : List V} (h : CanonOf T G) (hG : ∀ g ∈ G, Le 4 g) : Le 511 T.a ∧ Le 511 T.b ∧ Le 511 T.c := by
  obtain ⟨p, q, r⟩ := h.bound (M := 4) (by omega) hG
  exact ⟨p.mono (by omega), q.mono (by omega), r.mono (by omega)⟩

end Lat

theorem wrap_in {x : Int} (h1 : -9223372036854775808 ≤ x) (h2 : x ≤ 9223372036854775807) : IntKind.i64.wrap x = x := by
  rw [IntKind.wrap_i64]; omega

end Go.Proofs.Ytdjicplcognddab
