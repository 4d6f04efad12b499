import Derived.Test.YtmlcblnndihjoabShape
namespace Go.Proofs.Ytmlcblnndihjoab
open Go.RowKit

/-- a lattice within another: its pivots are multiples of the other's -/
theorem pivots_div {T U : Lat.St} (t : Lat.Shape T) (u : Lat.Shape U) (h : ∀ v, Lat.Mem T v → Lat.Mem U v) : ∃ i j k : Int, T.a.x = i * U.a.x ∧ T.b.y = j * U.b.y ∧ T.c.z = k * U.c.z := by
  obtain ⟨i, _, _, h1, _, _⟩ := h _ (Lat.Mem.ra T)
  obtain ⟨j, _, h2, _⟩ := (h _ (Lat.Mem.rb T)).tail u t.bx
  obtain ⟨k, h3⟩ := (h _ (Lat.Mem.rc T)).tail2 u t.cx t.cy
  rw [u.bx, u.cx] at h1
  exact ⟨i, j, k, by omega, h2, h3⟩

/-- a lattice within another of the same pivots is that one -/
theorem same_pivots {T U : Lat.St} (t : Lat.Shape T) (u : Lat.Shape U) (h : ∀ v, Lat.Mem T v → Lat.Mem U v) (pa : T.a.x = U.a.x) (pb : T.b.y = U.b.y) (pc : T.c.z = U.c.z) : T = U := by
  have ec : T.c = U.c := Lat.V.same (by rw [t.cx, u.cx]) (by rw [t.cy, u.cy]) pc
  have hb : Lat.Mem U ⟨T.b.x - U.b.x, T.b.y - U.b.y, T.b.z - U.b.z⟩ := (h _ (Lat.Mem.rb T)).sub (Lat.Mem.rb U)
  have eb : T.b = U.b := by
    refine Lat.V.same (by rw [t.bx, u.bx]) pb ?_
    obtain ⟨k, hk⟩ := hb.tail2 u (by show _ - _ = _; rw [t.bx, u.bx]; rfl) (by show _ - _ = (0 : Int); omega)
    have hk' : T.b.z - U.b.z = k * U.c.z := hk
    by_cases hz : U.c.z = 0
    · rw [hz] at hk'; simp at hk'; omega
    · have hz' : 0 < U.c.z := by have := u.cz; omega
      have q1 := u.bz hz'
      have q2 := t.bz (by omega)
      rcases Lat.small_mul hk' (by omega) (by omega) with e | e
      · subst e; simp at hk'; omega
      · omega
  have ha : Lat.Mem U ⟨T.a.x - U.a.x, T.a.y - U.a.y, T.a.z - U.a.z⟩ := (h _ (Lat.Mem.ra T)).sub (Lat.Mem.ra U)
  have ea : T.a = U.a := by
    obtain ⟨j, k, hj, hk⟩ := ha.tail u (by show _ - _ = (0 : Int); omega)
    have hj' : T.a.y - U.a.y = j * U.b.y := hj
    have hk' : T.a.z - U.a.z = j * U.b.z + k * U.c.z := hk
    have ey : T.a.y = U.a.y ∧ j * U.b.z = 0 := by
      by_cases hy : U.b.y = 0
      · rw [hy] at hj'; simp at hj'
        rw [u.b0 hy]
        exact ⟨by omega, by simp⟩
      · have hy' : 0 < U.b.y := by have := u.by0; omega
        have q1 := u.ay hy'
        have q2 := t.ay (by omega)
        rcases Lat.small_mul hj' (by omega) (by omega) with e | e
        · subst e; simp at hj'; exact ⟨by omega, by simp⟩
        · omega
    have ez : T.a.z = U.a.z := by
      rw [ey.2] at hk'
      by_cases hz : U.c.z = 0
      · rw [hz] at hk'; simp at hk'; omega
      · have hz' : 0 < U.c.z := by have := u.cz; omega
        have q1 := u.az hz'
        have q2 := t.az (by omega)
        rcases Lat.small_mul (k := k) (p := U.c.z) (d := T.a.z - U.a.z) (by omega) (by omega) (by omega) with e | e
        · subst e; simp at hk'; omega
        · omega
    exact Lat.V.same pa ey.1 ez
  exact Lat.St.same ea eb ec

theorem pos_of_mul {a i b : Int} (h : a = i * b) (ha : 0 < a) (hb : 0 ≤ b) : 0 < i ∧ 0 < b := by
  have hb0 : b ≠ 0 := fun e => by rw [e] at h; simp at h; omega
  have hb' : 0 < b := by omega
  refine ⟨?_, hb'⟩
  rcases Int.lt_or_le 0 i with hi | hi
  · exact hi
  · have : i * b ≤ 0 := Int.mul_nonpos_of_nonpos_of_nonneg hi hb
    omega

theorem one_of_mul {i j : Int} (hi : 0 < i) (hj : 0 < j) (h : i * j = 1) : i = 1 ∧ j = 1 := by
  have h1 : 1 * j ≤ i * j := Int.mul_le_mul_of_nonneg_right (by omega) (by omega)
  have h2 : i * 1 ≤ i * j := Int.mul_le_mul_of_nonneg_left (by omega) (by omega)
  omega

/-- a lattice of full rank within another: its index is a multiple of the other's, and the same just if they are the same -/
theorem idx_drops {n : Nat} {T U : Lat.St} (h1 : 1 ≤ n) (h3 : n ≤ 3) (t : Lat.Shape T) (u : Lat.Shape U) (ft : Flat n T) (fu : Flat n U) (h : ∀ v, Lat.Mem T v → Lat.Mem U v) (hp : 0 < idxOf n T) :
    0 < idxOf n U ∧ ∃ m : Int, 1 ≤ m ∧ idxOf n T = m * idxOf n U ∧ (m = 1 → T = U) := by
  obtain ⟨i, j, k, ea, eb, ec⟩ := pivots_div t u h
  have hn : n = 1 ∨ n = 2 ∨ n = 3 := by omega
  rcases hn with rfl | rfl | rfl
  · have e : ∀ S, idxOf ((1 : Nat) : Int) S = S.a.x := fun S => rfl
    rw [e] at hp ⊢
    rw [e]
    obtain ⟨i1, u1⟩ := pos_of_mul ea hp u.ax
    have tb : T.b.y = 0 := (ft.y (by omega)).2
    have ub : U.b.y = 0 := (fu.y (by omega)).2
    have tc : T.c.z = 0 := (ft.z (by omega)).2.2
    have uc : U.c.z = 0 := (fu.z (by omega)).2.2
    exact ⟨u1, i, by omega, ea, fun hm => same_pivots t u h (by rw [ea, hm]; omega) (by omega) (by omega)⟩
  · have e : ∀ S, idxOf ((2 : Nat) : Int) S = S.a.x * S.b.y := fun S => rfl
    rw [e] at hp ⊢
    rw [e]
    have hax : 0 < T.a.x := by
      rcases Int.lt_or_le 0 T.a.x with q | q
      · exact q
      · have : T.a.x = 0 := by have := t.ax; omega
        rw [this] at hp; simp at hp
    have hby : 0 < T.b.y := by
      rcases Int.lt_or_le 0 T.b.y with q | q
      · exact q
      · have : T.b.y = 0 := by have := t.by0; omega
        rw [this] at hp; simp at hp
    obtain ⟨i1, u1⟩ := pos_of_mul ea hax u.ax
    obtain ⟨j1, u2⟩ := pos_of_mul eb hby u.by0
    have tc : T.c.z = 0 := (ft.z (by omega)).2.2
    have uc : U.c.z = 0 := (fu.z (by omega)).2.2
    have hij : 0 < i * j := Int.mul_pos i1 j1
    refine ⟨Int.mul_pos u1 u2, i * j, by omega, ?_, fun hm => ?_⟩
    · rw [ea, eb]; generalize U.a.x = p; generalize U.b.y = q; grind
    · obtain ⟨hi, hj⟩ := one_of_mul i1 j1 hm
      exact same_pivots t u h (by rw [ea, hi]; omega) (by rw [eb, hj]; omega) (by omega)
  · have e : ∀ S, idxOf ((3 : Nat) : Int) S = S.a.x * S.b.y * S.c.z := fun S => rfl
    rw [e] at hp ⊢
    rw [e]
    have hcz : 0 < T.c.z := by
      rcases Int.lt_or_le 0 T.c.z with q | q
      · exact q
      · have : T.c.z = 0 := by have := t.cz; omega
        rw [this] at hp; simp at hp
    have hab : T.a.x * T.b.y ≠ 0 := fun e => by rw [e] at hp; simp at hp
    have hax : 0 < T.a.x := by
      rcases Int.lt_or_le 0 T.a.x with q | q
      · exact q
      · have : T.a.x = 0 := by have := t.ax; omega
        rw [this] at hab; simp at hab
    have hby : 0 < T.b.y := by
      rcases Int.lt_or_le 0 T.b.y with q | q
      · exact q
      · have : T.b.y = 0 := by have := t.by0; omega
        rw [this] at hab; simp at hab
    obtain ⟨i1, u1⟩ := pos_of_mul ea hax u.ax
    obtain ⟨j1, u2⟩ := pos_of_mul eb hby u.by0
    obtain ⟨k1, u3⟩ := pos_of_mul ec hcz u.cz
    have hij : 0 < i * j := Int.mul_pos i1 j1
    have hijk : 0 < i * j * k := Int.mul_pos hij k1
    refine ⟨Int.mul_pos (Int.mul_pos u1 u2) u3, i * j * k, by omega, ?_, fun hm => ?_⟩
    · rw [ea, eb, ec]; generalize U.a.x = p; generalize U.b.y = q; generalize U.c.z = r; grind
    · obtain ⟨hij1, hk⟩ := one_of_mul hij k1 hm
      obtain ⟨hi, hj⟩ := one_of_mul i1 j1 hij1
      exact same_pivots t u h (by rw [ea, hi]; omega) (by rw [eb, hj]; omega) (by rw [ec, hk]; omega)

end Go.Proofs.Ytmlcblnndihjoab
