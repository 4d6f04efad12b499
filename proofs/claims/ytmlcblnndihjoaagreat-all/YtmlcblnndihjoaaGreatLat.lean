

namespace Go.Proofs.YtmlcblnndihjoaaGreat.Lat

structure V where
  x : Int
  y : Int
  z : Int

theorem V.same {u v : V} (h1 : u.x = v.x) (h2 : u.y = v.y) (h3 : u.z = v.z) : u = v := by
  cases u; cases v; simp_all

structure St where
  a : V
  b : V
  c : V

theorem St.same {S T : St} (h1 : S.a = T.a) (h2 : S.b = T.b) (h3 : S.c = T.c) : S = T := by
  cases S; cases T; simp_all

/-- v is a sum of multiples of the three rows. -/
def Mem (S : St) (v : V) : Prop :=
  ∃ i j k : Int, v.x = i * S.a.x + j * S.b.x + k * S.c.x ∧ v.y = i * S.a.y + j * S.b.y + k * S.c.y ∧ v.z = i * S.a.z + j * S.b.z + k * S.c.z

/-- v is a sum of multiples of the vectors of a list. -/
def InSpan : List V → V → Prop
  | [], v => v.x = 0 ∧ v.y = 0 ∧ v.z = 0
  | g :: G, v => ∃ (k : Int) (u : V), InSpan G u ∧ v.x = k * g.x + u.x ∧ v.y = k * g.y + u.y ∧ v.z = k * g.z + u.z

/-- The shape of a canonical basis: row c's pivot stands in column c, or the row is of noughts. -/
structure Shape (S : St) : Prop where
  ax : 0 ≤ S.a.x
  bx : S.b.x = 0
  cx : S.c.x = 0
  by0 : 0 ≤ S.b.y
  cy : S.c.y = 0
  cz : 0 ≤ S.c.z
  a0 : S.a.x = 0 → S.a.y = 0 ∧ S.a.z = 0
  b0 : S.b.y = 0 → S.b.z = 0
  ay : 0 < S.b.y → 0 ≤ S.a.y ∧ S.a.y < S.b.y
  az : 0 < S.c.z → 0 ≤ S.a.z ∧ S.a.z < S.c.z
  bz : 0 < S.c.z → 0 ≤ S.b.z ∧ S.b.z < S.c.z

theorem Mem.ra (S : St) : Mem S S.a := ⟨1, 0, 0, by omega, by omega, by omega⟩
theorem Mem.rb (S : St) : Mem S S.b := ⟨0, 1, 0, by omega, by omega, by omega⟩
theorem Mem.rc (S : St) : Mem S S.c := ⟨0, 0, 1, by omega, by omega, by omega⟩

theorem Mem.sub {S : St} {u v : V} (hu : Mem S u) (hv : Mem S v) : Mem S ⟨u.x - v.x, u.y - v.y, u.z - v.z⟩ := by
  obtain ⟨i, j, k, h1, h2, h3⟩ := hu
  obtain ⟨i', j', k', g1, g2, g3⟩ := hv
  exact ⟨i - i', j - j', k - k', by grind, by grind, by grind⟩

theorem Mem.comb {S : St} {u v : V} (hu : Mem S u) (hv : Mem S v) (p q : Int) : Mem S ⟨p * u.x + q * v.x, p * u.y + q * v.y, p * u.z + q * v.z⟩ := by
  obtain ⟨i, j, k, h1, h2, h3⟩ := hu
  obtain ⟨i', j', k', g1, g2, g3⟩ := hv
  exact ⟨p * i + q * i', p * j + q * j', p * k + q * k', by grind, by grind, by grind⟩

theorem eq_of_dvd {a b i j : Int} (ha : 0 ≤ a) (hb : 0 ≤ b) (h1 : a = i * b) (h2 : b = j * a) : a = b := by
  have d1 : b ∣ a := ⟨i, by rw [h1]; exact Int.mul_comm _ _⟩
  have d2 : a ∣ b := ⟨j, by rw [h2]; exact Int.mul_comm _ _⟩
  exact Int.dvd_antisymm ha hb d2 d1

theorem small_mul {k p d : Int} (h : d = k * p) (h1 : -p < d) (h2 : d < p) : k = 0 ∨ p = 0 := by
  by_cases hk : k = 0
  · exact Or.inl hk
  · right
    by_cases hp : p = 0
    · exact hp
    · exfalso
      have hp' : 0 < p := by omega
      rcases Int.lt_or_gt_of_ne hk with h3 | h3
      · have : k * p ≤ (-1) * p := Int.mul_le_mul_of_nonneg_right (by omega) (by omega)
        omega
      · have : 1 * p ≤ k * p := Int.mul_le_mul_of_nonneg_right (by omega) (by omega)
        omega

/-- With the first entry 0 a vector of the lattice is made of the two last rows. -/
theorem Mem.tail {S : St} (s : Shape S) {v : V} (h : Mem S v) (h0 : v.x = 0) : ∃ j k : Int, v.y = j * S.b.y ∧ v.z = j * S.b.z + k * S.c.z := by
  obtain ⟨i, j, k, h1, h2, h3⟩ := h
  have hb := s.bx; have hc := s.cx; have hcy := s.cy
  rw [hb, hc, h0] at h1
  have h1' : i * S.a.x = 0 := by omega
  rcases Int.mul_eq_zero.1 h1' with hi | ha
  · subst hi
    exact ⟨j, k, by rw [hcy] at h2; simp at h2; omega, by simp at h3; omega⟩
  · obtain ⟨e1, e2⟩ := s.a0 ha
    rw [e1, hcy] at h2; rw [e2] at h3
    exact ⟨j, k, by simp at h2; omega, by simp at h3; omega⟩

theorem Mem.tail2 {S : St} (s : Shape S) {v : V} (h : Mem S v) (h0 : v.x = 0) (h1 : v.y = 0) : ∃ k : Int, v.z = k * S.c.z := by
  obtain ⟨j, k, h2, h3⟩ := h.tail s h0
  rw [h1] at h2
  rcases Int.mul_eq_zero.1 h2.symm with hj | hb
  · subst hj; exact ⟨k, by simp at h3; omega⟩
  · rw [s.b0 hb] at h3; exact ⟨k, by simp at h3; omega⟩

/-- A LATTICE HAS ONE CANONICAL BASIS. -/
theorem one_basis {S T : St} (s : Shape S) (t : Shape T) (h : ∀ v, Mem S v ↔ Mem T v) : S = T := by
  -- the first pivots
  have pa : S.a.x = T.a.x := by
    obtain ⟨i, j, k, h1, _, _⟩ := (h _).1 (Mem.ra S)
    obtain ⟨i', j', k', g1, _, _⟩ := (h _).2 (Mem.ra T)
    rw [t.bx, t.cx] at h1; rw [s.bx, s.cx] at g1
    exact eq_of_dvd s.ax t.ax (i := i) (j := i') (by omega) (by omega)
  have pb : S.b.y = T.b.y := by
    obtain ⟨j, k, h1, _⟩ := ((h _).1 (Mem.rb S)).tail t s.bx
    obtain ⟨j', k', g1, _⟩ := ((h _).2 (Mem.rb T)).tail s t.bx
    exact eq_of_dvd s.by0 t.by0 h1 g1
  have pc : S.c.z = T.c.z := by
    obtain ⟨k, h1⟩ := ((h _).1 (Mem.rc S)).tail2 t s.cx s.cy
    obtain ⟨k', g1⟩ := ((h _).2 (Mem.rc T)).tail2 s t.cx t.cy
    exact eq_of_dvd s.cz t.cz h1 g1
  have ec : S.c = T.c := V.same (by rw [s.cx, t.cx]) (by rw [s.cy, t.cy]) pc
  have hb : Mem T ⟨S.b.x - T.b.x, S.b.y - T.b.y, S.b.z - T.b.z⟩ := ((h _).1 (Mem.rb S)).sub (Mem.rb T)
  have eb : S.b = T.b := by
    refine V.same (by rw [s.bx, t.bx]) pb ?_
    obtain ⟨k, hk⟩ := hb.tail2 t (by show _ - _ = _; rw [s.bx, t.bx]; rfl) (by show _ - _ = (0 : Int); omega)
    have hk' : S.b.z - T.b.z = k * T.c.z := hk
    by_cases hz : T.c.z = 0
    · rw [hz] at hk'; simp at hk'; omega
    · have hz' : 0 < T.c.z := by have := t.cz; omega
      have q1 := t.bz hz'
      have q2 := s.bz (by omega)
      rcases small_mul hk' (by omega) (by omega) with e | e
      · subst e; simp at hk'; omega
      · omega
  have ha : Mem T ⟨S.a.x - T.a.x, S.a.y - T.a.y, S.a.z - T.a.z⟩ := ((h _).1 (Mem.ra S)).sub (Mem.ra T)
  have ea : S.a = T.a := by
    obtain ⟨j, k, hj, hk⟩ := ha.tail t (by show _ - _ = (0 : Int); omega)
    have hj' : S.a.y - T.a.y = j * T.b.y := hj
    have hk' : S.a.z - T.a.z = j * T.b.z + k * T.c.z := hk
    have ey : S.a.y = T.a.y ∧ j * T.b.z = 0 := by
      by_cases hy : T.b.y = 0
      · rw [hy] at hj'; rw [t.b0 hy]; simp at hj' ⊢; omega
      · have hy' : 0 < T.b.y := by have := t.by0; omega
        have q1 := t.ay hy'
        have q2 := s.ay (by omega)
        rcases small_mul hj' (by omega) (by omega) with e | e
        · subst e; simp at hj' ⊢; omega
        · omega
    refine V.same pa ey.1 ?_
    rw [ey.2] at hk'
    by_cases hz : T.c.z = 0
    · rw [hz] at hk'; simp at hk'; omega
    · have hz' : 0 < T.c.z := by have := t.cz; omega
      have q1 := t.az hz'
      have q2 := s.az (by omega)
      rcases small_mul (k := k) (p := T.c.z) (d := S.a.z - T.a.z) (by omega) (by omega) (by omega) with e | e
      · subst e; simp at hk'; omega
      · omega
  exact St.same ea eb ec

/-! what a list generates -/

theorem lin_zero {A B C : Int} : ∀ {G : List V}, (∀ g ∈ G, A * g.x + B * g.y + C * g.z = 0) → ∀ {u : V}, InSpan G u → A * u.x + B * u.y + C * u.z = 0
  | [], _, u, hu => by obtain ⟨h1, h2, h3⟩ := hu; rw [h1, h2, h3]; simp
  | g :: G, h, u, hu => by
    obtain ⟨k, v, hv, h1, h2, h3⟩ := hu
    have e1 := h g (by simp)
    have e2 := lin_zero (fun g' hg' => h g' (by simp [hg'])) hv
    grind

theorem InSpan.zero : ∀ (G : List V), InSpan G ⟨0, 0, 0⟩
  | [] => ⟨rfl, rfl, rfl⟩
  | _ :: G => ⟨0, ⟨0, 0, 0⟩, InSpan.zero G, by simp, by simp, by simp⟩

theorem InSpan.comb : ∀ {G : List V} {u v : V}, InSpan G u → InSpan G v → ∀ (p q : Int), InSpan G ⟨p * u.x + q * v.x, p * u.y + q * v.y, p * u.z + q * v.z⟩
  | [], u, v, hu, hv, p, q => by
    obtain ⟨h1, h2, h3⟩ := hu; obtain ⟨g1, g2, g3⟩ := hv
    exact ⟨by simp [h1, g1], by simp [h2, g2], by simp [h3, g3]⟩
  | g :: G, u, v, hu, hv, p, q => by
    obtain ⟨k, u', hu', h1, h2, h3⟩ := hu; obtain ⟨l, v', hv', g1, g2, g3⟩ := hv
    exact ⟨p * k + q * l, _, hu'.comb hv' p q, by grind, by grind, by grind⟩

theorem InSpan.of_mem : ∀ {G : List V} {g : V}, g ∈ G → InSpan G g
  | h :: G, g, hg => by
    rcases List.mem_cons.1 hg with e | e
    · subst e; exact ⟨1, ⟨0, 0, 0⟩, InSpan.zero G, by simp, by simp, by simp⟩
    · exact ⟨0, g, InSpan.of_mem e, by simp, by simp, by simp⟩

/-- What lies in the span of a list whose vectors all lie in something closed lies there. -/
theorem InSpan.lift {P : V → Prop} (h0 : P ⟨0, 0, 0⟩) (hc : ∀ u v, P u → P v → ∀ p q : Int, P ⟨p * u.x + q * v.x, p * u.y + q * v.y, p * u.z + q * v.z⟩) :
    ∀ {G : List V}, (∀ g ∈ G, P g) → ∀ {u : V}, InSpan G u → P u
  | [], _, u, hu => by
    obtain ⟨h1, h2, h3⟩ := hu
    have : u = ⟨0, 0, 0⟩ := V.same h1 h2 h3
    rw [this]; exact h0
  | g :: G, h, u, hu => by
    obtain ⟨k, v, hv, h1, h2, h3⟩ := hu
    have e2 := InSpan.lift h0 hc (fun g' hg' => h g' (by simp [hg'])) hv
    have e1 := hc g v (h g (by simp)) e2 k 1
    have : u = ⟨k * g.x + 1 * v.x, k * g.y + 1 * v.y, k * g.z + 1 * v.z⟩ := V.same (by simp [h1]) (by simp [h2]) (by simp [h3])
    rw [this]; exact e1

theorem InSpan.sub_list {G H : List V} (h : ∀ g ∈ G, InSpan H g) {u : V} (hu : InSpan G u) : InSpan H u :=
  InSpan.lift (InSpan.zero H) (fun _ _ a b p q => a.comb b p q) h hu

theorem Mem.zero (S : St) : Mem S ⟨0, 0, 0⟩ := ⟨0, 0, 0, by simp, by simp, by simp⟩

theorem Mem.iff_span (S : St) (v : V) : Mem S v ↔ InSpan [S.a, S.b, S.c] v := by
  constructor
  · rintro ⟨i, j, k, h1, h2, h3⟩
    exact ⟨i, ⟨j * S.b.x + k * S.c.x, j * S.b.y + k * S.c.y, j * S.b.z + k * S.c.z⟩,
      ⟨j, ⟨k * S.c.x, k * S.c.y, k * S.c.z⟩, ⟨k, ⟨0, 0, 0⟩, ⟨rfl, rfl, rfl⟩, by simp, by simp, by simp⟩, rfl, rfl, rfl⟩, by simp [h1]; omega, by simp [h2]; omega, by simp [h3]; omega⟩
  · exact InSpan.lift (Mem.zero S) (fun _ _ a b p q => a.comb b p q) (fun g hg => by
      simp at hg; rcases hg with e | e | e <;> subst e
      · exact Mem.ra S
      · exact Mem.rb S
      · exact Mem.rc S)

/-- S is the canonical basis of what G generates. -/
structure CanonOf (S : St) (G : List V) : Prop where
  shape : Shape S
  span : ∀ v, Mem S v ↔ InSpan G v

theorem CanonOf.one {S T : St} {G H : List V} (s : CanonOf S G) (t : CanonOf T H) (h : ∀ v, InSpan G v ↔ InSpan H v) : S = T :=
  one_basis s.shape t.shape (fun v => (s.span v).trans ((h v).trans (t.span v).symm))

theorem CanonOf.nil : CanonOf ⟨⟨0, 0, 0⟩, ⟨0, 0, 0⟩, ⟨0, 0, 0⟩⟩ [] :=
  ⟨⟨by simp, rfl, rfl, by simp, rfl, by simp, by simp, by simp, by simp, by simp, by simp⟩, fun v => by
    constructor
    · rintro ⟨i, j, k, h1, h2, h3⟩; exact ⟨by simpa using h1, by simpa using h2, by simpa using h3⟩
    · rintro ⟨h1, h2, h3⟩; exact ⟨0, 0, 0, by simpa using h1, by simpa using h2, by simpa using h3⟩⟩

/-- no entry beyond M -/
def Le (M : Int) (v : V) : Prop := (-M ≤ v.x ∧ v.x ≤ M) ∧ (-M ≤ v.y ∧ v.y ≤ M) ∧ (-M ≤ v.z ∧ v.z ≤ M)

def det (u v w : V) : Int := u.x * (v.y * w.z - v.z * w.y) - u.y * (v.x * w.z - v.z * w.x) + u.z * (v.x * w.y - v.y * w.x)

theorem det_zero {G : List V} (h : ∀ f ∈ G, ∀ g ∈ G, ∀ k ∈ G, det f g k = 0) {u v w : V} (hu : InSpan G u) (hv : InSpan G v) (hw : InSpan G w) : det u v w = 0 := by
  have s1 : ∀ f ∈ G, ∀ g ∈ G, det f g w = 0 := fun f hf g hg => by
    have := lin_zero (A := f.y * g.z - f.z * g.y) (B := f.z * g.x - f.x * g.z) (C := f.x * g.y - f.y * g.x) (fun k hk => by have := h f hf g hg k hk; unfold det at this; grind) hw
    unfold det; grind
  have s2 : ∀ f ∈ G, det f v w = 0 := fun f hf => by
    have := lin_zero (A := w.y * f.z - w.z * f.y) (B := w.z * f.x - w.x * f.z) (C := w.x * f.y - w.y * f.x) (fun g hg => by have := s1 f hf g hg; unfold det at this; grind) hv
    unfold det; grind
  have := lin_zero (A := v.y * w.z - v.z * w.y) (B := v.z * w.x - v.x * w.z) (C := v.x * w.y - v.y * w.x) (fun f hf => by have := s2 f hf; unfold det at this; grind) hu
  unfold det; grind

theorem abs_mul_le {a b A B : Int} (h1 : -A ≤ a) (h2 : a ≤ A) (h3 : -B ≤ b) (h4 : b ≤ B) : -(A * B) ≤ a * b ∧ a * b ≤ A * B := by
  have e : (a * b).natAbs = a.natAbs * b.natAbs := Int.natAbs_mul a b
  have m : a.natAbs * b.natAbs ≤ A.toNat * B.toNat := Nat.mul_le_mul (by omega) (by omega)
  have c : ((A.toNat * B.toNat : Nat) : Int) = A * B := by
    rw [Int.natCast_mul, Int.toNat_of_nonneg (by omega), Int.toNat_of_nonneg (by omega)]
  omega

/-- a multiple other than 0 is no smaller -/
theorem le_of_mul {a t b : Int} (h : b = t * a) (h0 : t ≠ 0) {M : Int} (h1 : -M ≤ b) (h2 : b ≤ M) : -M ≤ a ∧ a ≤ M := by
  have e : b.natAbs = t.natAbs * a.natAbs := by rw [h]; exact Int.natAbs_mul t a
  have m : 1 * a.natAbs ≤ t.natAbs * a.natAbs := Nat.mul_le_mul (by omega) (Nat.le_refl _)
  omega

/-! bounds -/

theorem ex_of_lin {A B C : Int} {G : List V} {u : V} (hu : InSpan G u) (h : A * u.x + B * u.y + C * u.z ≠ 0) : ∃ g ∈ G, A * g.x + B * g.y + C * g.z ≠ 0 :=
  Classical.byContradiction fun hn => h (lin_zero (fun g hg => Classical.byContradiction fun hne => hn ⟨g, hg, hne⟩) hu)

theorem ex_bilin (f : V → V → Int) (L : V → V) (R : V → V)
    (hL : ∀ u v, f u v = (L v).x * u.x + (L v).y * u.y + (L v).z * u.z)
    (hR : ∀ u v, f u v = (R u).x * v.x + (R u).y * v.y + (R u).z * v.z)
    {G : List V} {r s : V} (hr : InSpan G r) (hs : InSpan G s) (h : f r s ≠ 0) : ∃ g ∈ G, ∃ k ∈ G, f g k ≠ 0 := by
  rw [hL] at h
  obtain ⟨g, hg, h2⟩ := ex_of_lin hr h
  rw [← hL, hR] at h2
  obtain ⟨k, hk, h3⟩ := ex_of_lin hs h2
  rw [← hR] at h3
  exact ⟨g, hg, k, hk, h3⟩

def mxy (u v : V) : Int := u.x * v.y - u.y * v.x
def mxz (u v : V) : Int := u.x * v.z - u.z * v.x
def myz (u v : V) : Int := u.y * v.z - u.z * v.y

theorem two_mul_le {a b c d M : Int} (h1 : -M ≤ a ∧ a ≤ M) (h2 : -M ≤ b ∧ b ≤ M) (h3 : -M ≤ c ∧ c ≤ M) (h4 : -M ≤ d ∧ d ≤ M) : -(2 * (M * M)) ≤ a * b - c * d ∧ a * b - c * d ≤ 2 * (M * M) := by
  have e1 := abs_mul_le h1.1 h1.2 h2.1 h2.2
  have e2 := abs_mul_le h3.1 h3.2 h4.1 h4.2
  omega

theorem pair_minors {G : List V} {M : Int} (hG : ∀ g ∈ G, Le M g) {r s : V} (hr : InSpan G r) (hs : InSpan G s)
    (hm : ∀ g ∈ G, ∃ i j : Int, g.x = i * r.x + j * s.x ∧ g.y = i * r.y + j * s.y ∧ g.z = i * r.z + j * s.z)
    (h : mxy r s ≠ 0 ∨ mxz r s ≠ 0 ∨ myz r s ≠ 0) :
    (-(2 * (M * M)) ≤ mxy r s ∧ mxy r s ≤ 2 * (M * M)) ∧ (-(2 * (M * M)) ≤ mxz r s ∧ mxz r s ≤ 2 * (M * M)) ∧ (-(2 * (M * M)) ≤ myz r s ∧ myz r s ≤ 2 * (M * M)) := by
  have key : ∃ f ∈ G, ∃ g ∈ G, mxy f g ≠ 0 ∨ mxz f g ≠ 0 ∨ myz f g ≠ 0 := by
    rcases h with h | h | h
    · obtain ⟨f, hf, g, hg, e⟩ := ex_bilin mxy (fun v => ⟨v.y, -v.x, 0⟩) (fun u => ⟨-u.y, u.x, 0⟩) (fun u v => by simp only [mxy]; grind) (fun u v => by simp only [mxy]; grind) hr hs h
      exact ⟨f, hf, g, hg, Or.inl e⟩
    · obtain ⟨f, hf, g, hg, e⟩ := ex_bilin mxz (fun v => ⟨v.z, 0, -v.x⟩) (fun u => ⟨-u.z, 0, u.x⟩) (fun u v => by simp only [mxz]; grind) (fun u v => by simp only [mxz]; grind) hr hs h
      exact ⟨f, hf, g, hg, Or.inr (Or.inl e)⟩
    · obtain ⟨f, hf, g, hg, e⟩ := ex_bilin myz (fun v => ⟨0, v.z, -v.y⟩) (fun u => ⟨0, -u.z, u.y⟩) (fun u v => by simp only [myz]; grind) (fun u v => by simp only [myz]; grind) hr hs h
      exact ⟨f, hf, g, hg, Or.inr (Or.inr e)⟩
  obtain ⟨f, hf, g, hg, hne⟩ := key
  obtain ⟨i, j, f1, f2, f3⟩ := hm f hf
  obtain ⟨k, l, g1, g2, g3⟩ := hm g hg
  have e1 : mxy f g = (i * l - j * k) * mxy r s := by simp only [mxy]; grind
  have e2 : mxz f g = (i * l - j * k) * mxz r s := by simp only [mxz]; grind
  have e3 : myz f g = (i * l - j * k) * myz r s := by simp only [myz]; grind
  have t0 : i * l - j * k ≠ 0 := by
    intro e; rw [e] at e1 e2 e3; simp at e1 e2 e3; omega
  obtain ⟨fx, fy, fz⟩ := hG f hf
  obtain ⟨gx, gy, gz⟩ := hG g hg
  have b1 := two_mul_le fx gy fy gx
  have b2 := two_mul_le fx gz fz gx
  have b3 := two_mul_le fy gz fz gy
  exact ⟨le_of_mul e1 t0 b1.1 b1.2, le_of_mul e2 t0 b2.1 b2.2, le_of_mul e3 t0 b3.1 b3.2⟩

theorem single_le {G : List V} {M : Int} (hG : ∀ g ∈ G, Le M g) {r : V} (hr : InSpan G r)
    (hm : ∀ g ∈ G, ∃ i : Int, g.x = i * r.x ∧ g.y = i * r.y ∧ g.z = i * r.z)
    (h : r.x ≠ 0 ∨ r.y ≠ 0 ∨ r.z ≠ 0) : Le M r := by
  have key : ∃ g ∈ G, g.x ≠ 0 ∨ g.y ≠ 0 ∨ g.z ≠ 0 := by
    rcases h with h | h | h
    · obtain ⟨g, hg, e⟩ := ex_of_lin (A := 1) (B := 0) (C := 0) hr (by simpa using h)
      exact ⟨g, hg, by simp at e; exact Or.inl e⟩
    · obtain ⟨g, hg, e⟩ := ex_of_lin (A := 0) (B := 1) (C := 0) hr (by simpa using h)
      exact ⟨g, hg, by simp at e; exact Or.inr (Or.inl e)⟩
    · obtain ⟨g, hg, e⟩ := ex_of_lin (A := 0) (B := 0) (C := 1) hr (by simpa using h)
      exact ⟨g, hg, by simp at e; exact Or.inr (Or.inr e)⟩
  obtain ⟨g, hg, hne⟩ := key
  obtain ⟨i, e1, e2, e3⟩ := hm g hg
  have t0 : i ≠ 0 := by intro e; rw [e] at e1 e2 e3; simp at e1 e2 e3; omega
  obtain ⟨fx, fy, fz⟩ := hG g hg
  exact ⟨le_of_mul e1 t0 fx.1 fx.2, le_of_mul e2 t0 fy.1 fy.2, le_of_mul e3 t0 fz.1 fz.2⟩

theorem grow {a b : Int} (ha : 0 ≤ a) (hb : 1 ≤ b) : a ≤ a * b ∧ a ≤ b * a := by
  have := Int.mul_le_mul_of_nonneg_left (a := 1) (b := b) (c := a) hb ha
  rw [Int.mul_comm b a]; omega

theorem le_mul_pos {a b B : Int} (ha : 0 < a) (h1 : -B ≤ a * b) (h2 : a * b ≤ B) : -B ≤ b ∧ b ≤ B :=
  le_of_mul rfl (by omega) h1 h2

theorem Le.mono {M N : Int} (h : M ≤ N) {v : V} (hv : Le M v) : Le N v := by
  unfold Le at *; omega

/-- Where a lattice has fewer than three rows. -/
theorem CanonOf.bound2 {S : St} {G : List V} {M : Int} (s : CanonOf S G) (hM : 1 ≤ M) (hG : ∀ g ∈ G, Le M g) (hr : S.a.x = 0 ∨ S.b.y = 0 ∨ S.c.z = 0) :
    Le (2 * (M * M)) S.a ∧ Le (2 * (M * M)) S.b ∧ Le (2 * (M * M)) S.c := by
  have hMM : M ≤ 2 * (M * M) := by have := Int.mul_le_mul_of_nonneg_right (a := 1) (b := M) (c := M) hM (by omega); omega
  have sh := s.shape
  have ia := (s.span _).1 (Mem.ra S)
  have ib := (s.span _).1 (Mem.rb S)
  have ic := (s.span _).1 (Mem.rc S)
  have mem := fun g (hg : g ∈ G) => (s.span g).2 (InSpan.of_mem hg)
  have bx := sh.bx; have cx := sh.cx; have cy := sh.cy
  have zero : ∀ v : V, v.x = 0 → v.y = 0 → v.z = 0 → Le (2 * (M * M)) v := fun v h1 h2 h3 => by unfold Le; omega
  by_cases ha : S.a.x = 0
  · obtain ⟨ay, az⟩ := sh.a0 ha
    refine ⟨zero _ ha ay az, ?_⟩
    by_cases hb : S.b.y = 0
    · have hbz := sh.b0 hb
      refine ⟨zero _ bx hb hbz, ?_⟩
      by_cases hc : S.c.z = 0
      · exact zero _ cx cy hc
      · refine (single_le hG ic (fun g hg => ?_) (Or.inr (Or.inr hc))).mono hMM
        obtain ⟨i, j, k, h1, h2, h3⟩ := mem g hg
        exact ⟨k, by grind, by grind, by grind⟩
    · by_cases hc : S.c.z = 0
      · refine ⟨(single_le hG ib (fun g hg => ?_) (Or.inr (Or.inl hb))).mono hMM, zero _ cx cy hc⟩
        obtain ⟨i, j, k, h1, h2, h3⟩ := mem g hg
        exact ⟨j, by grind, by grind, by grind⟩
      · have hb' : 0 < S.b.y := by have := sh.by0; omega
        have hc' : 0 < S.c.z := by have := sh.cz; omega
        have hm : myz S.b S.c = S.b.y * S.c.z := by simp only [myz]; rw [cy]; simp
        have hne : S.b.y * S.c.z ≠ 0 := fun e => by rcases Int.mul_eq_zero.1 e with e | e <;> omega
        obtain ⟨_, _, b3⟩ := pair_minors hG ib ic (fun g hg => by
          obtain ⟨i, j, k, h1, h2, h3⟩ := mem g hg
          exact ⟨j, k, by grind, by grind, by grind⟩) (Or.inr (Or.inr (by rw [hm]; exact hne)))
        rw [hm] at b3
        have q1 := le_mul_pos hb' b3.1 b3.2
        rw [Int.mul_comm S.b.y] at b3
        have q2 := le_mul_pos hc' b3.1 b3.2
        have := sh.bz hc'
        unfold Le; omega
  · have ha' : 0 < S.a.x := by have := sh.ax; omega
    by_cases hb : S.b.y = 0
    · have hbz := sh.b0 hb
      by_cases hc : S.c.z = 0
      · refine ⟨(single_le hG ia (fun g hg => ?_) (Or.inl ha)).mono hMM, zero _ bx hb hbz, zero _ cx cy hc⟩
        obtain ⟨i, j, k, h1, h2, h3⟩ := mem g hg
        exact ⟨i, by grind, by grind, by grind⟩
      · have hc' : 0 < S.c.z := by have := sh.cz; omega
        have hm : mxz S.a S.c = S.a.x * S.c.z := by simp only [mxz]; rw [cx]; simp
        have hm2 : myz S.a S.c = S.a.y * S.c.z := by simp only [myz]; rw [cy]; simp
        have hne : S.a.x * S.c.z ≠ 0 := fun e => by rcases Int.mul_eq_zero.1 e with e | e <;> omega
        obtain ⟨_, b2, b3⟩ := pair_minors hG ia ic (fun g hg => by
          obtain ⟨i, j, k, h1, h2, h3⟩ := mem g hg
          exact ⟨i, k, by grind, by grind, by grind⟩) (Or.inr (Or.inl (by rw [hm]; exact hne)))
        rw [hm] at b2; rw [hm2] at b3
        have q1 := le_mul_pos ha' b2.1 b2.2
        rw [Int.mul_comm S.a.x] at b2; rw [Int.mul_comm S.a.y] at b3
        have q2 := le_mul_pos hc' b2.1 b2.2
        have q3 := le_mul_pos hc' b3.1 b3.2
        have := sh.az hc'
        unfold Le; omega
    · have hc : S.c.z = 0 := by omega
      have hb' : 0 < S.b.y := by have := sh.by0; omega
      have hm1 : mxy S.a S.b = S.a.x * S.b.y := by simp only [mxy]; rw [bx]; simp
      have hm2 : mxz S.a S.b = S.a.x * S.b.z := by simp only [mxz]; rw [bx]; simp
      have hm3 : myz S.a S.b = S.a.y * S.b.z - S.a.z * S.b.y := by simp only [myz]
      have hne : S.a.x * S.b.y ≠ 0 := fun e => by rcases Int.mul_eq_zero.1 e with e | e <;> omega
      obtain ⟨b1, b2, b3⟩ := pair_minors hG ia ib (fun g hg => by
          obtain ⟨i, j, k, h1, h2, h3⟩ := mem g hg
          exact ⟨i, j, by grind, by grind, by grind⟩) (Or.inl (by rw [hm1]; exact hne))
      rw [hm1] at b1; rw [hm2] at b2; rw [hm3] at b3
      have q1 := le_mul_pos ha' b1.1 b1.2
      have q2 := le_mul_pos ha' b2.1 b2.2
      rw [Int.mul_comm S.a.x] at b1
      have q3 := le_mul_pos hb' b1.1 b1.2
      have q4 := sh.ay hb'
      have q5 := abs_mul_le (a := S.a.y) (A := S.b.y - 1) (by omega) (by omega) q2.1 q2.2
      have q6 : (S.b.y - 1) * (2 * (M * M)) = S.b.y * (2 * (M * M)) - 2 * (M * M) := by grind
      have q7 : -(S.b.y * (2 * (M * M))) ≤ S.b.y * S.a.z ∧ S.b.y * S.a.z ≤ S.b.y * (2 * (M * M)) := by
        rw [Int.mul_comm S.b.y S.a.z]; omega
      have q8 : S.a.z ≤ 2 * (M * M) := Int.le_of_mul_le_mul_left q7.2 hb'
      have q9 : -(2 * (M * M)) ≤ S.a.z := Int.le_of_mul_le_mul_left (a := S.b.y) (by rw [Int.mul_neg]; exact q7.1) hb'
      unfold Le; omega

/-- The first pivot. -/
theorem CanonOf.first {S : St} {G : List V} {M : Int} (s : CanonOf S G) (hM : 1 ≤ M) (hG : ∀ g ∈ G, Le M g) : S.a.x ≤ M := by
  by_cases ha : S.a.x = 0
  · omega
  · obtain ⟨g, hg, e⟩ := ex_of_lin (A := 1) (B := 0) (C := 0) ((s.span _).1 (Mem.ra S)) (by simpa using ha)
    obtain ⟨i, j, k, h1, _, _⟩ := (s.span g).2 (InSpan.of_mem hg)
    rw [s.shape.bx, s.shape.cx] at h1
    obtain ⟨gx, _⟩ := hG g hg
    exact (le_of_mul (t := i) (a := S.a.x) (b := g.x) (by omega) (by intro e2; subst e2; simp at h1 e; omega) gx.1 gx.2).2

theorem det_le {u v w : V} {M : Int} (hu : Le M u) (hv : Le M v) (hw : Le M w) : -(6 * (M * M * M)) ≤ det u v w ∧ det u v w ≤ 6 * (M * M * M) := by
  obtain ⟨ux, uy, uz⟩ := hu; obtain ⟨vx, vy, vz⟩ := hv; obtain ⟨wx, wy, wz⟩ := hw
  have b1 := two_mul_le vy wz vz wy
  have b2 := two_mul_le vx wz vz wx
  have b3 := two_mul_le vx wy vy wx
  have c1 := abs_mul_le ux.1 ux.2 b1.1 b1.2
  have c2 := abs_mul_le uy.1 uy.2 b2.1 b2.2
  have c3 := abs_mul_le uz.1 uz.2 b3.1 b3.2
  have e : M * (2 * (M * M)) = 2 * (M * M * M) := by grind
  rw [e] at c1 c2 c3
  unfold det; omega

/-- Where a lattice has three rows. -/
theorem CanonOf.bound3 {S : St} {G : List V} {M : Int} (s : CanonOf S G) (hG : ∀ g ∈ G, Le M g) (ha : 0 < S.a.x) (hb : 0 < S.b.y) (hc : 0 < S.c.z) :
    S.a.x * S.b.y * S.c.z ≤ 6 * (M * M * M) := by
  have bx := s.shape.bx; have cx := s.shape.cx; have cy := s.shape.cy
  have hd : det S.a S.b S.c = S.a.x * S.b.y * S.c.z := by unfold det; rw [bx, cx, cy]; grind
  have hp : 0 < S.a.x * S.b.y * S.c.z := Int.mul_pos (Int.mul_pos ha hb) hc
  have key : ∃ f ∈ G, ∃ g ∈ G, ∃ k ∈ G, det f g k ≠ 0 := by
    refine Classical.byContradiction fun hn => ?_
    have := det_zero (fun f hf g hg k hk => Classical.byContradiction fun hne => hn ⟨f, hf, g, hg, k, hk, hne⟩) ((s.span _).1 (Mem.ra S)) ((s.span _).1 (Mem.rb S)) ((s.span _).1 (Mem.rc S))
    omega
  obtain ⟨f, hf, g, hg, k, hk, hne⟩ := key
  obtain ⟨i1, j1, k1, f1, f2, f3⟩ := (s.span f).2 (InSpan.of_mem hf)
  obtain ⟨i2, j2, k2, g1, g2, g3⟩ := (s.span g).2 (InSpan.of_mem hg)
  obtain ⟨i3, j3, k3, h1, h2, h3⟩ := (s.span k).2 (InSpan.of_mem hk)
  have e : det f g k = det ⟨i1, j1, k1⟩ ⟨i2, j2, k2⟩ ⟨i3, j3, k3⟩ * (S.a.x * S.b.y * S.c.z) := by
    rw [bx, cx] at f1 g1 h1; rw [cy] at f2 g2 h2
    unfold det; rw [f1, f2, f3, g1, g2, g3, h1, h2, h3]; grind
  have t0 : det ⟨i1, j1, k1⟩ ⟨i2, j2, k2⟩ ⟨i3, j3, k3⟩ ≠ 0 := by intro e0; rw [e0] at e; simp at e; exact hne e
  have b := det_le (hG f hf) (hG g hg) (hG k hk)
  exact (le_of_mul e t0 b.1 b.2).2

/-- Whatever the rank: no entry is beyond 6 M M M. -/
theorem CanonOf.bound {S : St} {G : List V} {M : Int} (s : CanonOf S G) (hM : 1 ≤ M) (hG : ∀ g ∈ G, Le M g) :
    Le (6 * (M * M * M)) S.a ∧ Le (6 * (M * M * M)) S.b ∧ Le (6 * (M * M * M)) S.c := by
  have h0 : 0 ≤ M * M := Int.mul_nonneg (by omega) (by omega)
  have h1 : M * M ≤ M * M * M := (grow h0 hM).1
  by_cases hr : S.a.x = 0 ∨ S.b.y = 0 ∨ S.c.z = 0
  · obtain ⟨p, q, r⟩ := s.bound2 hM hG hr
    exact ⟨p.mono (by omega), q.mono (by omega), r.mono (by omega)⟩
  · have ha : 0 < S.a.x := by have := s.shape.ax; omega
    have hb : 0 < S.b.y := by have := s.shape.by0; omega
    have hc : 0 < S.c.z := by have := s.shape.cz; omega
    have hp := s.bound3 hG ha hb hc
    have hab : 0 < S.a.x * S.b.y := Int.mul_pos ha hb
    have q0 := (grow (a := S.a.x * S.b.y) (b := S.c.z) (by omega) (by omega)).1
    have q1 := (grow (a := S.c.z) (b := S.a.x * S.b.y) (by omega) (by omega)).2
    have q2 := (grow (a := S.a.x) (b := S.b.y) (by omega) (by omega)).1
    have q3 := (grow (a := S.b.y) (b := S.a.x) (by omega) (by omega)).2
    have r1 := s.shape.ay hb; have r2 := s.shape.az hc; have r3 := s.shape.bz hc
    have bx := s.shape.bx; have cx := s.shape.cx; have cy := s.shape.cy
    unfold Le; omega


/-! Euclid's way on two rows -/

def comb (p : Int) (a : V) (q : Int) (b : V) : V := ⟨p * a.x + q * b.x, p * a.y + q * b.y, p * a.z + q * b.z⟩

def less (a : V) (k : Int) (b : V) : V := ⟨a.x - k * b.x, a.y - k * b.y, a.z - k * b.z⟩

def V.at (v : V) (c : Nat) : Int := if c = 0 then v.x else if c = 1 then v.y else v.z

theorem V.at_comb (p : Int) (a : V) (q : Int) (b : V) (c : Nat) : (comb p a q b).at c = p * a.at c + q * b.at c := by
  unfold V.at comb; split
  · rfl
  · split <;> rfl

theorem V.at_less (a : V) (k : Int) (b : V) (c : Nat) : (less a k b).at c = a.at c - k * b.at c := by
  unfold V.at less; split
  · rfl
  · split <;> rfl

theorem V.at0 (v : V) : v.at 0 = v.x := rfl
theorem V.at1 (v : V) : v.at 1 = v.y := rfl
theorem V.at2 (v : V) : v.at 2 = v.z := rfl

theorem V.same_at {u v : V} (h : ∀ c, c < 3 → u.at c = v.at c) : u = v :=
  V.same (h 0 (by omega)) (h 1 (by omega)) (h 2 (by omega))

/-- How far Euclid's way has come from a and b (by their entries in column c): a' and b'. -/
def Euc (c : Nat) (a b a' b' : V) : Prop :=
  ∃ p q r s : Int, a' = comb p a q b ∧ b' = comb r a s b ∧ (p * s - q * r = 1 ∨ p * s - q * r = -1) ∧
    s.natAbs * (a'.at c).natAbs + q.natAbs * (b'.at c).natAbs ≤ (a.at c).natAbs ∧
    r.natAbs * (a'.at c).natAbs + p.natAbs * (b'.at c).natAbs ≤ (b.at c).natAbs ∧
    p.natAbs ≤ max 1 (b.at c).natAbs ∧ r.natAbs ≤ max 1 (b.at c).natAbs ∧ q.natAbs ≤ max 1 (a.at c).natAbs ∧ s.natAbs ≤ max 1 (a.at c).natAbs ∧
    (a'.at c).natAbs ≤ max (a.at c).natAbs (b.at c).natAbs ∧ (b'.at c).natAbs ≤ (b.at c).natAbs ∧ (b.at c = 0 → a' = a ∧ b' = b)

theorem Euc.start (c : Nat) (a b : V) : Euc c a b a b :=
  ⟨1, 0, 0, 1, by simp [comb], by simp [comb], by simp, by simp, by simp, by simp; omega, by simp, by simp, by simp; omega, by omega, by omega, fun _ => ⟨rfl, rfl⟩⟩

theorem euc_nat {A B s q s' q' N : Nat} (h : s * A + q * B ≤ N) (hs : s' ≤ q + A / B * s) (hq : q' = s) : s' * B + q' * (A % B) ≤ N := by
  have h1 : s' * B ≤ (q + A / B * s) * B := Nat.mul_le_mul hs (Nat.le_refl _)
  have h2 : A = B * (A / B) + A % B := (Nat.div_add_mod A B).symm
  have h3 : s * A = s * (B * (A / B)) + s * (A % B) := by rw [← Nat.mul_add, ← h2]
  have h4 : (q + A / B * s) * B = q * B + s * (B * (A / B)) := by rw [Nat.add_mul, Nat.mul_comm (A / B) s, Nat.mul_assoc, Nat.mul_comm (A / B) B]
  subst hq; omega

theorem le_of_mul_pos {r A N : Nat} (h : r * A ≤ N) (hA : 0 < A) : r ≤ N := Nat.le_trans (Nat.le_mul_of_pos_right r hA) h

theorem Euc.step {c : Nat} {a b a' b' : V} (h : Euc c a b a' b') (hb : b'.at c ≠ 0) : Euc c a b b' (less a' ((a'.at c).tdiv (b'.at c)) b') := by
  obtain ⟨p, q, r, s, ha', hb', hd, h1, h2, h3, h4, h5, h6, h7, h8, h9⟩ := h
  have hk : ((a'.at c).tdiv (b'.at c)).natAbs = (a'.at c).natAbs / (b'.at c).natAbs := Int.natAbs_tdiv _ _
  have hm : ((less a' ((a'.at c).tdiv (b'.at c)) b').at c).natAbs = (a'.at c).natAbs % (b'.at c).natAbs := by
    rw [V.at_less, Int.mul_comm, ← Int.tmod_def, Int.natAbs_tmod]
  have hB : 0 < (b'.at c).natAbs := Int.natAbs_pos.2 hb
  generalize (a'.at c).tdiv (b'.at c) = k at *
  have ab : ∀ x y : Int, (x - k * y).natAbs ≤ x.natAbs + k.natAbs * y.natAbs := fun x y => by
    have e := Int.natAbs_mul k y
    rw [← e]; exact Int.natAbs_sub_le x (k * y)
  have n1 := euc_nat h1 (s' := (q - k * s).natAbs) (q' := s.natAbs) (by rw [← hk]; exact ab q s) rfl
  have n2 := euc_nat h2 (s' := (p - k * r).natAbs) (q' := r.natAbs) (by rw [← hk]; exact ab p r) rfl
  have l1 := le_of_mul_pos (r := (q - k * s).natAbs) (Nat.le_trans (Nat.le_add_right _ _) n1) hB
  have l2 := le_of_mul_pos (r := (p - k * r).natAbs) (Nat.le_trans (Nat.le_add_right _ _) n2) hB
  have hlt := Nat.mod_lt (a'.at c).natAbs hB
  refine ⟨r, s, p - k * r, q - k * s, hb', ?_, ?_, ?_, ?_, h4, ?_, h6, ?_, ?_, ?_, ?_⟩
  · clear n1 n2 l1 l2 hm hk hlt h1 h2 h3 h4 h5 h6 h7 h8
    rw [ha', hb']; simp only [less, comb]; refine V.same ?_ ?_ ?_ <;> simp only <;> grind
  · have e : r * (q - k * s) - s * (p - k * r) = -(p * s - q * r) := by clear n1 n2 l1 l2 hm hk; grind
    rw [e]; rcases hd with e2 | e2 <;> rw [e2] <;> simp
  · rw [hm]; exact n1
  · rw [hm]; exact n2
  · exact Nat.le_trans l2 (Nat.le_max_right _ _)
  · exact Nat.le_trans l1 (Nat.le_max_right _ _)
  · exact Nat.le_trans h8 (Nat.le_max_right _ _)
  · rw [hm]; exact Nat.le_trans (Nat.le_of_lt hlt) h8
  · intro e; exact absurd (by rw [(h9 e).2]; exact e) hb

/-- The end of Euclid's way. -/
def Swept (c : Nat) (a b a' b' : V) : Prop :=
  ∃ p q r s : Int, a' = comb p a q b ∧ b' = comb r a s b ∧ (p * s - q * r = 1 ∨ p * s - q * r = -1) ∧ b'.at c = 0 ∧ 0 ≤ a'.at c ∧
    p.natAbs ≤ max 1 (b.at c).natAbs ∧ r.natAbs ≤ max 1 (b.at c).natAbs ∧ q.natAbs ≤ max 1 (a.at c).natAbs ∧ s.natAbs ≤ max 1 (a.at c).natAbs ∧
    (b.at c = 0 → 0 ≤ a.at c → a' = a ∧ b' = b)

theorem Euc.done {c : Nat} {a b a' b' : V} (h : Euc c a b a' b') (hb : b'.at c = 0) (ha : 0 ≤ a'.at c) : Swept c a b a' b' := by
  obtain ⟨p, q, r, s, ha', hb', hd, h1, h2, h3, h4, h5, h6, h7, h8, h9⟩ := h
  exact ⟨p, q, r, s, ha', hb', hd, hb, ha, h3, h4, h5, h6, fun e _ => h9 e⟩

theorem Euc.turned {c : Nat} {a b a' b' : V} (h : Euc c a b a' b') (hb : b'.at c = 0) (ha : a'.at c < 0) : Swept c a b (less ⟨0, 0, 0⟩ 1 a') b' := by
  obtain ⟨p, q, r, s, ha', hb', hd, h1, h2, h3, h4, h5, h6, h7, h8, h9⟩ := h
  refine ⟨-p, -q, r, s, ?_, hb', ?_, hb, ?_, by simpa using h3, h4, by simpa using h5, h6, fun e e2 => ?_⟩
  · rw [ha']; simp only [less, comb]; refine V.same ?_ ?_ ?_ <;> simp only <;> grind
  · have : -p * s - -q * r = -(p * s - q * r) := by grind
    omega
  · rw [V.at_less]; have : (V.mk 0 0 0).at c = 0 := by unfold V.at; split <;> simp
    rw [this]; clear h1 h2 h3 h4 h5 h6 h7 h8 hd; omega
  · have := (h9 e).1; rw [this] at ha; clear h1 h2 h3 h4 h5 h6 h7 h8 hd; omega

/-- what stands in column j in between -/
theorem Euc.le {c : Nat} {a b a' b' : V} (h : Euc c a b a' b') (j : Nat) :
    (a'.at j).natAbs ≤ max 1 (b.at c).natAbs * (a.at j).natAbs + max 1 (a.at c).natAbs * (b.at j).natAbs ∧
    (b'.at j).natAbs ≤ max 1 (b.at c).natAbs * (a.at j).natAbs + max 1 (a.at c).natAbs * (b.at j).natAbs := by
  obtain ⟨p, q, r, s, ha', hb', hd, h1, h2, h3, h4, h5, h6, h7, h8, h9⟩ := h
  have key : ∀ p q : Int, p.natAbs ≤ max 1 (b.at c).natAbs → q.natAbs ≤ max 1 (a.at c).natAbs → (p * a.at j + q * b.at j).natAbs ≤ max 1 (b.at c).natAbs * (a.at j).natAbs + max 1 (a.at c).natAbs * (b.at j).natAbs := fun p q hp hq => by
    have e1 := Int.natAbs_mul p (a.at j); have e2 := Int.natAbs_mul q (b.at j)
    have m1 := Nat.mul_le_mul hp (Nat.le_refl (a.at j).natAbs); have m2 := Nat.mul_le_mul hq (Nat.le_refl (b.at j).natAbs)
    rw [← e1] at m1; rw [← e2] at m2
    exact Nat.le_trans (Int.natAbs_add_le _ _) (Nat.add_le_add m1 m2)
  rw [ha', hb', V.at_comb, V.at_comb]
  exact ⟨key p q h3 h5, key r s h4 h6⟩

theorem Swept.le {c : Nat} {a b a' b' : V} (h : Swept c a b a' b') (j : Nat) :
    (a'.at j).natAbs ≤ max 1 (b.at c).natAbs * (a.at j).natAbs + max 1 (a.at c).natAbs * (b.at j).natAbs ∧
    (b'.at j).natAbs ≤ max 1 (b.at c).natAbs * (a.at j).natAbs + max 1 (a.at c).natAbs * (b.at j).natAbs := by
  obtain ⟨p, q, r, s, ha', hb', hd, h1, h2, h3, h4, h5, h6, h7⟩ := h
  have key : ∀ p q : Int, p.natAbs ≤ max 1 (b.at c).natAbs → q.natAbs ≤ max 1 (a.at c).natAbs → (p * a.at j + q * b.at j).natAbs ≤ max 1 (b.at c).natAbs * (a.at j).natAbs + max 1 (a.at c).natAbs * (b.at j).natAbs := fun p q hp hq => by
    have e1 := Int.natAbs_mul p (a.at j); have e2 := Int.natAbs_mul q (b.at j)
    have m1 := Nat.mul_le_mul hp (Nat.le_refl (a.at j).natAbs); have m2 := Nat.mul_le_mul hq (Nat.le_refl (b.at j).natAbs)
    rw [← e1] at m1; rw [← e2] at m2
    exact Nat.le_trans (Int.natAbs_add_le _ _) (Nat.add_le_add m1 m2)
  rw [ha', hb', V.at_comb, V.at_comb]
  exact ⟨key p q h3 h5, key r s h4 h6⟩

/-- Both come back out of the two that Euclid's way ends with. -/
theorem Swept.back {c : Nat} {a b a' b' : V} (h : Swept c a b a' b') : ∃ p q r s : Int, a = comb p a' q b' ∧ b = comb r a' s b' := by
  obtain ⟨p, q, r, s, ha', hb', hd, _⟩ := h
  have key : ∀ (e p q r s x y : Int), (e = 1 ∨ e = -1) → p * s - q * r = e → x = e * s * (p * x + q * y) + -(e * q) * (r * x + s * y) ∧ y = -(e * r) * (p * x + q * y) + e * p * (r * x + s * y) := by
    intro e p q r s x y he h
    rcases he with he | he <;> subst he <;> constructor <;> grind
  refine ⟨(p * s - q * r) * s, -((p * s - q * r) * q), -((p * s - q * r) * r), (p * s - q * r) * p, ?_, ?_⟩
  · rw [ha', hb']; simp only [comb]
    exact V.same (key _ p q r s a.x b.x hd rfl).1 (key _ p q r s a.y b.y hd rfl).1 (key _ p q r s a.z b.z hd rfl).1
  · rw [ha', hb']; simp only [comb]
    exact V.same (key _ p q r s a.x b.x hd rfl).2 (key _ p q r s a.y b.y hd rfl).2 (key _ p q r s a.z b.z hd rfl).2

/-- the three rows and a vector more, swept column by column -/
theorem swept_shape {S : St} (s : Shape S) {v a1 v1 b1 v2 c1 v3 : V} (h0 : Swept 0 S.a v a1 v1) (h1 : Swept 1 S.b v1 b1 v2) (h2 : Swept 2 S.c v2 c1 v3) :
    0 ≤ a1.x ∧ (a1.x = 0 → a1.y = 0 ∧ a1.z = 0) ∧ b1.x = 0 ∧ 0 ≤ b1.y ∧ (b1.y = 0 → b1.z = 0) ∧ c1.x = 0 ∧ c1.y = 0 ∧ 0 ≤ c1.z ∧ v1.x = 0 ∧ v2.x = 0 ∧ v2.y = 0 ∧ v3.x = 0 ∧ v3.y = 0 ∧ v3.z = 0 := by
  obtain ⟨_, _, _, _, k0, l0⟩ := h0.back
  obtain ⟨_, _, _, _, k1, l1⟩ := h1.back
  obtain ⟨p0, q0, r0, s0, ea, ev, _, z0, n0, _, _, _, _, f0⟩ := h0
  obtain ⟨p1, q1, r1, s1, eb, ew, _, z1, n1, _, _, _, _, f1⟩ := h1
  obtain ⟨p2, q2, r2, s2, ec, eu, _, z2, n2, _, _, _, _, f2⟩ := h2
  simp only [V.at0, V.at1, V.at2] at *
  have bx := s.bx; have cx := s.cx; have cy := s.cy
  have b1x : b1.x = 0 := by rw [eb]; simp only [comb]; rw [bx, z0]; simp
  have v2x : v2.x = 0 := by rw [ew]; simp only [comb]; rw [bx, z0]; simp
  have c1x : c1.x = 0 := by rw [ec]; simp only [comb]; rw [cx, v2x]; simp
  have c1y : c1.y = 0 := by rw [ec]; simp only [comb]; rw [cy, z1]; simp
  have v3x : v3.x = 0 := by rw [eu]; simp only [comb]; rw [cx, v2x]; simp
  have v3y : v3.y = 0 := by rw [eu]; simp only [comb]; rw [cy, z1]; simp
  refine ⟨n0, fun e => ?_, b1x, n1, fun e => ?_, c1x, c1y, n2, z0, v2x, z1, v3x, v3y, z2⟩
  · have e1 : S.a.x = 0 := by rw [k0]; simp only [comb]; rw [e, z0]; simp
    have e2 : v.x = 0 := by rw [l0]; simp only [comb]; rw [e, z0]; simp
    rw [(f0 e2 s.ax).1]; exact s.a0 e1
  · have e1 : S.b.y = 0 := by rw [k1]; simp only [comb]; rw [e, z1]; simp
    have e2 : v1.y = 0 := by rw [l1]; simp only [comb]; rw [e, z1]; simp
    rw [(f1 e2 s.by0).1]; exact s.b0 e1

theorem InSpan.more {G : List V} {u : V} (g : V) (h : InSpan G u) : InSpan (g :: G) u := ⟨0, u, h, by simp, by simp, by simp⟩

theorem swept_span {S : St} {G : List V} (s : CanonOf S G) {v a1 v1 b1 v2 c1 v3 : V} (h0 : Swept 0 S.a v a1 v1) (h1 : Swept 1 S.b v1 b1 v2) (h2 : Swept 2 S.c v2 c1 v3) (u : V) :
    Mem ⟨a1, b1, c1⟩ u ↔ InSpan (v :: G) u := by
  obtain ⟨_, _, _, _, _, _, _, _, _, _, _, zx, zy, zz⟩ := swept_shape s.shape h0 h1 h2
  have hv3 : v3 = ⟨0, 0, 0⟩ := V.same zx zy zz
  obtain ⟨_, _, _, _, ka, kv⟩ := h0.back
  obtain ⟨_, _, _, _, kb, kv1⟩ := h1.back
  obtain ⟨_, _, _, _, kc, kv2⟩ := h2.back
  obtain ⟨p0, q0, r0, s0, ea, ev1, _⟩ := h0
  obtain ⟨p1, q1, r1, s1, eb, ev2, _⟩ := h1
  obtain ⟨p2, q2, r2, s2, ec, ev3, _⟩ := h2
  constructor
  · have ia := ((s.span _).1 (Mem.ra S)).more v
    have ib := ((s.span _).1 (Mem.rb S)).more v
    have ic := ((s.span _).1 (Mem.rc S)).more v
    have iv : InSpan (v :: G) v := InSpan.of_mem (by simp)
    have i1 : InSpan (v :: G) v1 := by rw [ev1]; exact ia.comb iv _ _
    have i2 : InSpan (v :: G) v2 := by rw [ev2]; exact ib.comb i1 _ _
    intro h
    rw [Mem.iff_span] at h
    refine InSpan.sub_list (fun g hg => ?_) h
    simp at hg; rcases hg with e | e | e <;> subst e
    · rw [ea]; exact ia.comb iv _ _
    · rw [eb]; exact ib.comb i1 _ _
    · rw [ec]; exact ic.comb i2 _ _
  · have m3 : Mem ⟨a1, b1, c1⟩ v3 := by rw [hv3]; exact Mem.zero _
    have mc : Mem ⟨a1, b1, c1⟩ c1 := Mem.rc ⟨a1, b1, c1⟩
    have mb : Mem ⟨a1, b1, c1⟩ b1 := Mem.rb ⟨a1, b1, c1⟩
    have ma : Mem ⟨a1, b1, c1⟩ a1 := Mem.ra ⟨a1, b1, c1⟩
    have m2 : Mem ⟨a1, b1, c1⟩ v2 := by rw [kv2]; exact mc.comb m3 _ _
    have mSc : Mem ⟨a1, b1, c1⟩ S.c := by rw [kc]; exact mc.comb m3 _ _
    have m1 : Mem ⟨a1, b1, c1⟩ v1 := by rw [kv1]; exact mb.comb m2 _ _
    have mSb : Mem ⟨a1, b1, c1⟩ S.b := by rw [kb]; exact mb.comb m2 _ _
    have m0 : Mem ⟨a1, b1, c1⟩ v := by rw [kv]; exact ma.comb m1 _ _
    have mSa : Mem ⟨a1, b1, c1⟩ S.a := by rw [ka]; exact ma.comb m1 _ _
    refine InSpan.lift (Mem.zero _) (fun _ _ a b p q => a.comb b p q) (fun g hg => ?_)
    rcases List.mem_cons.1 hg with e | e
    · rw [e]; exact m0
    · have := (s.span g).2 (InSpan.of_mem e)
      rw [Mem.iff_span] at this
      refine InSpan.lift (Mem.zero _) (fun _ _ a b p q => a.comb b p q) (fun g' hg' => ?_) this
      simp at hg'; rcases hg' with e | e | e <;> rw [e]
      · exact mSa
      · exact mSb
      · exact mSc

theorem Mem.away {S : St} {u v : V} (hu : Mem S u) (hv : Mem S v) (k : Int) : Mem S (less u k v) := by
  have := hu.comb hv 1 (-k)
  have e : less u k v = ⟨1 * u.x + -k * v.x, 1 * u.y + -k * v.y, 1 * u.z + -k * v.z⟩ := by
    unfold less; refine V.same ?_ ?_ ?_ <;> simp only <;> grind
  rw [e]; exact this

theorem less_back (u : V) (k : Int) (v : V) : u = less (less u k v) (-k) v := by
  unfold less; refine V.same ?_ ?_ ?_ <;> simp only <;> grind

/-- what stands above a pivot is brought below it -/
def redB (b c : V) : V := less b (b.z / c.z) c
def redA1 (a b : V) : V := less a (a.y / b.y) b
def redA2 (a c : V) : V := less a (a.z / c.z) c
def red (a b c : V) : St := ⟨redA2 (redA1 a (redB b c)) c, redB b c, c⟩

theorem Mem.subset {S T : St} (ha : Mem T S.a) (hb : Mem T S.b) (hc : Mem T S.c) {u : V} (h : Mem S u) : Mem T u := by
  rw [Mem.iff_span] at h
  refine InSpan.lift (Mem.zero _) (fun _ _ a b p q => a.comb b p q) (fun g hg => ?_) h
  simp at hg; rcases hg with e | e | e <;> rw [e] <;> assumption

theorem Mem.back {S : St} {u v : V} {k : Int} (h : Mem S (less u k v)) (hv : Mem S v) : Mem S u := by
  rw [less_back u k v]; exact h.away hv _

theorem red_span (a b c : V) (u : V) : Mem (red a b c) u ↔ Mem ⟨a, b, c⟩ u := by
  constructor
  · have ma : Mem ⟨a, b, c⟩ a := Mem.ra ⟨a, b, c⟩
    have mb : Mem ⟨a, b, c⟩ b := Mem.rb ⟨a, b, c⟩
    have mc : Mem ⟨a, b, c⟩ c := Mem.rc ⟨a, b, c⟩
    have mb2 : Mem ⟨a, b, c⟩ (redB b c) := mb.away mc _
    exact Mem.subset ((ma.away mb2 _).away mc _) mb2 mc
  · have ma : Mem (red a b c) (redA2 (redA1 a (redB b c)) c) := Mem.ra (red a b c)
    have mb : Mem (red a b c) (redB b c) := Mem.rb (red a b c)
    have mc : Mem (red a b c) c := Mem.rc (red a b c)
    have mb2 : Mem (red a b c) b := Mem.back mb mc
    have ma1 : Mem (red a b c) (redA1 a (redB b c)) := Mem.back ma mc
    have ma2 : Mem (red a b c) a := Mem.back ma1 mb
    exact Mem.subset (S := ⟨a, b, c⟩) ma2 mb2 mc

theorem div_rest (a p : Int) (hp : 0 < p) : 0 ≤ a - a / p * p ∧ a - a / p * p < p := by
  have h1 := Int.emod_nonneg a (b := p) (by omega)
  have h2 := Int.emod_lt_of_pos a hp
  have h3 := Int.emod_def a p
  rw [Int.mul_comm p] at h3
  omega

theorem red_shape {a b c : V} (h1 : 0 ≤ a.x) (h2 : a.x = 0 → a.y = 0 ∧ a.z = 0) (h3 : b.x = 0) (h4 : 0 ≤ b.y) (h5 : b.y = 0 → b.z = 0) (h6 : c.x = 0) (h7 : c.y = 0) (h8 : 0 ≤ c.z) : Shape (red a b c) := by
  have bx : (redB b c).x = 0 := by simp only [redB, less]; rw [h3, h6]; simp
  have byy : (redB b c).y = b.y := by simp only [redB, less]; rw [h7]; simp
  have bz : 0 < c.z → 0 ≤ (redB b c).z ∧ (redB b c).z < c.z := fun h => div_rest b.z c.z h
  have bz0 : b.z = 0 → (redB b c).z = 0 := fun e => by simp only [redB, less]; rw [e]; simp
  have a1x : (redA1 a (redB b c)).x = a.x := by simp only [redA1, less]; rw [bx]; simp
  have a1y : 0 < b.y → 0 ≤ (redA1 a (redB b c)).y ∧ (redA1 a (redB b c)).y < b.y := fun h => by
    have := div_rest a.y (redB b c).y (by omega); simp only [redA1, less]; omega
  have a10 : a.y = 0 → a.z = 0 → (redA1 a (redB b c)).y = 0 ∧ (redA1 a (redB b c)).z = 0 := fun e1 e2 => by simp only [redA1, less]; rw [e1, e2]; simp
  have a2x : (redA2 (redA1 a (redB b c)) c).x = a.x := by
    rw [← a1x]; simp only [redA2]; generalize redA1 a (redB b c) = t; simp only [less]; rw [h6]; simp
  have a2y : (redA2 (redA1 a (redB b c)) c).y = (redA1 a (redB b c)).y := by
    simp only [redA2]; generalize redA1 a (redB b c) = t; simp only [less]; rw [h7]; simp
  have a2z : 0 < c.z → 0 ≤ (redA2 (redA1 a (redB b c)) c).z ∧ (redA2 (redA1 a (redB b c)) c).z < c.z := fun h => by
    simp only [redA2]; generalize redA1 a (redB b c) = t; exact div_rest t.z c.z h
  have a20 : (redA1 a (redB b c)).z = 0 → (redA2 (redA1 a (redB b c)) c).z = 0 := by
    simp only [redA2]; generalize redA1 a (redB b c) = t; intro e; simp only [less]; rw [e]; simp
  refine ⟨?_, bx, h6, ?_, h7, h8, ?_, ?_, ?_, a2z, bz⟩
  · show 0 ≤ (redA2 (redA1 a (redB b c)) c).x; omega
  · show 0 ≤ (redB b c).y; omega
  · intro e; have e' : (redA2 (redA1 a (redB b c)) c).x = 0 := e
    obtain ⟨e1, e2⟩ := h2 (by omega)
    obtain ⟨f1, f2⟩ := a10 e1 e2
    exact ⟨by show (redA2 (redA1 a (redB b c)) c).y = 0; omega, a20 f2⟩
  · intro e; have e' : (redB b c).y = 0 := e
    exact bz0 (h5 (by omega))
  · intro e; have e' : 0 < (redB b c).y := e
    have := a1y (by omega)
    show 0 ≤ (redA2 (redA1 a (redB b c)) c).y ∧ (redA2 (redA1 a (redB b c)) c).y < (redB b c).y
    omega

/-- ONE VECTOR MORE. -/
theorem with_canon {S : St} {G : List V} (s : CanonOf S G) {v a1 v1 b1 v2 c1 v3 : V} (h0 : Swept 0 S.a v a1 v1) (h1 : Swept 1 S.b v1 b1 v2) (h2 : Swept 2 S.c v2 c1 v3) :
    CanonOf (red a1 b1 c1) (v :: G) := by
  obtain ⟨q1, q2, q3, q4, q5, q6, q7, q8, _⟩ := swept_shape s.shape h0 h1 h2
  exact ⟨red_shape q1 q2 q3 q4 q5 q6 q7 q8, fun u => (red_span a1 b1 c1 u).trans (swept_span s h0 h1 h2 u)⟩


/-! room: what stands in between is far from the end of 64 bits -/

/-- 2^60 -/
def E : Nat := 1152921504606846976

structure Room (c : Nat) (a b : V) : Prop where
  ac : (a.at c).natAbs ≤ E
  bc : (b.at c).natAbs ≤ E
  other : ∀ j, j < 3 → j ≠ c → max 1 (b.at c).natAbs * (a.at j).natAbs + max 1 (a.at c).natAbs * (b.at j).natAbs ≤ E

theorem Room.euc {c : Nat} {a b a' b' : V} (hr : Room c a b) (h : Euc c a b a' b') (j : Nat) (hj : j < 3) : (a'.at j).natAbs ≤ E ∧ (b'.at j).natAbs ≤ E := by
  by_cases e : j = c
  · subst e
    obtain ⟨p, q, r, s, _, _, _, _, _, _, _, _, _, h7, h8, _⟩ := h
    exact ⟨Nat.le_trans h7 (Nat.max_le.2 ⟨hr.ac, hr.bc⟩), Nat.le_trans h8 hr.bc⟩
  · have := hr.other j hj e
    have l := h.le j
    exact ⟨Nat.le_trans l.1 this, Nat.le_trans l.2 this⟩

/-- the multiple that is taken away in between -/
theorem Room.times {c : Nat} {a b a' b' : V} (hr : Room c a b) (h : Euc c a b a' b') (hb : b'.at c ≠ 0) (j : Nat) (hj : j < 3) :
    ((a'.at c).tdiv (b'.at c) * b'.at j).natAbs ≤ 2 * E := by
  have h1 := (hr.euc h j hj).1
  have h2 := (hr.euc (h.step hb) j hj).2
  rw [V.at_less] at h2
  generalize (a'.at c).tdiv (b'.at c) * b'.at j = t at *
  omega

theorem le_natAbs {M : Int} {x : Int} (h : -M ≤ x ∧ x ≤ M) : x.natAbs ≤ M.toNat := by omega

theorem room0 {S : St} {G : List V} (s : CanonOf S G) (hG : ∀ g ∈ G, Le 511 g) {v : V} (hv : Le 511 v) : Room 0 S.a v := by
  have hf := s.first (by omega) hG
  obtain ⟨⟨bx, by', bz⟩, _, _⟩ := s.bound (M := 511) (by omega) hG
  obtain ⟨vx, vy, vz⟩ := hv
  have nx := s.shape.ax
  have key : ∀ p q x y : Nat, p ≤ 511 → q ≤ 511 → x ≤ 800596986 → y ≤ 511 → p * x + q * y ≤ E := fun p q x y h1 h2 h3 h4 => by
    have m1 := Nat.mul_le_mul h1 h3; have m2 := Nat.mul_le_mul h2 h4; unfold E; omega
  refine ⟨by unfold E; simp only [V.at0]; omega, by unfold E; simp only [V.at0]; omega, fun j hj hne => ?_⟩
  have : j = 1 ∨ j = 2 := by omega
  rcases this with e | e <;> subst e <;> simp only [V.at0, V.at1, V.at2] <;> refine key _ _ _ _ ?_ ?_ ?_ ?_ <;> omega

/-- the numbers behind the first sweep -/
theorem after0 {S : St} {G : List V} (s : CanonOf S G) (hG : ∀ g ∈ G, Le 511 g) {v a1 v1 : V} (hv : Le 511 v) (h0 : Swept 0 S.a v a1 v1) :
    (a1.y.natAbs ≤ 511 * S.a.y.natAbs + 261121 ∧ v1.y.natAbs ≤ 511 * S.a.y.natAbs + 261121) ∧ (a1.z.natAbs ≤ 511 * S.a.z.natAbs + 261121 ∧ v1.z.natAbs ≤ 511 * S.a.z.natAbs + 261121) := by
  have hf := s.first (by omega) hG
  have nx := s.shape.ax
  obtain ⟨vx, vy, vz⟩ := hv
  have key : ∀ p q x y : Nat, p ≤ 511 → q ≤ 511 → y ≤ 511 → p * x + q * y ≤ 511 * x + 261121 := fun p q x y h1 h2 h3 => by
    have m1 := Nat.mul_le_mul h1 (Nat.le_refl x); have m2 := Nat.mul_le_mul h2 h3; omega
  have l1 := h0.le 1
  have l2 := h0.le 2
  simp only [V.at0, V.at1, V.at2] at l1 l2
  have k1 := key (max 1 v.x.natAbs) (max 1 S.a.x.natAbs) S.a.y.natAbs v.y.natAbs (by omega) (by omega) (by omega)
  have k2 := key (max 1 v.x.natAbs) (max 1 S.a.x.natAbs) S.a.z.natAbs v.z.natAbs (by omega) (by omega) (by omega)
  exact ⟨⟨Nat.le_trans l1.1 k1, Nat.le_trans l1.2 k1⟩, ⟨Nat.le_trans l2.1 k2, Nat.le_trans l2.2 k2⟩⟩

/-- what an old lattice is: three rows, whose pivots' product is bounded, or numbers that are small -/
theorem old_cases {S : St} {G : List V} (s : CanonOf S G) (hG : ∀ g ∈ G, Le 511 g) :
    (0 < S.b.y ∧ 0 < S.c.z ∧ S.b.y.natAbs * S.c.z.natAbs ≤ 800596986 ∧ S.b.y.natAbs ≤ 800596986 ∧ S.c.z.natAbs ≤ 800596986 ∧ S.a.y.natAbs ≤ S.b.y.natAbs ∧ S.a.z.natAbs ≤ S.c.z.natAbs ∧ S.b.z.natAbs ≤ S.c.z.natAbs) ∨
    (S.a.y.natAbs ≤ 522242 ∧ S.a.z.natAbs ≤ 522242 ∧ S.b.y.natAbs ≤ 522242 ∧ S.b.z.natAbs ≤ 522242 ∧ S.c.z.natAbs ≤ 522242) := by
  by_cases hr : S.a.x = 0 ∨ S.b.y = 0 ∨ S.c.z = 0
  · right
    obtain ⟨⟨_, p2, p3⟩, ⟨_, q2, q3⟩, ⟨_, _, r3⟩⟩ := s.bound2 (M := 511) (by omega) hG hr
    omega
  · left
    have ha : 0 < S.a.x := by have := s.shape.ax; omega
    have hb : 0 < S.b.y := by have := s.shape.by0; omega
    have hc : 0 < S.c.z := by have := s.shape.cz; omega
    have hp := s.bound3 (M := 511) hG ha hb hc
    have hbc : 0 < S.b.y * S.c.z := Int.mul_pos hb hc
    have g1 := (grow (a := S.b.y * S.c.z) (b := S.a.x) (by omega) (by omega)).2
    rw [← Int.mul_assoc] at g1
    have g2 := (grow (a := S.b.y) (b := S.c.z) (by omega) (by omega)).1
    have g3 := (grow (a := S.c.z) (b := S.b.y) (by omega) (by omega)).2
    have r1 := s.shape.ay hb; have r2 := s.shape.az hc; have r3 := s.shape.bz hc
    have e := Int.natAbs_mul S.b.y S.c.z
    refine ⟨hb, hc, ?_, ?_, ?_, ?_, ?_, ?_⟩
    · rw [← e]; omega
    all_goals omega

theorem room1 {S : St} {G : List V} (s : CanonOf S G) (hG : ∀ g ∈ G, Le 511 g) {v a1 v1 : V} (hv : Le 511 v) (h0 : Swept 0 S.a v a1 v1) : Room 1 S.b v1 := by
  obtain ⟨⟨_, n1⟩, ⟨_, n2⟩⟩ := after0 s hG hv h0
  have bx := s.shape.bx
  have vx : v1.x = 0 := by obtain ⟨_, _, _, _, _, _, _, z, _⟩ := h0; exact z
  have key : max 1 v1.y.natAbs * S.b.z.natAbs + max 1 S.b.y.natAbs * v1.z.natAbs ≤ 500000000000000 ∧ S.b.y.natAbs ≤ 800596986 ∧ v1.y.natAbs ≤ 500000000000000 := by
    rcases old_cases s hG with ⟨hb, hc, h1, h2, h3, h4, h5, h6⟩ | ⟨h1, h2, h3, h4, h5⟩
    · generalize S.b.y.natAbs = B at *
      generalize S.c.z.natAbs = C at *
      have m1 : max 1 v1.y.natAbs * S.b.z.natAbs ≤ (511 * B + 261122) * C := Nat.mul_le_mul (by omega) h6
      have m2 : max 1 B * v1.z.natAbs ≤ (B + 1) * (511 * C + 261121) := Nat.mul_le_mul (by omega) (by omega)
      have e1 : (511 * B + 261122) * C = 511 * (B * C) + 261122 * C := by grind
      have e2 : (B + 1) * (511 * C + 261121) = 511 * (B * C) + 261121 * B + 511 * C + 261121 := by grind
      omega
    · have m1 : max 1 v1.y.natAbs * S.b.z.natAbs ≤ 267126784 * 522242 := Nat.mul_le_mul (by omega) h4
      have m2 : max 1 S.b.y.natAbs * v1.z.natAbs ≤ 522242 * 267126784 := Nat.mul_le_mul (by omega) (by omega)
      omega
  obtain ⟨k1, k2, k3⟩ := key
  refine ⟨by unfold E; simp only [V.at1]; omega, by unfold E; simp only [V.at1]; omega, fun j hj hne => ?_⟩
  have : j = 0 ∨ j = 2 := by omega
  rcases this with e | e <;> subst e <;> simp only [V.at0, V.at1, V.at2]
  · rw [bx, vx]; simp
  · unfold E; omega

theorem after1 {S : St} {G : List V} (s : CanonOf S G) (hG : ∀ g ∈ G, Le 511 g) {v a1 v1 b1 v2 : V} (hv : Le 511 v) (h0 : Swept 0 S.a v a1 v1) (h1 : Swept 1 S.b v1 b1 v2) :
    b1.z.natAbs ≤ E ∧ v2.z.natAbs ≤ E ∧ b1.y.natAbs ≤ E := by
  have r := room1 s hG hv h0
  have l := h1.le 2
  have o := r.other 2 (by omega) (by omega)
  refine ⟨Nat.le_trans l.1 o, Nat.le_trans l.2 o, ?_⟩
  by_cases hb : b1.y = 0
  · rw [hb]; simp
  obtain ⟨p, q, p', q', k1, k2⟩ := h1.back
  obtain ⟨_, _, _, _, _, _, _, z, _⟩ := h1
  have e1 : S.b.y = p * b1.y := by rw [k1]; simp only [comb]; rw [show v2.y = 0 from z]; simp
  have e2 : v1.y = p' * b1.y := by rw [k2]; simp only [comb]; rw [show v2.y = 0 from z]; simp
  by_cases hz : S.b.y = 0
  · by_cases hz2 : v1.y = 0
    · -- then nothing was swept
      rename_i f
      obtain ⟨_, _, _, _, _, f⟩ := f
      have := (f hz2 (by show 0 ≤ S.b.y; omega)).1
      rw [this]; exact r.ac
    · have hp : p' ≠ 0 := by intro e; rw [e] at e2; simp at e2; exact hz2 e2
      have n := Int.natAbs_mul p' b1.y
      have m := Nat.mul_le_mul (Int.natAbs_pos.2 hp) (Nat.le_refl b1.y.natAbs)
      rw [← n, ← e2] at m
      have := r.bc
      simp only [V.at1] at this
      omega
  · have hp : p ≠ 0 := by intro e; rw [e] at e1; simp at e1; exact hz e1
    have n := Int.natAbs_mul p b1.y
    have m := Nat.mul_le_mul (Int.natAbs_pos.2 hp) (Nat.le_refl b1.y.natAbs)
    rw [← n, ← e1] at m
    have := r.ac
    simp only [V.at1] at this
    omega

theorem room2 {S : St} {G : List V} (s : CanonOf S G) (hG : ∀ g ∈ G, Le 511 g) {v a1 v1 b1 v2 : V} (hv : Le 511 v) (h0 : Swept 0 S.a v a1 v1) (h1 : Swept 1 S.b v1 b1 v2) : Room 2 S.c v2 := by
  obtain ⟨_, n2, _⟩ := after1 s hG hv h0 h1
  have cx := s.shape.cx; have cy := s.shape.cy; have bx := s.shape.bx
  have vx : v1.x = 0 := by obtain ⟨_, _, _, _, _, _, _, z, _⟩ := h0; exact z
  have v2y : v2.y = 0 := by obtain ⟨_, _, _, _, _, _, _, z, _⟩ := h1; exact z
  have v2x : v2.x = 0 := by obtain ⟨_, _, _, _, _, e, _⟩ := h1; rw [e]; simp only [comb]; rw [bx, vx]; simp
  refine ⟨?_, n2, fun j hj hne => ?_⟩
  · simp only [V.at2]
    rcases old_cases s hG with ⟨hb, hc, h1, h2, h3, h4, h5, h6⟩ | ⟨h1, h2, h3, h4, h5⟩ <;> unfold E <;> omega
  · have : j = 0 ∨ j = 1 := by omega
    rcases this with e | e <;> subst e <;> simp only [V.at0, V.at1, V.at2]
    · rw [cx, v2x]; simp
    · rw [cy, v2y]; simp

theorem div_le (a p : Int) (hp : 0 ≤ p) : (a / p).natAbs ≤ a.natAbs := by
  by_cases h : p = 0
  · subst h; simp
  · have d := div_rest a p (by omega)
    have hp' : 1 ≤ p := by omega
    by_cases ha : 0 ≤ a / p
    · have g := (grow ha hp').1
      omega
    · have g := (grow (a := -(a / p) - 1) (by omega) hp').1
      have : (-(a / p) - 1) * p = -(a / p * p) - p := by grind
      omega

theorem div_mul_le (a p : Int) (hp : 0 ≤ p) : (a / p * p).natAbs ≤ a.natAbs + p.natAbs := by
  by_cases h : p = 0
  · subst h; simp
  · have d := div_rest a p (by omega)
    omega

/-- what stands in between where the rows are reduced -/
theorem roomR {S : St} {G : List V} (s : CanonOf S G) (hG : ∀ g ∈ G, Le 511 g) {v a1 v1 b1 v2 c1 v3 : V} (hv : Le 511 v) (h0 : Swept 0 S.a v a1 v1) (h1 : Swept 1 S.b v1 b1 v2) (h2 : Swept 2 S.c v2 c1 v3) :
    c1.z.natAbs ≤ E ∧ a1.x.natAbs ≤ E ∧ a1.y.natAbs ≤ E ∧ a1.z.natAbs ≤ E ∧ a1.y.natAbs * (redB b1 c1).z.natAbs ≤ E := by
  have hN := with_canon s h0 h1 h2
  have hG' : ∀ g ∈ v :: G, Le 511 g := fun g hg => by
    rcases List.mem_cons.1 hg with e | e
    · rw [e]; exact hv
    · exact hG g e
  obtain ⟨⟨_, n1⟩, n2⟩ := after0 s hG hv h0 |>.imp (fun h => And.intro h.2 h.1) (fun h => h.1)
  obtain ⟨⟨ba, _⟩, ⟨_, _, bb⟩, ⟨_, _, bc⟩⟩ := hN.bound (M := 511) (by omega) hG'
  obtain ⟨sax, _⟩ := swept_shape s.shape h0 h1 h2
  have e1 : (red a1 b1 c1).c.z = c1.z := rfl
  have e2 : (red a1 b1 c1).b.z = (redB b1 c1).z := rfl
  have hx : a1.x.natAbs ≤ E := by
    have f := hN.first (by omega) hG'
    have bx : (redB b1 c1).x = 0 := hN.shape.bx
    have cx : c1.x = 0 := hN.shape.cx
    have : (red a1 b1 c1).a.x = a1.x := by
      show (redA2 (redA1 a1 (redB b1 c1)) c1).x = a1.x
      simp only [redA2]; generalize hb : redB b1 c1 = b2 at *; simp only [redA1, less]; rw [bx, cx]; simp
    unfold E; omega
  rw [e1] at bc; rw [e2] at bb
  have hz : a1.z.natAbs ≤ E ∧ a1.y.natAbs ≤ E ∧ a1.y.natAbs * (redB b1 c1).z.natAbs ≤ E := by
    rcases old_cases s hG with ⟨hb, hc, q1, q2, q3, q4, q5, q6⟩ | ⟨q1, q2, q3, q4, q5⟩
    · have hc1 : 0 < c1.z ∧ c1.z ≤ S.c.z := by
        have sh := swept_shape s.shape h0 h1 h2
        obtain ⟨p, q, _, _, k1, _⟩ := h2.back
        have v3z : v3.z = 0 := by obtain ⟨_, _, _, _, _, _, _, z, _⟩ := h2; exact z
        have e : S.c.z = p * c1.z := by rw [k1]; simp only [comb]; rw [v3z]; simp
        have hp : p ≠ 0 := by intro e0; rw [e0] at e; simp at e; omega
        have l := le_of_mul e hp (M := S.c.z) (by omega) (by omega)
        have : c1.z ≠ 0 := by intro e0; rw [e0] at e; simp at e; omega
        omega
      have hbz := hN.shape.bz hc1.1
      rw [e1, e2] at hbz
      have m : a1.y.natAbs * (redB b1 c1).z.natAbs ≤ (511 * S.b.y.natAbs + 261121) * S.c.z.natAbs := Nat.mul_le_mul (by omega) (by omega)
      generalize S.b.y.natAbs = B at *
      generalize S.c.z.natAbs = C at *
      have e : (511 * B + 261121) * C = 511 * (B * C) + 261121 * C := by grind
      unfold E; omega
    · have m : a1.y.natAbs * (redB b1 c1).z.natAbs ≤ 267126783 * 800596986 := Nat.mul_le_mul (by omega) (by omega)
      unfold E; omega
  refine ⟨?_, hx, hz.2.1, hz.1, hz.2.2⟩
  unfold E; omega

end Go.Proofs.YtmlcblnndihjoaaGreat.Lat
