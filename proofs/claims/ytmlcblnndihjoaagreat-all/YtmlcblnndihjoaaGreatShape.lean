import Derived.Test.YtmlcblnndihjoaaGreatSame
namespace Go.Proofs.YtmlcblnndihjoaaGreat
open Go.RowKit

/-- nothing beyond the width -/
structure Flat (n : Nat) (T : Lat.St) : Prop where
  z : n ≤ 2 → T.a.z = 0 ∧ T.b.z = 0 ∧ T.c.z = 0
  y : n ≤ 1 → T.a.y = 0 ∧ T.b.y = 0

theorem vecOf_flat {n : Nat} {zs : List Int} (h : zs.length = n) : (n ≤ 2 → (vecOf zs).z = 0) ∧ (n ≤ 1 → (vecOf zs).y = 0) := by
  constructor
  · intro hn; simp only [vecOf]; rw [List.getD_eq_getElem?_getD, List.getElem?_eq_none (by omega)]; rfl
  · intro hn; simp only [vecOf]; rw [List.getD_eq_getElem?_getD, List.getElem?_eq_none (by omega)]; rfl

theorem flat_of {n : Nat} {zss : List (List Int)} {T : Lat.St} (h : Lat.CanonOf T (vecs zss)) (hl : ∀ zs ∈ zss, zs.length = n) : Flat n T := by
  have hv : ∀ g ∈ vecs zss, (n ≤ 2 → g.z = 0) ∧ (n ≤ 1 → g.y = 0) := by
    intro g hg
    simp only [vecs, List.mem_reverse, List.mem_map] at hg
    obtain ⟨zs, hz, rfl⟩ := hg
    exact vecOf_flat (hl zs hz)
  have ez : n ≤ 2 → ∀ u, Lat.InSpan (vecs zss) u → u.z = 0 := fun hn u hu => by
    have := Lat.lin_zero (A := 0) (B := 0) (C := 1) (fun g hg => by have := (hv g hg).1 hn; simp [this]) hu
    simpa using this
  have ey : n ≤ 1 → ∀ u, Lat.InSpan (vecs zss) u → u.y = 0 := fun hn u hu => by
    have := Lat.lin_zero (A := 0) (B := 1) (C := 0) (fun g hg => by have := (hv g hg).2 hn; simp [this]) hu
    simpa using this
  have ia := (h.span _).1 (Lat.Mem.ra T); have ib := (h.span _).1 (Lat.Mem.rb T); have ic := (h.span _).1 (Lat.Mem.rc T)
  exact ⟨fun hn => ⟨ez hn _ ia, ez hn _ ib, ez hn _ ic⟩, fun hn => ⟨ey hn _ ia, ey hn _ ib⟩⟩

theorem vecOf_cutV {n : Nat} (v : Lat.V) (h1 : 0 < n) (h3 : n ≤ 3) (hz : n ≤ 2 → v.z = 0) (hy : n ≤ 1 → v.y = 0) : vecOf (cutV n v) = v := by
  have : n = 1 ∨ n = 2 ∨ n = 3 := by omega
  rcases this with rfl | rfl | rfl
  · exact Lat.V.same rfl (hy (by omega)).symm (hz (by omega)).symm
  · exact Lat.V.same rfl rfl (hz (by omega)).symm
  · rfl

theorem basis_len (n : Nat) (T : Lat.St) : (basisRows n T).length ≤ 3 := by
  unfold basisRows; split <;> split <;> split <;> simp

theorem basis_mem {n : Nat} {T : Lat.St} {zs : List Int} (h : zs ∈ basisRows n T) : zs = cutV n T.a ∨ zs = cutV n T.b ∨ zs = cutV n T.c := by
  unfold basisRows at h
  simp only [List.mem_append] at h
  rcases h with (h | h) | h
  · split at h <;> simp at h; exact Or.inl h
  · split at h <;> simp at h; exact Or.inr (Or.inl h)
  · split at h <;> simp at h; exact Or.inr (Or.inr h)

theorem cutV_le {n : Nat} {v : Lat.V} {M : Int} (h : Lat.Le M v) : ∀ z ∈ cutV n v, -M ≤ z ∧ z ≤ M := by
  intro z hz
  have : z ∈ [v.x, v.y, v.z] := List.mem_of_mem_take hz
  simp at this
  obtain ⟨hx, hy, hzz⟩ := h
  rcases this with rfl | rfl | rfl
  · exact hx
  · exact hy
  · exact hzz

theorem basis_given {n : Nat} {T : Lat.St} (h1 : 0 < n) (h3 : n ≤ 3) (hF : FitsS T) : givenE (n : Int) (basisRows n T) = 0 := by
  have hg : givenB (n : Int) (basisRows n T) = true := by
    unfold givenB
    have := basis_len n T
    rw [decide_eq_true (by omega), Bool.true_and, List.all_eq_true]
    intro zs hm
    have hlen : zs.length = n := by rcases basis_mem hm with rfl | rfl | rfl <;> exact cutV_length _ h3
    have hle : ∀ z ∈ zs, -511 ≤ z ∧ z ≤ 511 := by
      rcases basis_mem hm with rfl | rfl | rfl
      · exact cutV_le hF.1
      · exact cutV_le hF.2.1
      · exact cutV_le hF.2.2
    unfold goodB
    rw [hlen, decide_eq_true rfl, Bool.true_and, List.all_eq_true]
    intro z hz
    have := hle z hz
    simp; omega
  unfold givenE
  rw [hg, if_pos (by simp; omega)]; rfl

/-- the rows of the basis generate the lattice -/
theorem basis_span {n : Nat} {T : Lat.St} (h1 : 0 < n) (h3 : n ≤ 3) (hs : Lat.Shape T) (hf : Flat n T) (u : Lat.V) : Lat.InSpan (vecs (basisRows n T)) u ↔ Lat.Mem T u := by
  have ea : vecOf (cutV n T.a) = T.a := vecOf_cutV _ h1 h3 (fun h => (hf.z h).1) (fun h => (hf.y h).1)
  have eb : vecOf (cutV n T.b) = T.b := vecOf_cutV _ h1 h3 (fun h => (hf.z h).2.1) (fun h => (hf.y h).2)
  have ec : vecOf (cutV n T.c) = T.c := vecOf_cutV _ h1 h3 (fun h => (hf.z h).2.2) (fun _ => hs.cy)
  constructor
  · refine Lat.InSpan.lift (Lat.Mem.zero _) (fun _ _ a b p q => a.comb b p q) (fun g hg => ?_)
    simp only [vecs, List.mem_reverse, List.mem_map] at hg
    obtain ⟨zs, hz, rfl⟩ := hg
    rcases basis_mem hz with rfl | rfl | rfl
    · rw [ea]; exact Lat.Mem.ra T
    · rw [eb]; exact Lat.Mem.rb T
    · rw [ec]; exact Lat.Mem.rc T
  · intro h
    rw [Lat.Mem.iff_span] at h
    have mem : ∀ v : Lat.V, cutV n v ∈ basisRows n T → vecOf (cutV n v) = v → Lat.InSpan (vecs (basisRows n T)) v := fun v hv e => by
      have : v ∈ vecs (basisRows n T) := by
        simp only [vecs, List.mem_reverse, List.mem_map]; exact ⟨_, hv, e⟩
      exact Lat.InSpan.of_mem this
    refine Lat.InSpan.sub_list (fun g hg => ?_) h
    simp at hg
    rcases hg with rfl | rfl | rfl
    · by_cases h0 : T.a.x = 0
      · have := hs.a0 h0
        rw [Lat.V.same (v := ⟨0, 0, 0⟩) h0 this.1 this.2]; exact Lat.InSpan.zero _
      · exact mem _ (by unfold basisRows; simp [h0]) ea
    · by_cases h0 : T.b.y = 0
      · have := hs.b0 h0
        rw [Lat.V.same (v := ⟨0, 0, 0⟩) hs.bx h0 this]; exact Lat.InSpan.zero _
      · exact mem _ (by unfold basisRows; simp [h0]) eb
    · by_cases h0 : T.c.z = 0
      · rw [Lat.V.same (v := ⟨0, 0, 0⟩) hs.cx hs.cy h0]; exact Lat.InSpan.zero _
      · exact mem _ (by unfold basisRows; simp [h0]) ec

/-- a basis is its own basis -/
theorem basis_again {n : Nat} {T T2 : Lat.St} {c : Int} (h1 : 0 < n) (h3 : n ≤ 3) (hs : Lat.Shape T) (hf : Flat n T) (hF : FitsS T) (hg : Gen (n : Int) (basisRows n T) T2 c) : c = 0 ∧ T2 = T := by
  have hge := basis_given h1 h3 hF
  rcases hg with ⟨e, h⟩ | ⟨_, T', hT, h⟩
  · rw [hge] at e; exact absurd e h
  · have e : T' = T := Lat.one_basis hT.shape hs (fun v => (hT.span v).trans (basis_span h1 h3 hs hf v))
    rcases h with ⟨_, h⟩ | ⟨h0, h2, _⟩
    · rw [e] at h; exact absurd hF h
    · exact ⟨h0, h2.trans e⟩

theorem entV {n j : Nat} {v : Lat.V} (hj : j < n) (h3 : n ≤ 3) : (cutV n v).getD j 0 = v.at j := by
  have hn : n = 1 ∨ n = 2 ∨ n = 3 := by omega
  have hjj : j = 0 ∨ j = 1 ∨ j = 2 := by omega
  rcases hn with rfl | rfl | rfl <;> rcases hjj with rfl | rfl | rfl <;> first | rfl | omega

theorem can1 {n : Nat} (h3 : n ≤ 3) {u : Lat.V} {p : Nat} (up : p < n) (uz : ∀ j, j < p → u.at j = 0) (us : 0 < u.at p) : CanRows n [cutV n u] (fun _ => p) := by
  have L : ∀ x : Lat.V, (cutV n x).length = n := fun x => cutV_length x h3
  refine ⟨?_, ?_, ?_, ?_, ?_⟩
  · intro i hi
    have : i = 0 := by simp at hi; omega
    subst this
    exact L _
  · intro i hi j hj
    have : i = 0 := by simp at hi; omega
    subst this
    have hj' : j < p := hj
    show (cutV n u).getD j 0 = 0; rw [entV (by omega) h3]; exact uz j hj'
  · intro i hi
    have : i = 0 := by simp at hi; omega
    subst this
    refine ⟨up, ?_⟩
    show 0 < (cutV n u).getD p 0; rw [entV up h3]; exact us
  · intro i hi; simp at hi
  · intro i hi k hk; simp at hi; omega

theorem can2 {n : Nat} (h3 : n ≤ 3) {u v : Lat.V} {p q : Nat} (up : p < n) (uz : ∀ j, j < p → u.at j = 0) (us : 0 < u.at p) (vp : q < n) (vz : ∀ j, j < q → v.at j = 0) (vs : 0 < v.at q) (o0 : p < q) (r01 : 0 ≤ u.at q ∧ u.at q < v.at q) : CanRows n [cutV n u, cutV n v] (fun i => if i = 0 then p else q) := by
  have L : ∀ x : Lat.V, (cutV n x).length = n := fun x => cutV_length x h3
  refine ⟨?_, ?_, ?_, ?_, ?_⟩
  · intro i hi
    have : i = 0 ∨ i = 1 := by simp at hi; omega
    rcases this with rfl | rfl
    · exact L _
    · exact L _
  · intro i hi j hj
    have : i = 0 ∨ i = 1 := by simp at hi; omega
    rcases this with rfl | rfl
    · have hj' : j < p := hj
      show (cutV n u).getD j 0 = 0; rw [entV (by omega) h3]; exact uz j hj'
    · have hj' : j < q := hj
      show (cutV n v).getD j 0 = 0; rw [entV (by omega) h3]; exact vz j hj'
  · intro i hi
    have : i = 0 ∨ i = 1 := by simp at hi; omega
    rcases this with rfl | rfl
    · refine ⟨up, ?_⟩
      show 0 < (cutV n u).getD p 0; rw [entV up h3]; exact us
    · refine ⟨vp, ?_⟩
      show 0 < (cutV n v).getD q 0; rw [entV vp h3]; exact vs
  · intro i hi
    have : i = 0 := by simp at hi; omega
    subst this
    exact o0
  · intro i hi k hk
    have : i = 1 ∧ k = 0 := by simp at hi; omega
    obtain ⟨rfl, rfl⟩ := this
    show 0 ≤ (cutV n u).getD q 0 ∧ (cutV n u).getD q 0 < (cutV n v).getD q 0
    rw [entV vp h3, entV vp h3]; exact r01

theorem can3 {n : Nat} (h3 : n ≤ 3) {u v t : Lat.V} {p q r : Nat} (up : p < n) (uz : ∀ j, j < p → u.at j = 0) (us : 0 < u.at p) (vp : q < n) (vz : ∀ j, j < q → v.at j = 0) (vs : 0 < v.at q) (tp : r < n) (tz : ∀ j, j < r → t.at j = 0) (ts : 0 < t.at r) (o0 : p < q) (o1 : q < r) (r01 : 0 ≤ u.at q ∧ u.at q < v.at q) (r02 : 0 ≤ u.at r ∧ u.at r < t.at r) (r12 : 0 ≤ v.at r ∧ v.at r < t.at r) : CanRows n [cutV n u, cutV n v, cutV n t] (fun i => if i = 0 then p else if i = 1 then q else r) := by
  have L : ∀ x : Lat.V, (cutV n x).length = n := fun x => cutV_length x h3
  refine ⟨?_, ?_, ?_, ?_, ?_⟩
  · intro i hi
    have : i = 0 ∨ i = 1 ∨ i = 2 := by simp at hi; omega
    rcases this with rfl | rfl | rfl
    · exact L _
    · exact L _
    · exact L _
  · intro i hi j hj
    have : i = 0 ∨ i = 1 ∨ i = 2 := by simp at hi; omega
    rcases this with rfl | rfl | rfl
    · have hj' : j < p := hj
      show (cutV n u).getD j 0 = 0; rw [entV (by omega) h3]; exact uz j hj'
    · have hj' : j < q := hj
      show (cutV n v).getD j 0 = 0; rw [entV (by omega) h3]; exact vz j hj'
    · have hj' : j < r := hj
      show (cutV n t).getD j 0 = 0; rw [entV (by omega) h3]; exact tz j hj'
  · intro i hi
    have : i = 0 ∨ i = 1 ∨ i = 2 := by simp at hi; omega
    rcases this with rfl | rfl | rfl
    · refine ⟨up, ?_⟩
      show 0 < (cutV n u).getD p 0; rw [entV up h3]; exact us
    · refine ⟨vp, ?_⟩
      show 0 < (cutV n v).getD q 0; rw [entV vp h3]; exact vs
    · refine ⟨tp, ?_⟩
      show 0 < (cutV n t).getD r 0; rw [entV tp h3]; exact ts
  · intro i hi
    have : i = 0 ∨ i = 1 := by simp at hi; omega
    rcases this with rfl | rfl
    · exact o0
    · exact o1
  · intro i hi k hk
    have : (i = 1 ∧ k = 0) ∨ (i = 2 ∧ k = 0) ∨ (i = 2 ∧ k = 1) := by simp at hi; omega
    rcases this with ⟨rfl, rfl⟩ | ⟨rfl, rfl⟩ | ⟨rfl, rfl⟩
    · show 0 ≤ (cutV n u).getD q 0 ∧ (cutV n u).getD q 0 < (cutV n v).getD q 0
      rw [entV vp h3, entV vp h3]; exact r01
    · show 0 ≤ (cutV n u).getD r 0 ∧ (cutV n u).getD r 0 < (cutV n t).getD r 0
      rw [entV tp h3, entV tp h3]; exact r02
    · show 0 ≤ (cutV n v).getD r 0 ∧ (cutV n v).getD r 0 < (cutV n t).getD r 0
      rw [entV tp h3, entV tp h3]; exact r12

theorem at_lt1 {v : Lat.V} (h : v.x = 0) : ∀ j, j < 1 → v.at j = 0 := fun j hj => by
  have : j = 0 := by omega
  subst this; exact h
theorem at_lt2 {v : Lat.V} (h : v.x = 0) (h' : v.y = 0) : ∀ j, j < 2 → v.at j = 0 := fun j hj => by
  have : j = 0 ∨ j = 1 := by omega
  rcases this with rfl | rfl
  · exact h
  · exact h'

/-- a basis has the shape of one -/
theorem basis_can {n : Nat} {T : Lat.St} (h1 : 0 < n) (h3 : n ≤ 3) (hs : Lat.Shape T) (hf : Flat n T) : ∃ P, CanRows n (basisRows n T) P := by
  have hax := hs.ax; have hby := hs.by0; have hcz := hs.cz
  have za : ∀ j, j < 0 → T.a.at j = 0 := fun j hj => by omega
  have zb := at_lt1 hs.bx
  have zc := at_lt2 hs.cx hs.cy
  unfold basisRows
  by_cases ha : T.a.x = 0
  · by_cases hb : T.b.y = 0
    · by_cases hc : T.c.z = 0
      · rw [if_pos ha, if_pos hb, if_pos hc]
        exact ⟨fun _ => 0, ⟨fun i hi => by simp at hi, fun i hi => by simp at hi, fun i hi => by simp at hi, fun i hi => by simp at hi, fun i hi => by simp at hi⟩⟩
      · have n3 : n = 3 := by
          by_cases h : n ≤ 2
          · exact absurd (hf.z h).2.2 hc
          · omega
        rw [if_pos ha, if_pos hb, if_neg hc]
        exact ⟨_, can1 h3 (u := T.c) (p := 2) (by omega) zc (by show 0 < T.c.z; omega)⟩
    · have n2 : 2 ≤ n := by
        by_cases h : n ≤ 1
        · exact absurd (hf.y h).2 hb
        · omega
      by_cases hc : T.c.z = 0
      · rw [if_pos ha, if_neg hb, if_pos hc]
        exact ⟨_, can1 h3 (u := T.b) (p := 1) (by omega) zb (by show 0 < T.b.y; omega)⟩
      · have n3 : n = 3 := by
          by_cases h : n ≤ 2
          · exact absurd (hf.z h).2.2 hc
          · omega
        rw [if_pos ha, if_neg hb, if_neg hc]
        exact ⟨_, can2 h3 (u := T.b) (v := T.c) (p := 1) (q := 2) (by omega) zb (by show 0 < T.b.y; omega) (by omega) zc (by show 0 < T.c.z; omega) (by omega) (hs.bz (by omega))⟩
  · by_cases hb : T.b.y = 0
    · by_cases hc : T.c.z = 0
      · rw [if_neg ha, if_pos hb, if_pos hc]
        exact ⟨_, can1 h3 (u := T.a) (p := 0) (by omega) za (by show 0 < T.a.x; omega)⟩
      · have n3 : n = 3 := by
          by_cases h : n ≤ 2
          · exact absurd (hf.z h).2.2 hc
          · omega
        rw [if_neg ha, if_pos hb, if_neg hc]
        exact ⟨_, can2 h3 (u := T.a) (v := T.c) (p := 0) (q := 2) (by omega) za (by show 0 < T.a.x; omega) (by omega) zc (by show 0 < T.c.z; omega) (by omega) (hs.az (by omega))⟩
    · have n2 : 2 ≤ n := by
        by_cases h : n ≤ 1
        · exact absurd (hf.y h).2 hb
        · omega
      by_cases hc : T.c.z = 0
      · rw [if_neg ha, if_neg hb, if_pos hc]
        exact ⟨_, can2 h3 (u := T.a) (v := T.b) (p := 0) (q := 1) (by omega) za (by show 0 < T.a.x; omega) (by omega) zb (by show 0 < T.b.y; omega) (by omega) (hs.ay (by omega))⟩
      · have n3 : n = 3 := by
          by_cases h : n ≤ 2
          · exact absurd (hf.z h).2.2 hc
          · omega
        rw [if_neg ha, if_neg hb, if_neg hc]
        exact ⟨_, can3 h3 (u := T.a) (v := T.b) (t := T.c) (p := 0) (q := 1) (r := 2) (by omega) za (by show 0 < T.a.x; omega) (by omega) zb (by show 0 < T.b.y; omega) (by omega) zc (by show 0 < T.c.z; omega) (by omega) (by omega) (hs.ay (by omega)) (hs.az (by omega)) (hs.bz (by omega))⟩

end Go.Proofs.YtmlcblnndihjoaaGreat
