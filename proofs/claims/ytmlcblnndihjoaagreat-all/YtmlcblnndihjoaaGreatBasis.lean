import Derived.Test.YtmlcblnndihjoaaGreatSRows
namespace Go.Proofs.YtmlcblnndihjoaaGreat
open Go.RowKit

theorem hide {p : Prop} (h : p) : Hid p := h

/-- the answer of Basis -/
def BasisEnd (B : Nat) (n : Int) (zss : List (List Int)) (w' : World) (e : Ending) : Prop :=
  ∃ T c out, Gen n zss T c ∧ e = .returned (.tuple #[out, .int .i64 c]) ∧ ((c ≠ 0 ∧ out = .slice none 0 0) ∨ (c = 0 ∧ out ≠ .slice none 0 0 ∧ ∃ vs, RowsOwn w' B out vs (basisRows n.toNat T) n.toNat))

set_option maxHeartbeats 1000000 in
theorem basis_any (n : Int) (v : Value) (zss : List (List Int)) (w : World) (hv : RowsAt w v zss) :
    Calls Tryz.prog 13 #[.int .i64 n, v] w fun e w' => BasisEnd w.heap.size n zss w' e ∧ Below w.heap.size w w' := by
  go_enter Tryz.func13, Tryz.ntmps13
  go_wp2_with fail
  refine (generated_any n v zss _ hv).mono ?_
  rintro e w1 ⟨T, c, hg, rfl, hb1⟩
  have HG : Hid (Gen n zss T c) := hg
  have hs1 := hb1.size
  by_cases hc : c = 0
  · have hg2 : 1 ≤ n ∧ n ≤ 3 := by
      rcases hg with ⟨_, h⟩ | ⟨h0, T', _, _⟩
      · exact absurd hc h
      · have := given_ok h0; exact ⟨this.1, this.2.1⟩
    subst hc
    have HI : Hid (∀ w0, Calls Tryz.prog 34 #[.agg #[.int .i64 T.a.x, .int .i64 T.a.y, .int .i64 T.a.z, .int .i64 T.b.x, .int .i64 T.b.y, .int .i64 T.b.z, .int .i64 T.c.x, .int .i64 T.c.y, .int .i64 T.c.z], .int .i64 n] w0 fun e w' => RowsOut w0.heap.size n.toNat T w' e ∧ Below w0.heap.size w0 w') := fun w0 => by
      have := spanRows_any T n.toNat w0 (by omega) (by omega)
      rw [Int.toNat_of_nonneg (by omega)] at this
      exact this
    clear hg hg2
    go_wp2_with fail
    refine (HI.out _).mono ?_
    rintro e w2 ⟨⟨out, vs, rfl, hO, hnn⟩, hb2⟩
    have HO : Hid (RowsOwn w2 w.heap.size out vs (basisRows n.toNat T) n.toNat ∧ out ≠ .slice none 0 0) := ⟨hO.base (by simp; omega), hnn⟩
    clear hO hnn
    go_wp2
    go_ret2
    exact ⟨⟨T, 0, out, HG.out, rfl, Or.inr ⟨rfl, HO.out.2, vs, HO.out.1⟩⟩, (hb1.alloc hb1.size _).trans (hb2.mono (by simp; omega))⟩
  · have hn : (c != 0) = true := by simpa using hc
    have HN : Hid (¬ c = 0) := hc
    clear hg hc
    go_wp2
    go_ret2
    exact ⟨⟨T, c, _, HG.out, rfl, Or.inl ⟨HN.out, rfl⟩⟩, hb1.alloc hb1.size _⟩

/-- the answer of Has -/
def HasOut (n : Int) (zss : List (List Int)) (zs : List Int) (e : Ending) : Prop :=
  ∃ (r : Bool) (c : Int) (T : Lat.St), e = .returned (.tuple #[.bool r, .int .i64 c]) ∧
    (((decide (1 ≤ n) && decide (n ≤ 3)) = false ∧ c = 1 ∧ r = false) ∨
     ((decide (1 ≤ n) && decide (n ≤ 3)) = true ∧ goodB n zs = false ∧ c = 2 ∧ r = false) ∨
     ((decide (1 ≤ n) && decide (n ≤ 3)) = true ∧ goodB n zs = true ∧ Gen n zss T c ∧ (c ≠ 0 → r = false) ∧ (c = 0 → (r = true ↔ Lat.Mem T (vecOf zs)))))

set_option maxHeartbeats 2000000 in
theorem has_any (n : Int) (v x : Value) (zss : List (List Int)) (zs : List Int) (w : World) (hv : RowsAt w v zss) (hx : IntsAt w x zs) :
    Calls Tryz.prog 22 #[.int .i64 n, v, x] w fun e w' => HasOut n zss zs e ∧ Below w.heap.size w w' := by
  have HV : Hid (RowsAt w v zss) := hv
  have HX : Hid (IntsAt w x zs) := hx
  have HW := fun w0 => isWidth_any n w0
  obtain ⟨a, cap, rfl⟩ := hv.slice
  obtain ⟨a1, cap1, rfl⟩ := hx.slice
  clear hv hx
  cases hw : (decide (1 ≤ n) && decide (n ≤ 3))
  · have HH : Hid ((decide (1 ≤ n) && decide (n ≤ 3)) = false) := hw
    rw [hw] at HW
    have HW2 := hide HW
    clear HW hw
    go_enter Tryz.func22, Tryz.ntmps22
    go_wp2_with fail
    refine (HW2.out _).mono ?_
    rintro e w' ⟨rfl, hq'⟩; replace hq' := hq'.symm; subst hq'
    go_wp2
    go_ret2
    exact ⟨⟨false, 1, zeroS, rfl, Or.inl ⟨HH.out, rfl, rfl⟩⟩, Below.refl _ _⟩
  · have HH : Hid ((decide (1 ≤ n) && decide (n ≤ 3)) = true) := hw
    rw [hw] at HW
    have hn := hw
    rw [Bool.and_eq_true, decide_eq_true_eq, decide_eq_true_eq] at hn
    have HG := isVector_any n _ zs w HX.out hn.1 hn.2
    have HN : Hid (1 ≤ n ∧ n ≤ 3) := hn
    clear hw hn
    have HW2 := hide HW
    clear HW
    cases hg : goodB n zs
    · have HGF : Hid (goodB n zs = false) := hg
      rw [hg] at HG
      have HG2 := hide HG
      clear HG hg
      go_enter Tryz.func22, Tryz.ntmps22
      go_wp2_with fail
      refine (HW2.out _).mono ?_
      rintro e w' ⟨rfl, hq'⟩; replace hq' := hq'.symm; subst hq'
      go_wp2_with fail
      refine (HG2.out).mono ?_
      rintro e w' ⟨rfl, hq'⟩; replace hq' := hq'.symm; subst hq'
      go_wp2
      go_ret2
      exact ⟨⟨false, 2, zeroS, rfl, Or.inr (Or.inl ⟨HH.out, HGF.out, rfl, rfl⟩)⟩, Below.refl _ _⟩
    · have HGT : Hid (goodB n zs = true) := hg
      rw [hg] at HG
      have HG2 := hide HG
      clear HG hg
      go_enter Tryz.func22, Tryz.ntmps22
      go_wp2_with fail
      refine (HW2.out _).mono ?_
      rintro e w' ⟨rfl, hq'⟩; replace hq' := hq'.symm; subst hq'
      go_wp2_with fail
      refine (HG2.out).mono ?_
      rintro e w' ⟨rfl, hq'⟩; replace hq' := hq'.symm; subst hq'
      go_wp2_with fail
      refine (generated_any n _ zss _ HV.out).mono ?_
      rintro e w1 ⟨T, c, hg, rfl, hb1⟩
      have HGE : Hid (Gen n zss T c) := hg
      have hs1 := hb1.size
      clear hg
      by_cases hc : c = 0
      · subst hc
        obtain ⟨hT, hF⟩ := gen_ok HGE.out
        have hgl := good_le HGT.out
        have hln := HN.out
        have HVO : Hid (∀ w0, Below w.heap.size w w0 → Calls Tryz.prog 44 #[.slice a1 zs.length cap1] w0 fun e w' => e = .returned (.agg #[.int .i64 (vecOf zs).x, .int .i64 (vecOf zs).y, .int .i64 (vecOf zs).z]) ∧ Below w0.heap.size w0 w') := fun w0 h0 =>
          vectorOf_any _ zs w0 (HX.out.below h0) (by omega) (by omega)
        have HSH : Hid (∀ w0, Calls Tryz.prog 45 #[.agg #[.int .i64 T.a.x, .int .i64 T.a.y, .int .i64 T.a.z, .int .i64 T.b.x, .int .i64 T.b.y, .int .i64 T.b.z, .int .i64 T.c.x, .int .i64 T.c.y, .int .i64 T.c.z], .agg #[.int .i64 (vecOf zs).x, .int .i64 (vecOf zs).y, .int .i64 (vecOf zs).z]] w0 fun e w' => HasEnd T (vecOf zs) e ∧ Below w0.heap.size w0 w') := fun w0 =>
          spanHas_any T (vecOf zs) w0 hT.shape hF hgl.1
        clear hT hF hgl hln
        obtain ⟨u, hu⟩ : ∃ u, u = vecOf zs := ⟨_, rfl⟩
        rw [← hu] at HVO HSH
        have HU : Hid (u = vecOf zs) := hu
        clear hu
        go_wp2_with fail
        refine (HVO.out _ (hb1.alloc hb1.size _)).mono ?_
        rintro e w2 ⟨rfl, hb2⟩
        have k8 := (Blk.new w1 #[.int .i64 T.a.x, .int .i64 T.a.y, .int .i64 T.a.z, .int .i64 T.b.x, .int .i64 T.b.y, .int .i64 T.b.z, .int .i64 T.c.x, .int .i64 T.c.y, .int .i64 T.c.z] 58 rfl).below hb2 (by simp)
        have hs2 := hb2.size
        have hB2 : Below w.heap.size w w2 := (hb1.alloc hb1.size _).trans (hb2.mono (by simp; omega))
        have hl8 := k8.lt
        obtain ⟨s0, s1, s2, s3, s4, s5, s6, s7, s8⟩ := k8.nine
        go_wp2_with fail
        refine (HSH.out _).mono ?_
        rintro e w3 ⟨⟨r, rfl, hr⟩, hb3⟩
        have HR : Hid (r = true ↔ Lat.Mem T (vecOf zs)) := by rw [← HU.out]; exact hr
        clear hr
        go_wp2
        go_ret2
        refine ⟨⟨r, 0, T, rfl, Or.inr (Or.inr ⟨HH.out, HGT.out, HGE.out, fun h => absurd rfl h, fun _ => HR.out⟩)⟩, ?_⟩
        exact (hB2.alloc hB2.size _).trans (hb3.mono (by simp; have := hB2.size; omega))
      · have hn : (c != 0) = true := by simpa using hc
        have HN : Hid (¬ c = 0) := hc
        clear hc
        go_wp2
        go_ret2
        exact ⟨⟨false, c, T, rfl, Or.inr (Or.inr ⟨HH.out, HGT.out, HGE.out, fun _ => rfl, fun h => absurd h HN.out⟩)⟩, hb1.alloc hb1.size _⟩

end Go.Proofs.YtmlcblnndihjoaaGreat
