import Derived.Test.YtdjicplcognddaaRefP
set_option linter.unusedSimpArgs false
set_option linter.unusedVariables false
namespace Go.Proofs.Ytdjicplcognddaa
open Go.RowKit

/-- a vector is in the lattice just if the basis stays the same with it -/
theorem basis_stays {n : Nat} {T S : Lat.St} {zs : List Int} (h0 : 0 < n) (h3 : n ≤ 3) (hT : Lat.Shape T) (hfT : Flat n T) (hfS : Flat n S) (hS : Lat.CanonOf S (vecs (basisRows n T ++ [zs]))) :
    basisRows n T = basisRows n S ↔ Lat.Mem T (vecOf zs) := by
  rw [vecs_snoc] at hS
  constructor
  · intro e
    have m : Lat.Mem S (vecOf zs) := (hS.span _).2 (Lat.InSpan.of_mem List.mem_cons_self)
    rw [← basis_span h0 h3 hS.shape hfS, ← e, basis_span h0 h3 hT hfT] at m
    exact m
  · intro m
    have : T = S := Lat.one_basis hT hS.shape (fun u => by
      rw [hS.span u, ← basis_span h0 h3 hT hfT]
      refine ⟨fun h => Lat.InSpan.more _ h, fun h => Lat.InSpan.sub_list (fun g hg => ?_) h⟩
      rcases List.mem_cons.1 hg with e | e
      · rw [e, basis_span h0 h3 hT hfT]; exact m
      · exact Lat.InSpan.of_mem e)
    rw [this]

/-- the reference's answer of Has -/
def RHasEnd (n : Int) (zss : List (List Int)) (zs : List Int) (e : Ending) : Prop :=
  ∃ (r : Bool) (c : Int), e = .returned (.tuple #[.bool r, .int .i64 c]) ∧
    ((givenE n zss ≠ 0 ∧ c = givenE n zss ∧ r = false) ∨ (givenE n zss = 0 ∧ goodB n zs = false ∧ c = 2 ∧ r = false) ∨
     (givenE n zss = 0 ∧ goodB n zs = true ∧ ∃ T, Gen n zss T c ∧ (c ≠ 0 → r = false) ∧ (c = 0 → (r = true ↔ Lat.Mem T (vecOf zs)))))

theorem rowsAt_one {w w' : World} {g : Nat} {x : Value} {zs : List Int} (h : w'.cell? ⟨g, 0, none⟩ = some x) (hx : IntsAt w' x zs) : RowsAt w' (.slice (some ⟨g, 0, none⟩) 1 1) [zs] :=
  Or.inr ⟨by simp, g, 0, 1, rfl, fun i hi => by
    have : i = 0 := by simp at hi; omega
    subst this
    exact ⟨x, h, hx⟩⟩

set_option maxHeartbeats 2000000 in
theorem rhas_any (n : Int) (v x : Value) (zss : List (List Int)) (zs : List Int) (w : World) (hv : RowsAt w v zss) (hx : IntsAt w x zs) :
    Calls Try.prog 23 #[.int .i64 n, v, x] w fun e w' => RHasEnd n zss zs e ∧ Below w.heap.size w w' := by
  have HG : Hid (∀ w0, w0 = w → Calls Try.prog 42 #[.int .i64 n, v] w0 fun e w' => e = .returned (.int .i64 (givenE n zss)) ∧ w' = w0) := fun w0 e => by
    rw [e]; exact rgiven_any n v zss w hv
  have HB : Hid (Calls Try.prog 15 #[.int .i64 n, v] w fun e w' => RBasisEnd n zss w' e ∧ Below w.heap.size w w') := rbasis_any n v zss w hv
  by_cases hz : givenE n zss = 0
  · obtain ⟨h1, h3, hl, hall⟩ := given_ok hz
    have HD : Hid (∀ w0, w0 = w → Calls Try.prog 50 #[.int .i64 n, x, .int .i64 511] w0 fun e w' => e = .returned (.bool (goodB n zs)) ∧ w' = w0) := fun w0 e => by
      rw [e]; exact rgood_any n x zs w hx h1 h3
    have HZ := hide hz
    have HX := hide hx
    have HALL := hide hall
    rw [hz] at HG
    obtain ⟨a, cap, rfl⟩ := hv.slice
    obtain ⟨xa, xcap, rfl⟩ := hx.slice
    clear hz hv hx hall
    cases hgb : goodB n zs
    · rw [hgb] at HD
      have HGB := hide hgb
      clear hgb
      go_enter Try.func23, Try.ntmps23
      go_wp2_with (first | (go_at_call 42; refine (HG.out _ rfl).mono ?_; rintro e w' ⟨rfl, hq'⟩; replace hq' := hq'.symm; subst hq') | (go_at_call 50; refine (HD.out _ rfl).mono ?_; rintro e w' ⟨rfl, hq'⟩; replace hq' := hq'.symm; subst hq'))
      go_ret2
      exact ⟨⟨false, 2, rfl, Or.inr (Or.inl ⟨HZ.out, HGB.out, rfl, rfl⟩)⟩, Below.refl _ _⟩
    · rw [hgb] at HD
      have HGB := hide hgb
      clear hgb
      go_enter Try.func23, Try.ntmps23
      go_wp2_with (first | (go_at_call 42; refine (HG.out _ rfl).mono ?_; rintro e w' ⟨rfl, hq'⟩; replace hq' := hq'.symm; subst hq') | (go_at_call 50; refine (HD.out _ rfl).mono ?_; rintro e w' ⟨rfl, hq'⟩; replace hq' := hq'.symm; subst hq'))
      refine HB.out.mono ?_
      rintro e w1 ⟨⟨T, c, out, hg, rfl, hcase⟩, hb1⟩
      have HGN := hide hg
      have HB1 := hide hb1
      rcases hcase with ⟨hc, rfl⟩ | ⟨rfl, hR⟩
      · have hn : (c != 0) = true := by simpa using hc
        have HN := hide hc
        clear hg hc hb1
        go_wp2
        go_ret2
        exact ⟨⟨false, c, rfl, Or.inr (Or.inr ⟨HZ.out, HGB.out, T, HGN.out, fun _ => rfl, fun h => absurd h HN.out⟩)⟩, HB1.out⟩
      · have hfl : Lat.Shape T ∧ FitsS T ∧ Flat n.toNat T := by
          rcases hg with ⟨_, h⟩ | ⟨g0, T', hT, h⟩
          · exact absurd rfl h
          · rcases h with ⟨h, _⟩ | ⟨_, e, hF⟩
            · cases h
            · subst e
              refine ⟨hT.shape, hF, flat_of hT (fun zs hm => ?_)⟩
              have hall := (given_ok g0).2.2.2
              rw [List.all_eq_true] at hall
              have := (good_le (hall zs hm)).2; omega
        obtain ⟨hsh, hF, hflat⟩ := hfl
        have HR := hide hR
        have hnn : ((n.toNat : Nat) : Int) = n := Int.toNat_of_nonneg (by omega)
        have hbg : (basisRows n.toNat T).all (goodB n) = true := by
          have t := (fits_iff (n := n.toNat) (by omega) (by omega) hsh hflat).2 hF
          rwa [hnn] at t
        have HALL2 : Hid ((basisRows n.toNat T ++ [zs]).all (goodB n) = true) := by
          show (basisRows n.toNat T ++ [zs]).all (goodB n) = true
          rw [List.all_append, hbg]; simp [HGB.out]
        have HQ : Hid (Lat.Shape T ∧ Flat n.toNat T) := ⟨hsh, hflat⟩
        have HNN := hide hnn
        have HLL := hide (basis_len n.toNat T)
        obtain ⟨oa, ocap, rfl⟩ := hR.slice
        clear hg hb1 hR hsh hF hflat hbg hnn
        go_wp2_with fail
        have hAl : Below w1.heap.size w1 (w1.alloc (Obj.cells #[Value.slice xa zs.length xcap] 22)) := (Below.refl _ _).alloc (Nat.le_refl _) _
        have HXA := (HX.out.below HB1.out).below hAl
        refine (rwith_any _ _ _ [zs] _ (HR.out.below hAl) (rowsAt_one (w := w1) ((Blk.new w1 #[Value.slice xa zs.length xcap] 22 rfl).cell 0) HXA) (by have := HLL.out; omega) (by simp)).mono ?_
        rintro e w2 ⟨one, rfl, hone, hb2⟩
        have h12 : Below w1.heap.size w1 w2 := hAl.trans (hb2.mono (by simp))
        have HC : Hid (Calls Try.prog 43 #[.int .i64 n, one] w2 fun e w' => CanonEnd n.toNat w2 (basisRows n.toNat T ++ [zs]) e w') :=
          rcanon_any n one _ w2 hone h1 h3 (by have := HLL.out; simp; omega) HALL2.out
        obtain ⟨na, ncap, rfl⟩ := hone.slice
        clear hone
        generalize (basisRows n.toNat T ++ [zs]).length = K at *
        have H12 := hide h12
        clear hb2 h12 hAl HXA
        go_wp2_with fail
        refine HC.out.mono ?_
        rintro e w3 ⟨S, cv, hS, rfl, hRc, hb3⟩
        have h13 : Below w1.heap.size w1 w3 := H12.out.trans (hb3.mono H12.out.size)
        have hfS : Flat n.toNat S := flat_of hS (fun zs' hm => by
          have t := HALL2.out
          rw [List.all_eq_true] at t
          have := (good_le (t zs' hm)).2; omega)
        have lens : ∀ (S' : Lat.St), ∀ zs' ∈ basisRows n.toNat S', 0 < zs'.length ∧ zs'.length ≤ 3 := fun S' => basis_lens (by omega) (by omega)
        have HS : Hid (∀ w0, w0 = w3 → Calls Try.prog 16 #[.slice oa (basisRows n.toNat T).length ocap, cv] w0 fun e w' => SameEnd e (basisRows n.toNat T = basisRows n.toNat S) ∧ Below w0.heap.size w0 w') := fun w0 e => by
          rw [e]; exact rsame_any _ cv _ _ w3 (HR.out.below h13) hRc (by have := HLL.out; omega) (lens T) (lens S)
        have HST : Hid (basisRows n.toNat T = basisRows n.toNat S ↔ Lat.Mem T (vecOf zs)) := basis_stays (by omega) (by omega) HQ.out.1 HQ.out.2 hfS hS
        obtain ⟨ca, ccap, rfl⟩ := hRc.slice
        have H13 := hide h13
        clear hS hRc hb3 h13 hfS lens
        go_wp2_with fail
        refine (HS.out _ rfl).mono ?_
        rintro e w4 ⟨⟨r, rfl, hr⟩, hb4⟩
        have HRR := hide hr
        have H14 := hide (H13.out.trans (hb4.mono H13.out.size))
        clear hr hb4
        go_wp2
        go_ret2
        exact ⟨⟨r, 0, rfl, Or.inr (Or.inr ⟨HZ.out, HGB.out, T, HGN.out, fun h => absurd rfl h, fun _ => HRR.out.trans HST.out⟩)⟩, HB1.out.trans (H14.out.mono HB1.out.size)⟩
  · have hn : (givenE n zss != 0) = true := by simpa using hz
    have HQ : Hid (givenE n zss ≠ 0) := hz
    obtain ⟨c, hc⟩ : ∃ c, c = givenE n zss := ⟨_, rfl⟩
    have HCC := hide hc
    rw [← hc] at HG hn
    clear hz hc
    obtain ⟨a, cap, rfl⟩ := hv.slice
    obtain ⟨xa, xcap, rfl⟩ := hx.slice
    clear hv hx
    go_enter Try.func23, Try.ntmps23
    go_wp2_with (go_at_call 42; refine (HG.out _ rfl).mono ?_; rintro e w' ⟨rfl, hq'⟩; replace hq' := hq'.symm; subst hq')
    go_ret2
    exact ⟨⟨false, c, rfl, Or.inl ⟨HQ.out, HCC.out, rfl⟩⟩, Below.refl _ _⟩

end Go.Proofs.Ytdjicplcognddaa
