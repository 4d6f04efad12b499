import Derived.Test.YtdjicplcognddaaRefK
import Derived.Test.YtdjicplcognddaaBasis
set_option linter.unusedSimpArgs false
set_option linter.unusedVariables false
namespace Go.Proofs.Ytdjicplcognddaa
open Go.RowKit

theorem rcanon_any (n : Int) (v : Value) (zss : List (List Int)) (w : World) (hv : RowsAt w v zss) (h1 : 1 ≤ n) (h3 : n ≤ 3) (hl : zss.length ≤ 100) (hg : zss.all (goodB n) = true) :
    Calls Try.prog 43 #[.int .i64 n, v] w fun e w' => CanonEnd n.toNat w zss e w' := by
  have hn : n = 1 ∨ n = 2 ∨ n = 3 := by omega
  rcases hn with rfl | rfl | rfl
  · exact canon1 v zss w hv hl hg
  · exact canon2 v zss w hv hl hg
  · exact canon3 v zss w hv hl hg

theorem le_zero : Lat.Le 511 ⟨0, 0, 0⟩ := ⟨⟨by decide, by decide⟩, ⟨by decide, by decide⟩, ⟨by decide, by decide⟩⟩

theorem vec_cut {n : Nat} (h0 : 0 < n) (h3 : n ≤ 3) {v : Lat.V} (hz : n ≤ 2 → v.z = 0) (hy : n ≤ 1 → v.y = 0) : vecOf (cutV n v) = v := by
  have hn : n = 1 ∨ n = 2 ∨ n = 3 := by omega
  rcases hn with rfl | rfl | rfl
  · exact Lat.V.same rfl (hy (by omega)).symm (hz (by omega)).symm
  · exact Lat.V.same rfl rfl (hz (by omega)).symm
  · exact Lat.V.same rfl rfl rfl

theorem fits_iff {n : Nat} {S : Lat.St} (h0 : 0 < n) (h3 : n ≤ 3) (hs : Lat.Shape S) (hf : Flat n S) : (basisRows n S).all (goodB n) = true ↔ FitsS S := by
  refine ⟨fun h => ?_, fun h => (given_ok (basis_given h0 h3 h)).2.2.2⟩
  rw [List.all_eq_true] at h
  refine ⟨?_, ?_, ?_⟩
  · by_cases e : S.a.x = 0
    · have : S.a = ⟨0, 0, 0⟩ := Lat.V.same e (hs.a0 e).1 (hs.a0 e).2
      rw [this]; exact le_zero
    · have t := (good_le (h (cutV n S.a) (by unfold basisRows; simp [e]))).1
      rwa [vec_cut h0 h3 (fun hn => (hf.z hn).1) (fun hn => (hf.y hn).1)] at t
  · by_cases e : S.b.y = 0
    · have : S.b = ⟨0, 0, 0⟩ := Lat.V.same hs.bx e (hs.b0 e)
      rw [this]; exact le_zero
    · have t := (good_le (h (cutV n S.b) (by unfold basisRows; simp [e]))).1
      rwa [vec_cut h0 h3 (fun hn => (hf.z hn).2.1) (fun hn => (hf.y hn).2)] at t
  · by_cases e : S.c.z = 0
    · have : S.c = ⟨0, 0, 0⟩ := Lat.V.same hs.cx hs.cy e
      rw [this]; exact le_zero
    · have t := (good_le (h (cutV n S.c) (by unfold basisRows; simp [e]))).1
      rwa [vec_cut h0 h3 (fun hn => (hf.z hn).2.2) (fun hn => hs.cy)] at t

/-- what the reference's Basis hands back -/
def RBasisEnd (n : Int) (zss : List (List Int)) (w' : World) (e : Ending) : Prop :=
  ∃ T c out, Gen n zss T c ∧ e = .returned (.tuple #[out, .int .i64 c]) ∧ ((c ≠ 0 ∧ out = .slice none 0 0) ∨ (c = 0 ∧ RowsAt w' out (basisRows n.toNat T)))

set_option maxHeartbeats 1000000 in
theorem rbasis_any (n : Int) (v : Value) (zss : List (List Int)) (w : World) (hv : RowsAt w v zss) :
    Calls Try.prog 15 #[.int .i64 n, v] w fun e w' => RBasisEnd n zss w' e ∧ Below w.heap.size w w' := by
  have HG : Hid (∀ w0, w0 = w → Calls Try.prog 42 #[.int .i64 n, v] w0 fun e w' => e = .returned (.int .i64 (givenE n zss)) ∧ w' = w0) := fun w0 e => by
    rw [e]; exact rgiven_any n v zss w hv
  by_cases hz : givenE n zss = 0
  · obtain ⟨h1, h3, hl, hall⟩ := given_ok hz
    have HC : Hid (Calls Try.prog 43 #[.int .i64 n, v] w fun e w' => CanonEnd n.toNat w zss e w') := rcanon_any n v zss w hv h1 h3 (by omega) hall
    have HZ := hide hz
    have hnn : ((n.toNat : Nat) : Int) = n := Int.toNat_of_nonneg (by omega)
    have HF : Hid (∀ S, Lat.CanonOf S (vecs zss) → Flat n.toNat S) := fun S hS => flat_of hS (fun zs hm => by
      rw [List.all_eq_true] at hall
      have := (good_le (hall zs hm)).2; omega)
    have HN := hide hnn
    rw [hz] at HG
    clear hz hall hnn
    go_enter Try.func15, Try.ntmps15
    go_wp2_with (go_at_call 42; refine (HG.out _ rfl).mono ?_; rintro e w' ⟨rfl, hq'⟩; replace hq' := hq'.symm; subst hq')
    refine HC.out.mono ?_
    rintro e w1 ⟨S, out, hS, rfl, hR, hb1⟩
    have hfit := fits_iff (n := n.toNat) (by omega) (by omega) hS.shape (HF.out S hS)
    rw [HN.out] at hfit
    have HT : Hid (∀ w0, w0 = w1 → Calls Try.prog 44 #[.int .i64 n, out] w0 fun e w' => e = .returned (.bool ((basisRows n.toNat S).all (goodB n))) ∧ w' = w0) := fun w0 e => by
      rw [e]; exact rfits_any n out _ w1 hR h1 h3 (by have := basis_len n.toNat S; omega)
    have HS := hide hS
    have HR := hide hR
    have HB := hide hb1
    clear hS hR hb1
    cases hb : (basisRows n.toNat S).all (goodB n)
    · rw [hb] at HT hfit
      have HI : Hid (¬ FitsS S) := fun h => by have := hfit.2 h; cases this
      clear hfit hb
      go_wp2_with (go_at_call 44; refine (HT.out _ rfl).mono ?_; rintro e w' ⟨rfl, hq'⟩; replace hq' := hq'.symm; subst hq')
      go_ret2
      exact ⟨⟨S, 3, _, Or.inr ⟨HZ.out, S, HS.out, Or.inl ⟨rfl, HI.out⟩⟩, rfl, Or.inl ⟨by decide, rfl⟩⟩, HB.out⟩
    · rw [hb] at HT hfit
      have HI : Hid (FitsS S) := hfit.1 rfl
      clear hfit hb
      go_wp2_with (go_at_call 44; refine (HT.out _ rfl).mono ?_; rintro e w' ⟨rfl, hq'⟩; replace hq' := hq'.symm; subst hq')
      go_ret2
      exact ⟨⟨S, 0, _, Or.inr ⟨HZ.out, S, HS.out, Or.inr ⟨rfl, rfl, HI.out⟩⟩, rfl, Or.inr ⟨rfl, HR.out⟩⟩, HB.out⟩
  · have hn : (givenE n zss != 0) = true := by simpa using hz
    have HZ := hide hz
    have HQ : Hid (Gen n zss ⟨⟨0, 0, 0⟩, ⟨0, 0, 0⟩, ⟨0, 0, 0⟩⟩ (givenE n zss)) := Or.inl ⟨rfl, hz⟩
    generalize givenE n zss = c at *
    clear hz
    obtain ⟨a, cap, rfl⟩ := hv.slice
    clear hv
    go_enter Try.func15, Try.ntmps15
    go_wp2_with (go_at_call 42; refine (HG.out _ rfl).mono ?_; rintro e w' ⟨rfl, hq'⟩; replace hq' := hq'.symm; subst hq')
    go_ret2
    exact ⟨⟨_, c, _, HQ.out, rfl, Or.inl ⟨HZ.out, rfl⟩⟩, Below.refl _ _⟩

end Go.Proofs.Ytdjicplcognddaa
