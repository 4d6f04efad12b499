import Derived.Test.YtmlcblnndihjoaaGreatShape
namespace Go.Proofs.YtmlcblnndihjoaaGreat
open Go.RowKit

/-- what was handed in is in the basis -/
theorem has_true {n : Nat} {T : Lat.St} {zs : List Int} {e : Ending} (h : HasOut (n : Int) (basisRows n T) zs e) (h1 : 0 < n) (h3 : n ≤ 3) (hs : Lat.Shape T) (hf : Flat n T) (hF : FitsS T) (hg : goodB (n : Int) zs = true) (hm : Lat.Mem T (vecOf zs)) :
    e = .returned (.tuple #[.bool true, .int .i64 0]) := by
  obtain ⟨r, c, T2, rfl, h⟩ := h
  have hw : (decide (1 ≤ (n : Int)) && decide ((n : Int) ≤ 3)) = true := by simp; omega
  rcases h with ⟨h, _⟩ | ⟨_, h, _⟩ | ⟨_, _, hG, _, hr⟩
  · rw [hw] at h; cases h
  · rw [hg] at h; cases h
  · obtain ⟨rfl, rfl⟩ := basis_again h1 h3 hs hf hF hG
    have := (hr rfl).2 hm
    rw [this]

theorem given_good {n : Int} {zss : List (List Int)} (h : givenE n zss = 0) {zs : List Int} (hm : zs ∈ zss) : goodB n zs = true := by
  have := (given_ok h).2.2.2
  rw [List.all_eq_true] at this
  exact this zs hm

theorem vec_mem {zss : List (List Int)} {T : Lat.St} (hT : Lat.CanonOf T (vecs zss)) {zs : List Int} (hm : zs ∈ zss) : Lat.Mem T (vecOf zs) := by
  refine (hT.span _).2 (Lat.InSpan.of_mem ?_)
  simp only [vecs, List.mem_reverse, List.mem_map]
  exact ⟨zs, hm, rfl⟩

theorem fits_within {n : Nat} {T : Lat.St} (hF : FitsS T) : withinB 511 (basisRows n T) = true := by
  unfold withinB
  rw [List.all_eq_true]; intro zs hm
  rw [List.all_eq_true]; intro z hz
  have : -511 ≤ z ∧ z ≤ 511 := by
    rcases basis_mem hm with rfl | rfl | rfl
    · exact cutV_le hF.1 z hz
    · exact cutV_le hF.2.1 z hz
    · exact cutV_le hF.2.2 z hz
  simp [inB]; omega

theorem basis_lens {n : Nat} {T : Lat.St} (h1 : 0 < n) (h3 : n ≤ 3) : ∀ zs ∈ basisRows n T, 0 < zs.length ∧ zs.length ≤ 3 := by
  intro zs hm
  have : zs.length = n := by rcases basis_mem hm with rfl | rfl | rfl <;> exact cutV_length _ h3
  omega

end Go.Proofs.YtmlcblnndihjoaaGreat
