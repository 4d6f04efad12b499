import Derived.Test.YtmlcblnndihjoaaGreatBasesW
import Derived.Test.YtmlcblnndihjoaaGreatTabD
set_option linter.unusedSimpArgs false
set_option linter.unusedVariables false
namespace Go.Proofs.YtmlcblnndihjoaaGreat
open Go.RowKit

theorem has_one {n : Int} {zss : List (List Int)} {zs : List Int} {e e' : Ending} (h : HasOut n zss zs e) (h' : RHasEnd n zss zs e') :
    ∃ r c, e = .returned (.tuple #[.bool r, .int .i64 c]) ∧ e' = .returned (.tuple #[.bool r, .int .i64 c]) := by
  obtain ⟨r, c, T, rfl, h⟩ := h
  obtain ⟨r', c', rfl, h'⟩ := h'
  suffices hh : r = r' ∧ c = c' by obtain ⟨rfl, rfl⟩ := hh; exact ⟨_, _, rfl, rfl⟩
  rcases h with ⟨hw, rfl, rfl⟩ | ⟨hw, hv, rfl, rfl⟩ | ⟨hw, hv, hG, hr1, hr2⟩
  · have hE : givenE n zss = 1 := by unfold givenE; rw [hw]; rfl
    rcases h' with ⟨_, rfl, rfl⟩ | ⟨h0, _⟩ | ⟨h0, _⟩
    · exact ⟨rfl, hE.symm⟩
    · rw [hE] at h0; exact absurd h0 (by decide)
    · rw [hE] at h0; exact absurd h0 (by decide)
  · rcases h' with ⟨h0, rfl, rfl⟩ | ⟨h0, _, rfl, rfl⟩ | ⟨h0, hv', _⟩
    · refine ⟨rfl, ?_⟩
      unfold givenE at h0 ⊢
      rw [if_pos hw] at h0 ⊢
      by_cases hb : givenB n zss = true
      · rw [if_pos hb] at h0; exact absurd rfl h0
      · rw [if_neg hb]
    · exact ⟨rfl, rfl⟩
    · rw [hv] at hv'; cases hv'
  · rcases h' with ⟨h0, rfl, rfl⟩ | ⟨h0, hv', rfl, rfl⟩ | ⟨h0, hv', T', hG', hr1', hr2'⟩
    · rcases hG with ⟨h1, h2⟩ | ⟨h1, _⟩
      · exact ⟨hr1 h2, h1⟩
      · exact absurd h1 h0
    · rw [hv] at hv'; cases hv'
    · obtain ⟨rfl, hT⟩ := gen_one hG hG'
      refine ⟨?_, rfl⟩
      by_cases hc : c = 0
      · have := hT hc; subst this
        have h1 := hr2 hc
        have h2 := hr2' hc
        rw [Bool.eq_iff_iff, h1, h2]
      · rw [hr1 hc, hr1' hc]

set_option maxRecDepth 100000 in
set_option maxHeartbeats 4000000 in
theorem members_walk (n : Int) (u v x : Value) (cells cuts zs : List Int) (w : World) (hu : IntsAt w u cells) (hv : IntsAt w v cuts) (hx : IntsAt w x zs) :
    Calls Tryz.prog 6 #[.int .i64 n, u, v, x] w fun e w' => e = .returned (.bool true) ∧ Below w.heap.size w w' := by
  have HU := hide0 hu
  have HV := hide0 hv
  have HX := hide0 hx
  obtain ⟨a, c, rfl⟩ := hu.slice
  obtain ⟨b, d, rfl⟩ := hv.slice
  obtain ⟨a', c', rfl⟩ := hx.slice
  clear hu hv hx
  by_cases hs : cells.length ≤ 1073741824 ∧ cuts.length ≤ 1073741824
  · have HF : Hid (∀ w0, Calls Tryz.prog 10 #[.slice a cells.length c, .slice b cuts.length d] w0 fun e w' => e = .returned (.bool true) ∧ w0 = w') := fun w0 => by
      have := few_any a b cells.length cuts.length c d w0
      rwa [decide_eq_true (show ((cells.length : Nat) : Int) ≤ 1073741824 by omega), decide_eq_true (show ((cuts.length : Nat) : Int) ≤ 1073741824 by omega)] at this
    have HS := hide0 hs
    clear hs
    by_cases hzl : zs.length ≤ 1073741824
    · have hz1 : ((zs.length : Nat) : Int) ≤ 1073741824 := by omega
      have HZ := hide0 hzl
      clear hzl
      have HL := hide0 (laid_any _ _ cells cuts w HU.out HV.out HS.out.1 HS.out.2)
      generalize hm : cells.length = L at *
      generalize hn : cuts.length = N at *
      generalize hk : zs.length = K at *
      have HM := hide0 hm
      have HN := hide0 hn
      have HK := hide0 hk
      clear hm hn hk
      go_enter Tryz.func6, Tryz.ntmps6
      go_wp2_with fail
      refine (HF.out _).mono ?_
      rintro e w' ⟨rfl, hq'⟩; subst hq'
      go_wp2_with fail
      refine HL.out.mono ?_
      rintro e w1 ⟨⟨p, o, l, y, rfl, hT⟩, hb1⟩
      have HT := hide0 hT
      have HB1 := hide0 hb1
      have hs1 := hb1.size
      have HX1 := hide0 (HX.out.below hb1)
      clear hT hb1 HL HF
      go_wp2_with fail
      refine (trows_any _ _ p o l y cells cuts HT.out (by rw [HN.out]; exact HS.out.2)).mono ?_
      rintro e w2 ⟨rfl, hb2⟩
      have HT2 := hide0 (HT.out.below hb2 HT.out.lts)
      have HB2 := hide0 (HB1.out.trans (hb2.mono hs1))
      have HX2 := hide0 (HX1.out.below hb2)
      have hs2 := hb2.size
      clear hb2 HT HX1
      rw [HN.out]
      have hle := lent_any _ zs w2 HX2.out (by rw [HK.out]; exact HZ.out)
      have HLE := hide0 hle
      clear hle
      go_wp2_with fail
      refine HLE.out.mono ?_
      rintro e w3 ⟨⟨rfl, hLt⟩, hb3⟩
      have HLt := hide0 hLt
      have HT3 := hide0 (HT2.out.below hb3 HT2.out.lts)
      have HB3 := hide0 (HB2.out.trans (hb3.mono (by omega)))
      have HX3 := hide0 (HX2.out.below hb3)
      have hs3 := hb3.size
      have hr := HT3.out.rowsAt
      rw [HN.out] at hr
      have HR := hide0 hr
      have hha := has_any n _ _ _ zs _ hr hLt.ints
      have HHA := hide0 hha
      clear hr hha hb3 hLt HLE HX2 HT2
      rw [HK.out] at HHA ⊢
      go_wp2_with fail
      refine HHA.out.mono ?_
      rintro e w4 ⟨hO, hb4⟩
      have hs4 := hb4.size
      have HT4 := hide0 (HT3.out.below hb4 HT3.out.lts)
      have HB4 := hide0 (HB3.out.trans (hb4.mono (by omega)))
      have HX4 := hide0 (HX3.out.below hb4)
      have HLt4 := hide0 (Lent.mk (HLt.out.blk.below hb4 HLt.out.blk.lt))
      have HO := hide0 hO
      obtain ⟨r, cc, TT, he, _⟩ := hO
      subst he
      have HRA := hide0 (rhas_any n _ _ _ zs _ (HR.out.below hb4) HX4.out)
      clear hb4 HR HHA HX3 HLt HT3
      go_wp2_with fail
      refine HRA.out.mono ?_
      rintro e w5 ⟨hO5, hb5⟩
      obtain ⟨r2, cc2, e1, e2⟩ := has_one HO.out hO5
      injection e1 with e1; injection e1 with e1
      simp at e1
      obtain ⟨rfl, rfl⟩ := e1
      subst e2
      have hs5 := hb5.size
      have HT5 := hide0 (HT4.out.below hb5 HT4.out.lts)
      have HB5 := hide0 (HB4.out.trans (hb5.mono (by omega)))
      have HX5 := hide0 (HX4.out.below hb5)
      have HLt5 := hide0 (Lent.mk (HLt4.out.blk.below hb5 HLt4.out.blk.lt))
      have HW := hide0 (whole_any w5 _ p o l y _ _ cells cuts HT5.out (HU.out.below HB5.out) (HV.out.below HB5.out) (by rw [HM.out]; exact HS.out.1) (by rw [HN.out]; exact HS.out.2))
      clear hb5 HO hO5 HRA HX4 HLt4 HT4
      go_wp2_with fail
      refine HW.out.mono ?_
      rintro e w6 ⟨rfl, hb6⟩
      have hs6 := hb6.size
      have HB6 := hide0 (HB5.out.trans (hb6.mono (by omega)))
      have hre := returned_any _ w2.heap.size zs w6 (Lent.mk (HLt5.out.blk.below hb6 HLt5.out.blk.lt)) (HX5.out.below hb6) (by rw [HK.out]; exact HZ.out)
      rw [HK.out] at hre
      have HRE := hide0 hre
      clear hb6 hre HW
      go_wp2_with fail
      refine HRE.out.mono ?_
      rintro e w7 ⟨rfl, hb7⟩
      have HB7 := hide0 (HB6.out.trans (hb7.mono (by omega)))
      clear hb7
      have hbb : (r == r) = true := by simp
      have hcc : (cc == cc) = true := by simp
      go_wp2
      go_ret
      exact ⟨rfl, HB7.out⟩
    · have hz1 : (1073741824 : Int) < ((zs.length : Nat) : Int) := by omega
      clear hzl HU HV HX HS
      generalize zs.length = K at *
      go_enter Tryz.func6, Tryz.ntmps6
      go_wp2_with fail
      refine (HF.out _).mono ?_
      rintro e w' ⟨rfl, hq'⟩; subst hq'
      go_wp2
      go_ret
      exact ⟨rfl, Below.refl _ _⟩
  · have HF : Hid (∀ w0, Calls Tryz.prog 10 #[.slice a cells.length c, .slice b cuts.length d] w0 fun e w' => e = .returned (.bool false) ∧ w0 = w') := fun w0 => by
      have := few_any a b cells.length cuts.length c d w0
      have e : (decide (((cells.length : Nat) : Int) ≤ 1073741824) && decide (((cuts.length : Nat) : Int) ≤ 1073741824)) = false := by
        rw [Bool.and_eq_false_iff]
        by_cases h1 : cells.length ≤ 1073741824
        · right; simp; omega
        · left; simp; omega
      rwa [e] at this
    clear hs HU HV HX
    go_enter Tryz.func6, Tryz.ntmps6
    go_wp2_with fail
    refine (HF.out _).mono ?_
    rintro e w' ⟨rfl, hq'⟩; subst hq'
    go_wp2
    go_ret
    exact ⟨rfl, Below.refl _ _⟩

end Go.Proofs.YtmlcblnndihjoaaGreat
