import Derived.Test.YtmlcblnndihjoaaGreatTabB
import Derived.Test.YtmlcblnndihjoaaGreatTabC
import Derived.Test.YtmlcblnndihjoaaGreatRefQ
set_option linter.unusedSimpArgs false
set_option linter.unusedVariables false
namespace Go.Proofs.YtmlcblnndihjoaaGreat
open Go.RowKit

theorem gen_one {n : Int} {zss : List (List Int)} {T T' : Lat.St} {c c' : Int} (h : Gen n zss T c) (h' : Gen n zss T' c') : c = c' ∧ (c = 0 → T = T') := by
  rcases h with ⟨h1, h2⟩ | ⟨h1, S, hS, h2⟩
  · rcases h' with ⟨h3, h4⟩ | ⟨h3, _⟩
    · exact ⟨by rw [h1, h3], fun e => absurd e h2⟩
    · rw [h3] at h1; exact absurd h1 h2
  · rcases h' with ⟨h3, h4⟩ | ⟨h3, S', hS', h4⟩
    · rw [h1] at h3; exact absurd h3 h4
    · have : S = S' := hS.one hS' (fun v => Iff.rfl)
      subst this
      rcases h2 with ⟨a1, a2⟩ | ⟨a1, a2, a3⟩
      · rcases h4 with ⟨b1, b2⟩ | ⟨b1, b2, b3⟩
        · exact ⟨by rw [a1, b1], fun e => by omega⟩
        · exact absurd b3 a2
      · rcases h4 with ⟨b1, b2⟩ | ⟨b1, b2, b3⟩
        · exact absurd a3 b2
        · exact ⟨by rw [a1, b1], fun _ => by rw [a2, b2]⟩

theorem gen_width {n : Int} {zss : List (List Int)} {T : Lat.St} (h : Gen n zss T 0) : 1 ≤ n ∧ n ≤ 3 := by
  rcases h with ⟨_, h⟩ | ⟨h0, _⟩
  · exact absurd rfl h
  · have := given_ok h0; exact ⟨this.1, this.2.1⟩

theorem idx_one {n : Int} {zss : List (List Int)} {e e' : Ending} (h : IdxEnd n zss e) (h' : IdxEnd n zss e') : ∃ k c, e = .returned (.tuple #[.int .i64 k, .int .i64 c]) ∧ e' = .returned (.tuple #[.int .i64 k, .int .i64 c]) := by
  obtain ⟨T, c, hg, rfl⟩ := h
  obtain ⟨T', c', hg', rfl⟩ := h'
  obtain ⟨rfl, ht⟩ := gen_one hg hg'
  refine ⟨_, _, rfl, ?_⟩
  by_cases hc : c = 0
  · rw [ht hc]
  · simp [hc]

theorem basisRows_len (n : Nat) (T : Lat.St) : (basisRows n T).length ≤ 6 := by
  unfold basisRows; repeat' split
  all_goals simp

theorem basisRows_each {n : Nat} {T : Lat.St} (h : n ≤ 3) : ∀ zs ∈ basisRows n T, zs.length = n := by
  intro zs hz
  unfold basisRows at hz
  simp only [List.mem_append] at hz
  rcases hz with (hz | hz) | hz <;> (split at hz <;> simp at hz <;> (subst hz; exact cutV_length _ h))

/-- what Basis, the reference's Basis and Same say of the same rows -/
def BasesMid (B : Nat) (c c' : Int) (out : Value) (w : World) : Prop :=
  c = c' ∧ ((c ≠ 0 ∧ out = .slice none 0 0) ∨ (c = 0 ∧ ∃ vs zss n, 0 < n ∧ RowsOwn w B out vs zss n))

theorem ne26n (w : World) : (binOp .neq 33 (.slice none 0 0) (.slice none 0 0)).run Tryz.prog w = .ok (.bool false) w := run_neq_slice_nil w _ _ none _ _ Tryz.underlying33

set_option maxRecDepth 100000 in
set_option maxHeartbeats 4000000 in
theorem bases_walk (n : Int) (u v : Value) (cells cuts : List Int) (w : World) (hu : IntsAt w u cells) (hv : IntsAt w v cuts) :
    Calls Tryz.prog 4 #[.int .i64 n, u, v] w fun e w' => e = .returned (.bool true) ∧ Below w.heap.size w w' := by
  have HU := hide0 hu
  have HV := hide0 hv
  obtain ⟨a, c, rfl⟩ := hu.slice
  obtain ⟨b, d, rfl⟩ := hv.slice
  clear hu hv
  by_cases hs : cells.length ≤ 1073741824 ∧ cuts.length ≤ 1073741824
  · have HF : Hid (∀ w0, Calls Tryz.prog 10 #[.slice a cells.length c, .slice b cuts.length d] w0 fun e w' => e = .returned (.bool true) ∧ w0 = w') := fun w0 => by
      have := few_any a b cells.length cuts.length c d w0
      rwa [decide_eq_true (show ((cells.length : Nat) : Int) ≤ 1073741824 by omega), decide_eq_true (show ((cuts.length : Nat) : Int) ≤ 1073741824 by omega)] at this
    have HS := hide0 hs
    clear hs
    have HL := hide0 (laid_any _ _ cells cuts w HU.out HV.out HS.out.1 HS.out.2)
    generalize hm : cells.length = L at *
    generalize hn : cuts.length = N at *
    have HM := hide0 hm
    have HN := hide0 hn
    clear hm hn
    have hne := ne26n
    go_enter Tryz.func4, Tryz.ntmps4
    go_wp2_with fail
    refine (HF.out _).mono ?_
    rintro e w' ⟨rfl, hq'⟩; subst hq'
    go_wp2_with fail
    refine HL.out.mono ?_
    rintro e w1 ⟨⟨p, o, l, x, rfl, hT⟩, hb1⟩
    have HT := hide0 hT
    have HB1 := hide0 hb1
    have hs1 := hb1.size
    clear hT hb1 HL HF
    go_wp2_with fail
    refine (trows_any _ _ p o l x cells cuts HT.out (by rw [HN.out]; exact HS.out.2)).mono ?_
    rintro e w2 ⟨rfl, hb2⟩
    have HT2 := hide0 (HT.out.below hb2 HT.out.lts)
    have hlt := HT.out.lts
    have HB2 := hide0 (HB1.out.trans (hb2.mono hs1))
    have hs2 := hb2.size
    have HLT : Hid (p < w2.heap.size ∧ o < w2.heap.size ∧ l < w2.heap.size ∧ x < w2.heap.size) := ⟨by omega, by omega, by omega, by omega⟩
    clear hb2 HT hlt
    rw [HN.out]
    have hr := HT2.out.rowsAt
    rw [HN.out] at hr
    have HR := hide0 hr
    have hBA := basis_any n _ _ _ hr
    have HBA := hide0 hBA
    clear hr hBA
    go_wp2_with fail
    refine HBA.out.mono ?_
    rintro e w3 ⟨⟨T, cc, out, hg, rfl, hout⟩, hb3⟩
    have hs3 := hb3.size
    have HT3 := hide0 (HT2.out.below hb3 HT2.out.lts)
    have HB3 := hide0 (HB2.out.trans (hb3.mono (by omega)))
    have HG := hide0 hg
    have HO := hide0 hout
    have hRA := rbasis_any n _ _ _ (HR.out.below hb3)
    have HRA := hide0 hRA
    have HR3 := hide0 (HR.out.below hb3)
    clear hg hout hb3 hRA HR HBA
    go_wp2_with fail
    refine HRA.out.mono ?_
    rintro e w4 ⟨⟨T', cc', want, hg', rfl, hwant⟩, hb4⟩
    have hs4 := hb4.size
    have HT4 := hide0 (HT3.out.below hb4 HT3.out.lts)
    have HB4 := hide0 (HB3.out.trans (hb4.mono (by omega)))
    obtain ⟨hcc, hTT⟩ := gen_one HG.out hg'
    subst hcc
    have HSM : Hid (Calls Tryz.prog 15 #[out, want] w4 fun e w' => e = .returned (.bool true) ∧ Below w4.heap.size w4 w') := by
      rcases HO.out with ⟨h1, rfl⟩ | ⟨h1, _, vs, hO⟩
      · rcases hwant with ⟨_, rfl⟩ | ⟨h2, _⟩
        · exact rsame_refl _ _ [] w4 (Or.inl ⟨rfl, _, _, rfl⟩) (Or.inl ⟨rfl, _, _, rfl⟩) (by simp) (by simp)
        · exact absurd h2 h1
      · rcases hwant with ⟨h2, rfl⟩ | ⟨h2, hW⟩
        · exact absurd h1 h2
        · have hTe := hTT h1
          subst hTe
          have hg0 := HG.out
          rw [h1] at hg0
          have hw := gen_width hg0
          exact rsame_refl _ _ _ w4 ((hO.below hb4 (Nat.le_refl _)).rowsAt (by omega)) hW (basisRows_len _ _) (fun zs hz => by rw [basisRows_each (by omega) zs hz]; omega)
    have HOW : Hid ((cc ≠ 0 ∧ out = .slice none 0 0) ∨ (cc = 0 ∧ ∃ vs zss m, 0 < m ∧ RowsOwn w4 w2.heap.size out vs zss m)) := by
      rcases HO.out with h1 | ⟨h1, _, vs, hO⟩
      · exact Or.inl h1
      · have hg0 := HG.out
        rw [h1] at hg0
        have hw := gen_width hg0
        exact Or.inr ⟨h1, vs, _, _, by omega, hO.below hb4 (Nat.le_refl _)⟩
    have HR4 := hide0 (HR3.out.below hb4)
    clear hg' hwant hTT hb4 HO HRA HR3
    go_wp2_with fail
    refine HSM.out.mono ?_
    rintro e w5 ⟨rfl, hb5⟩
    have hs5 := hb5.size
    have HT5 := hide0 (HT4.out.below hb5 HT4.out.lts)
    have HB5 := hide0 (HB4.out.trans (hb5.mono (by omega)))
    have HR5 := hide0 (HR4.out.below hb5)
    have HOW5 : Hid (Calls Tryz.prog 16 #[out] w5 fun e w' => e = .returned (.bool true) ∧ Below w2.heap.size w5 w') := by
      rcases HOW.out with ⟨_, rfl⟩ | ⟨_, vs, zss, m, hm, hO⟩
      · exact (owned_nil w5).mono fun e w' ⟨h1, h2⟩ => ⟨h1, h2.mono (by omega)⟩
      · exact owned_any (hO.below hb5 (Nat.le_refl _)) hm (by omega)
    have hcs : (cc != 0) = false ∨ ((cc != 0) = true ∧ out = .slice none 0 0) := by
      rcases HOW.out with ⟨h1, h2⟩ | ⟨h1, _⟩
      · exact Or.inr ⟨by simpa using h1, h2⟩
      · exact Or.inl (by simpa using h1)
    have hccs : (cc != cc) = false := by simp
    clear hb5 HSM HOW
    rcases hcs with hcs | ⟨hcs, rfl⟩
    · go_wp2_with fail
      refine HOW5.out.mono ?_
      rintro e w6 ⟨rfl, hb6⟩
      have hs6 := hb6.size
      have HT6 := hide0 (HT5.out.below hb6 HLT.out)
      have HB6 := hide0 (HB5.out.trans (hb6.mono (by omega)))
      have hr6 := HT6.out.rowsAt
      rw [HN.out] at hr6
      have HR6 := hide0 hr6
      have HIA := hide0 (index_any n _ _ _ hr6)
      clear hb6 hr6 HOW5 HR5 HT5
      go_wp2_with fail
      refine HIA.out.mono ?_
      rintro e w7 ⟨hI7, hb7⟩
      have hs7 := hb7.size
      have HT7 := hide0 (HT6.out.below hb7 HT6.out.lts)
      have HB7 := hide0 (HB6.out.trans (hb7.mono (by omega)))
      have HRI := hide0 (rindex_any n _ _ _ (HR6.out.below hb7))
      have HI7 := hide0 hI7
      obtain ⟨TT, c7, _, he7⟩ := hI7
      subst he7
      generalize (if c7 = 0 then idxOf n TT else 0) = k7 at *
      clear hb7 HIA HT6
      go_wp2_with fail
      refine HRI.out.mono ?_
      rintro e w8 ⟨hI8, hb8⟩
      obtain ⟨kk, c8, e1, e2⟩ := idx_one HI7.out hI8
      injection e1 with e1; injection e1 with e1
      simp at e1
      obtain ⟨rfl, rfl⟩ := e1
      subst e2
      have hs8 := hb8.size
      have HT8 := hide0 (HT7.out.below hb8 HT7.out.lts)
      have HB8 := hide0 (HB7.out.trans (hb8.mono (by omega)))
      have HW := hide0 (whole_any w8 _ p o l x _ _ cells cuts HT8.out (HU.out.below HB8.out) (HV.out.below HB8.out) (by rw [HM.out]; exact HS.out.1) (by rw [HN.out]; exact HS.out.2))
      have hkk : (k7 == k7) = true := by simp
      have hc77 : (c7 == c7) = true := by simp
      clear hb8 hI8 HI7 HRI HT7
      go_wp2_with fail
      refine HW.out.mono ?_
      rintro e w9 ⟨rfl, hb9⟩
      have HB9 := hide0 (HB8.out.trans (hb9.mono (by omega)))
      clear hb9 HW
      go_wp2
      go_ret
      exact ⟨rfl, HB9.out⟩
    · go_wp2_with fail
      refine HOW5.out.mono ?_
      rintro e w6 ⟨rfl, hb6⟩
      have hs6 := hb6.size
      have HT6 := hide0 (HT5.out.below hb6 HLT.out)
      have HB6 := hide0 (HB5.out.trans (hb6.mono (by omega)))
      have hr6 := HT6.out.rowsAt
      rw [HN.out] at hr6
      have HR6 := hide0 hr6
      have HIA := hide0 (index_any n _ _ _ hr6)
      clear hb6 hr6 HOW5 HR5 HT5
      go_wp2_with fail
      refine HIA.out.mono ?_
      rintro e w7 ⟨hI7, hb7⟩
      have hs7 := hb7.size
      have HT7 := hide0 (HT6.out.below hb7 HT6.out.lts)
      have HB7 := hide0 (HB6.out.trans (hb7.mono (by omega)))
      have HRI := hide0 (rindex_any n _ _ _ (HR6.out.below hb7))
      have HI7 := hide0 hI7
      obtain ⟨TT, c7, _, he7⟩ := hI7
      subst he7
      generalize (if c7 = 0 then idxOf n TT else 0) = k7 at *
      clear hb7 HIA HT6
      go_wp2_with fail
      refine HRI.out.mono ?_
      rintro e w8 ⟨hI8, hb8⟩
      obtain ⟨kk, c8, e1, e2⟩ := idx_one HI7.out hI8
      injection e1 with e1; injection e1 with e1
      simp at e1
      obtain ⟨rfl, rfl⟩ := e1
      subst e2
      have hs8 := hb8.size
      have HT8 := hide0 (HT7.out.below hb8 HT7.out.lts)
      have HB8 := hide0 (HB7.out.trans (hb8.mono (by omega)))
      have HW := hide0 (whole_any w8 _ p o l x _ _ cells cuts HT8.out (HU.out.below HB8.out) (HV.out.below HB8.out) (by rw [HM.out]; exact HS.out.1) (by rw [HN.out]; exact HS.out.2))
      have hkk : (k7 == k7) = true := by simp
      have hc77 : (c7 == c7) = true := by simp
      clear hb8 hI8 HI7 HRI HT7
      go_wp2_with fail
      refine HW.out.mono ?_
      rintro e w9 ⟨rfl, hb9⟩
      have HB9 := hide0 (HB8.out.trans (hb9.mono (by omega)))
      clear hb9 HW
      go_wp2
      go_ret
      exact ⟨rfl, HB9.out⟩
  · have HF : Hid (∀ w0, Calls Tryz.prog 10 #[.slice a cells.length c, .slice b cuts.length d] w0 fun e w' => e = .returned (.bool false) ∧ w0 = w') := fun w0 => by
      have := few_any a b cells.length cuts.length c d w0
      have e : (decide (((cells.length : Nat) : Int) ≤ 1073741824) && decide (((cuts.length : Nat) : Int) ≤ 1073741824)) = false := by
        rw [Bool.and_eq_false_iff]
        by_cases h1 : cells.length ≤ 1073741824
        · right; simp; omega
        · left; simp; omega
      rwa [e] at this
    clear hs HU HV
    go_enter Tryz.func4, Tryz.ntmps4
    go_wp2_with fail
    refine (HF.out _).mono ?_
    rintro e w' ⟨rfl, hq'⟩; subst hq'
    go_wp2
    go_ret
    exact ⟨rfl, Below.refl _ _⟩

end Go.Proofs.YtmlcblnndihjoaaGreat
