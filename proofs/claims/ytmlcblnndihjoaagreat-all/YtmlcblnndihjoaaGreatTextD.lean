import Derived.Test.YtmlcblnndihjoaaGreatTextC
import Derived.Test.YtmlcblnndihjoaaGreatBasesW
set_option linter.unusedSimpArgs false
set_option linter.unusedVariables false
namespace Go.Proofs.YtmlcblnndihjoaaGreat
open Go.RowKit

/-- the text of a lattice -/
def txt (n : Int) (T : Lat.St) : ByteArray := strOfNums (textN n.toNat (basisRows n.toNat T))

/-- the answer of Encode -/
def EncEnd (n : Int) (zss : List (List Int)) (e : Ending) : Prop :=
  ∃ T c, Gen n zss T c ∧ e = .returned (.tuple #[.string (if c = 0 then txt n T else ⟨#[]⟩), .int .i64 c])

theorem gen_fits {n : Int} {zss : List (List Int)} {T : Lat.St} (h : Gen n zss T 0) : FitsS T ∧ 1 ≤ n ∧ n ≤ 3 := by
  refine ⟨?_, gen_width h⟩
  rcases h with ⟨_, h⟩ | ⟨h0, T', _, ⟨h, _⟩ | ⟨_, rfl, hf⟩⟩
  · exact absurd rfl h
  · exact absurd h (by decide)
  · exact hf

theorem enc_end0 {n : Int} {zss : List (List Int)} {T : Lat.St} {s : ByteArray} (h : Gen n zss T 0) (hs : s = txt n T) : EncEnd n zss (.returned (.tuple #[.string s, .int .i64 0])) := ⟨T, 0, h, by rw [hs]; rfl⟩
theorem enc_endc {n : Int} {zss : List (List Int)} {T : Lat.St} {c : Int} (h : Gen n zss T c) (hc : ¬ c = 0) : EncEnd n zss (.returned (.tuple #[.string ⟨#[]⟩, .int .i64 c])) := ⟨T, c, h, by rw [if_neg hc]⟩

theorem enc_one {n : Int} {zss : List (List Int)} {e e' : Ending} (h : EncEnd n zss e) (h' : EncEnd n zss e') : ∃ s c, e = .returned (.tuple #[.string s, .int .i64 c]) ∧ e' = .returned (.tuple #[.string s, .int .i64 c]) := by
  obtain ⟨T, c, hg, rfl⟩ := h
  obtain ⟨T', c', hg', rfl⟩ := h'
  obtain ⟨rfl, ht⟩ := gen_one hg hg'
  refine ⟨_, _, rfl, ?_⟩
  by_cases hc : c = 0
  · rw [ht hc]
  · simp [hc]

set_option maxHeartbeats 1000000 in
theorem encode_any (n : Int) (v : Value) (zss : List (List Int)) (w : World) (hv : RowsAt w v zss) :
    Calls Tryz.prog 25 #[.int .i64 n, v] w fun e w' => EncEnd n zss e ∧ Below w.heap.size w w' := by
  go_enter Tryz.func25, Tryz.ntmps25
  go_wp2_with fail
  refine (generated_any n v zss _ hv).mono ?_
  rintro e w1 ⟨T, c, hg, rfl, hb1⟩
  have HG : Hid (Gen n zss T c) := hg
  have hs1 := hb1.size
  by_cases hc : c = 0
  · subst hc
    obtain ⟨hf, hn1, hn3⟩ := gen_fits hg
    have HI : Hid (∀ w0, Calls Tryz.prog 49 #[.int .i64 n, .agg #[.int .i64 T.a.x, .int .i64 T.a.y, .int .i64 T.a.z, .int .i64 T.b.x, .int .i64 T.b.y, .int .i64 T.b.z, .int .i64 T.c.x, .int .i64 T.c.y, .int .i64 T.c.z]] w0 fun e w' => e = .returned (.string (txt n T)) ∧ Below w0.heap.size w0 w') := fun w0 => by
      have := textOf_any T n.toNat w0 (by omega) (by omega) hf
      rw [Int.toNat_of_nonneg (by omega)] at this
      exact this
    clear hg hf hn1 hn3
    go_wp2_with fail
    refine (HI.out _).mono ?_
    rintro e w2 ⟨rfl, hb2⟩
    go_wp2
    go_ret2
    exact ⟨enc_end0 HG.out rfl, (hb1.alloc hb1.size _).trans (hb2.mono (by simp; omega))⟩
  · have hn : (c != 0) = true := by simpa using hc
    have HN : Hid (¬ c = 0) := hc
    clear hg hc
    go_wp2
    go_ret2
    exact ⟨enc_endc HG.out HN.out, hb1.alloc hb1.size _⟩

set_option maxHeartbeats 1000000 in
theorem rencode_any (n : Int) (v : Value) (zss : List (List Int)) (w : World) (hv : RowsAt w v zss) :
    Calls Tryz.prog 26 #[.int .i64 n, v] w fun e w' => EncEnd n zss e ∧ Below w.heap.size w w' := by
  go_enter Tryz.func26, Tryz.ntmps26
  go_wp2_with fail
  refine (rbasis_any n v zss _ hv).mono ?_
  rintro e w1 ⟨⟨T, c, out, hg, rfl, hor⟩, hb1⟩
  have HG : Hid (Gen n zss T c) := hg
  have hs1 := hb1.size
  rcases hor with ⟨hc, rfl⟩ | ⟨rfl, hr⟩
  · have hn : (c != 0) = true := by simpa using hc
    have HN : Hid (¬ c = 0) := hc
    clear hg hc
    go_wp2
    go_ret2
    exact ⟨enc_endc HG.out HN.out, hb1⟩
  · obtain ⟨hf, hn1, hn3⟩ := gen_fits hg
    have HI : Hid (Calls Tryz.prog 50 #[.int .i64 n, out] w1 fun e w' => e = .returned (.string (txt n T)) ∧ Below w1.heap.size w1 w') := by
      have := rtext_any n.toNat out _ w1 hr (Fine.of (by omega) (by omega) hf)
      rw [Int.toNat_of_nonneg (by omega)] at this
      exact this
    clear hg hf hn1 hn3 hr
    go_wp2_with fail
    refine HI.out.mono ?_
    rintro e w2 ⟨rfl, hb2⟩
    go_wp2
    go_ret2
    exact ⟨enc_end0 HG.out rfl, hb1.trans (hb2.mono (by omega))⟩

theorem eqlStr (s : ByteArray) : (s.toList == s.toList) = true := by simp

set_option maxRecDepth 100000 in
set_option maxHeartbeats 4000000 in
theorem texts_walk (n : Int) (u v : Value) (cells cuts : List Int) (w : World) (hu : IntsAt w u cells) (hv : IntsAt w v cuts) :
    Calls Tryz.prog 7 #[.int .i64 n, u, v] w fun e w' => e = .returned (.bool true) ∧ Below w.heap.size w w' := by
  have HU := hide0 hu
  have HV := hide0 hv
  obtain ⟨a, c, rfl⟩ := hu.slice
  obtain ⟨b, d, rfl⟩ := hv.slice
  clear hu hv
  by_cases hs : cells.length ≤ 1073741824 ∧ cuts.length ≤ 1073741824
  · have HF : Hid (∀ w0, Calls Tryz.prog 10 #[.slice a cells.length c, .slice b cuts.length d] w0 fun e w' => e = .returned (.bool true) ∧ w0 = w') := fun w0 => by
      have := few_any a b cells.length cuts.length c d w0
      rwa [decide_eq_true (show ((cells.length : Nat) : Int) ≤ 1073741824 by omega), decide_eq_true (show ((cuts.length : Nat) : Int) ≤ 1073741824 by omega)] at this
    have HS := hide0 hs
    clear hs
    have HL := hide0 (laid_any _ _ cells cuts w HU.out HV.out HS.out.1 HS.out.2)
    generalize hm : cells.length = L at *
    generalize hn : cuts.length = N at *
    have HM := hide0 hm
    have HN := hide0 hn
    clear hm hn
    go_enter Tryz.func7, Tryz.ntmps7
    go_wp2_with fail
    refine (HF.out _).mono ?_
    rintro e w' ⟨rfl, hq'⟩; subst hq'
    go_wp2_with fail
    refine HL.out.mono ?_
    rintro e w1 ⟨⟨p, o, l, x, rfl, hT⟩, hb1⟩
    have HT := hide0 hT
    have HB1 := hide0 hb1
    have hs1 := hb1.size
    clear hT hb1 HL HF
    go_wp2_with fail
    refine (trows_any _ _ p o l x cells cuts HT.out (by rw [HN.out]; exact HS.out.2)).mono ?_
    rintro e w2 ⟨rfl, hb2⟩
    have HT2 := hide0 (HT.out.below hb2 HT.out.lts)
    have HB2 := hide0 (HB1.out.trans (hb2.mono hs1))
    have hs2 := hb2.size
    clear hb2 HT
    rw [HN.out]
    have hr := HT2.out.rowsAt
    rw [HN.out] at hr
    have HR := hide0 hr
    have HEA := hide0 (encode_any n _ _ _ hr)
    clear hr
    go_wp2_with fail
    refine HEA.out.mono ?_
    rintro e w3 ⟨hE3, hb3⟩
    have hs3 := hb3.size
    have HT3 := hide0 (HT2.out.below hb3 HT2.out.lts)
    have HB3 := hide0 (HB2.out.trans (hb3.mono (by omega)))
    have HRA := hide0 (rencode_any n _ _ _ (HR.out.below hb3))
    have HE3 := hide0 hE3
    obtain ⟨TT, c3, _, he3⟩ := hE3
    subst he3
    generalize (if c3 = 0 then txt n TT else ⟨#[]⟩) = s3 at *
    clear hb3 HR HEA HT2
    go_wp2_with fail
    refine HRA.out.mono ?_
    rintro e w4 ⟨hE4, hb4⟩
    obtain ⟨s4, c4, e1, e2⟩ := enc_one HE3.out hE4
    injection e1 with e1; injection e1 with e1
    simp at e1
    obtain ⟨rfl, rfl⟩ := e1
    subst e2
    have hs4 := hb4.size
    have HT4 := hide0 (HT3.out.below hb4 HT3.out.lts)
    have HB4 := hide0 (HB3.out.trans (hb4.mono (by omega)))
    have HW := hide0 (whole_any w4 _ p o l x _ _ cells cuts HT4.out (HU.out.below HB4.out) (HV.out.below HB4.out) (by rw [HM.out]; exact HS.out.1) (by rw [HN.out]; exact HS.out.2))
    have hss := eqlStr s3
    have hcc : (c3 == c3) = true := by simp
    clear hb4 hE4 HE3 HRA HT3
    go_wp2_with fail
    refine HW.out.mono ?_
    rintro e w5 ⟨rfl, hb5⟩
    have HB5 := hide0 (HB4.out.trans (hb5.mono (by omega)))
    clear hb5 HW
    go_wp2
    go_ret
    exact ⟨rfl, HB5.out⟩
  · have HF : Hid (∀ w0, Calls Tryz.prog 10 #[.slice a cells.length c, .slice b cuts.length d] w0 fun e w' => e = .returned (.bool false) ∧ w0 = w') := fun w0 => by
      have := few_any a b cells.length cuts.length c d w0
      have e : (decide (((cells.length : Nat) : Int) ≤ 1073741824) && decide (((cuts.length : Nat) : Int) ≤ 1073741824)) = false := by
        rw [Bool.and_eq_false_iff]
        by_cases h1 : cells.length ≤ 1073741824
        · right; simp; omega
        · left; simp; omega
      rwa [e] at this
    clear hs HU HV
    go_enter Tryz.func7, Tryz.ntmps7
    go_wp2_with fail
    refine (HF.out _).mono ?_
    rintro e w' ⟨rfl, hq'⟩; subst hq'
    go_wp2
    go_ret
    exact ⟨rfl, Below.refl _ _⟩

end Go.Proofs.YtmlcblnndihjoaaGreat
