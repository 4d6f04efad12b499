import Derived.Test.YtmlcblnndihjoaaGreatReadE
set_option linter.unusedSimpArgs false
set_option linter.unusedVariables false
namespace Go.Proofs.YtmlcblnndihjoaaGreat
open Go.RowKit

set_option maxRecDepth 100000 in
set_option maxHeartbeats 4000000 in
theorem reads_walk (s : ByteArray) (w : World) :
    Calls Tryz.prog 8 #[.string s] w fun e w' => e = .returned (.bool true) ∧ Below w.heap.size w w' := by
  have HD := hide0 (fun w0 => decode_any s w0)
  have HR := hide0 (fun w0 => rdecode_any s w0)
  have hne := ne26n
  go_enter Tryz.func8, Tryz.ntmps8
  go_wp2_with fail
  refine (HD.out _).mono ?_
  rintro e w1 ⟨hE, hb1⟩
  have HB1 := hide0 hb1
  have hs1 := hb1.size
  rcases hE with ⟨n, T, out, vs, hd, rfl, hO⟩ | ⟨hd, rfl⟩
  · have HDK := hide0 hd
    have HO := hide0 hO
    clear hd hO hb1
    go_wp2_with fail
    refine (HR.out _).mono ?_
    rintro e w2 ⟨hE2, hb2⟩
    have hs2 := hb2.size
    have HB2 := hide0 (HB1.out.trans (hb2.mono hs1))
    rcases hE2 with ⟨n', T', want, hd', rfl, hW⟩ | ⟨hd', _⟩
    · obtain ⟨rfl, rfl⟩ := HDK.out.one hd'
      have hn1 := HDK.out.n1
      have hn3 := HDK.out.n3
      have hO2 := HO.out.below hb2 (Nat.le_refl _)
      have HO2 := hide0 hO2
      have HSM := hide0 (rsame_refl _ _ _ w2 (hO2.rowsAt hn1) hW (basisRows_len _ _) (fun zs hz => by rw [basisRows_each hn3 zs hz]; omega))
      have hnn : ((n : Int) != (n : Int)) = false := by simp
      clear hd' hW hO2 hb2 HO
      go_wp2_with fail
      refine HSM.out.mono ?_
      rintro e w3 ⟨rfl, hb3⟩
      have HB3 := hide0 (HB2.out.trans (hb3.mono (by omega)))
      have HOW := hide0 (owned_any (HO2.out.below hb3 (Nat.le_refl _)) hn1 (by have := hb3.size; omega))
      clear hb3
      go_wp2_with fail
      refine HOW.out.mono ?_
      rintro e w4 ⟨rfl, hb4⟩
      have HB4 := hide0 (HB3.out.trans hb4)
      clear hb4
      go_wp2
      go_ret
      exact ⟨rfl, HB4.out⟩
    · exact absurd HDK.out (hd' _ _)
  · have HDK := hide0 hd
    clear hd hb1
    go_wp2_with fail
    refine (HR.out _).mono ?_
    rintro e w2 ⟨hE2, hb2⟩
    have hs2 := hb2.size
    have HB2 := hide0 (HB1.out.trans (hb2.mono hs1))
    rcases hE2 with ⟨n', T', want, hd', rfl, hW⟩ | ⟨hd', rfl⟩
    · exact absurd hd' (HDK.out _ _)
    · have HSM := hide0 (rsame_refl (.slice none 0 0) (.slice none 0 0) [] w2 (Or.inl ⟨rfl, _, _, rfl⟩) (Or.inl ⟨rfl, _, _, rfl⟩) (by simp) (by simp))
      clear hd' hb2
      go_wp2_with fail
      refine HSM.out.mono ?_
      rintro e w3 ⟨rfl, hb3⟩
      have hs3 := hb3.size
      have HB3 := hide0 (HB2.out.trans (hb3.mono (by omega)))
      have HOW := hide0 (owned_nil w3)
      clear hb3
      go_wp2_with fail
      refine HOW.out.mono ?_
      rintro e w4 ⟨rfl, hb4⟩
      have HB4 := hide0 (HB3.out.trans (hb4.mono (by omega)))
      clear hb4
      go_wp2
      go_ret
      exact ⟨rfl, HB4.out⟩

end Go.Proofs.YtmlcblnndihjoaaGreat
