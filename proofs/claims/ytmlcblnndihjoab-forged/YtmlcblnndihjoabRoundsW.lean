import Derived.Test.YtmlcblnndihjoabReadD
import Derived.Test.YtmlcblnndihjoabShapedW
set_option linter.unusedSimpArgs false
set_option linter.unusedVariables false
namespace Go.Proofs.Ytmlcblnndihjoab
open Go.RowKit

theorem rows_gen (n : Nat) (h1 : 1 ≤ n) (h3 : n ≤ 3) (k most : Int) (v : Value) (cells : List Int) (w : World) (hv : IntsAt w v cells) (hlen : cells.length ≤ maxLen) (k0 : 0 ≤ k) (k6 : k ≤ 6) (m0 : 0 ≤ most) (m1 : most ≤ 511) :
    Calls Try.prog 11 #[.int .i64 n, .int .i64 k, .int .i64 most, v] w fun e w' => RowsEnd w.heap.size n k most w' e ∧ Below w.heap.size w w' := by
  have : n = 1 ∨ n = 2 ∨ n = 3 := by omega
  rcases this with rfl | rfl | rfl
  · exact rows1 k most v cells w hv hlen k0 k6 m0 m1
  · exact rows2 k most v cells w hv hlen k0 k6 m0 m1
  · exact rows3 k most v cells w hv hlen k0 k6 m0 m1

theorem txt_dec {n : Nat} {zss : List (List Int)} {T : Lat.St} (h1 : 1 ≤ n) (h3 : n ≤ 3) (hl : ∀ zs ∈ zss, zs.length = n) (h : Gen (n : Int) zss T 0) : DecOK (txt n T) n T := by
  obtain ⟨hT, hF⟩ := gen_ok h
  exact ⟨h1, h3, hT.shape, flat_of hT hl, hF, rfl⟩

set_option maxRecDepth 100000 in
set_option maxHeartbeats 4000000 in
theorem rounds_walk (x : Int) (r n : Nat) (hn : n = r + 1) (hr : r < 3) (v : Value) (cells : List Int) (s : ByteArray) (w : World) (hv : IntsAt w v cells) (hlen : cells.length ≤ maxLen)
    (hx : ∀ w0, Calls Try.prog 10 #[.int .i64 x, .int .i64 3] w0 fun e w' => e = .returned (.int .i64 (r : Int)) ∧ w' = w0) :
    Calls Try.prog 3 #[.int .i64 x, v, .string s] w fun e w' => e = .returned (.bool true) ∧ Below w.heap.size w w' := by
  have hn1 : 1 ≤ n := by omega
  have hn3 : n ≤ 3 := by omega
  have hrn : (1 : Int) + (r : Int) = (n : Int) := by omega
  have HR := hide0 (rows_gen n hn1 hn3 6 511 v cells w hv hlen (by omega) (by omega) (by omega) (by omega))
  have HX := hide0 hx
  obtain ⟨a, cap, rfl⟩ := hv.slice
  clear hv hx hlen hn
  go_enter Try.func3, Try.ntmps3
  go_wp2_with fail
  refine (HX.out _).mono ?_
  rintro e w' ⟨rfl, hq'⟩; replace hq' := hq'.symm; subst hq'
  go_wp2_with fail
  refine HR.out.mono ?_
  rintro e w1 ⟨⟨out, bs, zss, rfl, hO, hk, hz⟩, hb1⟩
  have h6 : zss.length ≤ 6 := by omega
  have HG0 : Hid (givenE n zss = 0) := hO.given (by omega) (by omega) h6 hz
  have HRA : Hid (RowsAt w1 out zss) := hO.rowsAt (by omega)
  have HL3 : Hid (∀ zs ∈ zss, zs.length ≤ 3) := hO.len3 (by omega)
  have HLn : Hid (∀ zs ∈ zss, zs.length = n) := fun zs hm => by
    have := (good_le (given_good HG0.out hm)).2; omega
  have hs1 := hb1.size
  have HB1 := hide0 hb1
  clear hz HR HX hO hb1 hk
  have HBA := hide0 (basis_any n _ zss _ HRA.out)
  go_wp2_with fail
  refine HBA.out.mono ?_
  rintro e w2 ⟨⟨T, c, bo, hG, rfl, hbo⟩, hb2⟩
  have HG := hide0 hG
  have HBO := hide0 hbo
  have hs2 := hb2.size
  have HB2 := hide0 (HB1.out.trans (hb2.mono hs1))
  have HRA2 := hide0 (HRA.out.below hb2)
  have HEN := hide0 (encode_any n _ zss _ (HRA.out.below hb2))
  clear hG hbo hb2 HBA HRA
  go_wp2_with fail
  refine HEN.out.mono ?_
  rintro e w3 ⟨⟨T', c', hG', rfl⟩, hb3⟩
  obtain ⟨hcc, hTT⟩ := gen_one HG.out hG'
  subst hcc
  have hs3 := hb3.size
  have HB3 := hide0 (HB2.out.trans (hb3.mono (by omega)))
  have HRF := hide0 (refused_any _ zss c w3 (HRA2.out.below hb3) h6 HL3.out)
  have hnc : (c != c) = false := by simp
  by_cases hc : c = 0
  · subst hc
    have hT := hTT rfl
    subst hT
    have hD := txt_dec hn1 hn3 HLn.out HG.out
    have HD := hide0 hD
    rw [if_pos rfl]
    rcases HBO.out with ⟨h, _⟩ | ⟨_, hnn, vs, hOw⟩
    · exact absurd rfl h
    rw [Int.toNat_natCast] at hOw
    have HBO3 := hide0 (hOw.below hb3 (Nat.le_refl _))
    have HDE := hide0 (fun w0 => decode_any (txt n T) w0)
    clear hD hnn hOw hG' hTT hb3 HBO HEN
    generalize txt n T = tx at *
    go_wp2_with fail
    refine HRF.out.mono ?_
    rintro e w' ⟨rfl, hq'⟩; replace hq' := hq'.symm; subst hq'
    go_wp2_with fail
    refine (HDE.out _).mono ?_
    rintro e w4 ⟨hE4, hb4⟩
    have hs4 := hb4.size
    have HB4 := hide0 (HB3.out.trans (hb4.mono (by omega)))
    rcases hE4 with ⟨n', T4, out4, vs4, hd4, rfl, hO4⟩ | ⟨hd4, _⟩
    · obtain ⟨rfl, rfl⟩ := HD.out.one hd4
      have HSA := hide0 (same_refl bo out4 _ w4 ((HBO3.out.below hb4 (Nat.le_refl _)).rowsAt hn1) (hO4.rowsAt hn1) (by have := basis_len n T; omega) (basis_lens (by omega) (by omega)))
      have hnn : ((n : Int) != (n : Int)) = false := by simp
      clear hd4 hO4 hb4
      go_wp2_with fail
      refine HSA.out.mono ?_
      rintro e w5 ⟨rfl, hb5⟩
      have hs5 := hb5.size
      have HB5 := hide0 (HB4.out.trans (hb5.mono (by omega)))
      clear hb5
      have HDS := hide0 (fun w0 => decode_any s w0)
      go_wp2_with fail
      refine (HDS.out _).mono ?_
      rintro e w6 ⟨hE6, hb6⟩
      have hs6 := hb6.size
      have HB6 := hide0 (HB5.out.trans (hb6.mono (by omega)))
      rcases hE6 with ⟨m, U, c6, vs6, hd6, rfl, hO6⟩ | ⟨hd6, rfl⟩
      · have m1 := hd6.n1
        have m3 := hd6.n3
        have HD6 := hide0 hd6
        have HR6 := hide0 (hO6.rowsAt m1)
        obtain ⟨P, hP⟩ := basis_can (n := m) (by omega) (by omega) hd6.shape hd6.flat
        have HCA := hide0 (canonical_any m c6 (basisRows m U) P w6 HR6.out (by omega) (by omega) (basis_len _ _) hP)
        clear hd6 hO6 hb6 hP
        go_wp2_with fail
        refine HCA.out.mono ?_
        rintro e w7 ⟨rfl, hb7⟩
        have hs7 := hb7.size
        have HB7 := hide0 (HB6.out.trans (hb7.mono (by omega)))
        have HE7 := hide0 (encode_any m c6 _ w7 (HR6.out.below hb7))
        clear hb7 HCA
        go_wp2_with fail
        refine HE7.out.mono ?_
        rintro e w8 ⟨⟨U', c8, hG8, rfl⟩, hb8⟩
        obtain ⟨rfl, rfl⟩ := basis_again (n := m) (by omega) (by omega) HD6.out.shape HD6.out.flat HD6.out.fits hG8
        rw [if_pos rfl]
        have hst := HD6.out.str
        rw [← hst]
        have hee := eqlStr s
        have HB8 := hide0 (HB7.out.trans (hb8.mono (by omega)))
        clear hG8 hb8 hst
        go_wp2
        go_ret
        exact ⟨rfl, HB8.out⟩
      · clear hd6 hb6
        go_wp2
        go_ret
        exact ⟨rfl, HB6.out⟩
    · exact absurd HD.out (hd4 _ _)
  · have hcn : (c != 0) = true := by simpa using hc
    have hce : (c == 0) = false := by simpa using hc
    have hrf := gen_refused HG.out HG0.out hc
    rw [hrf] at HRF
    rw [if_neg hc]
    clear hc hrf hG' hTT hb3 HBO HEN
    go_wp2_with fail
    refine HRF.out.mono ?_
    rintro e w' ⟨rfl, hq'⟩; replace hq' := hq'.symm; subst hq'
    have HDS := hide0 (fun w0 => decode_any s w0)
    go_wp2_with fail
    refine (HDS.out _).mono ?_
    rintro e w6 ⟨hE6, hb6⟩
    have hs6 := hb6.size
    have HB6 := hide0 (HB3.out.trans (hb6.mono (by omega)))
    rcases hE6 with ⟨m, U, c6, vs6, hd6, rfl, hO6⟩ | ⟨hd6, rfl⟩
    · have m1 := hd6.n1
      have m3 := hd6.n3
      have HD6 := hide0 hd6
      have HR6 := hide0 (hO6.rowsAt m1)
      obtain ⟨P, hP⟩ := basis_can (n := m) (by omega) (by omega) hd6.shape hd6.flat
      have HCA := hide0 (canonical_any m c6 (basisRows m U) P w6 HR6.out (by omega) (by omega) (basis_len _ _) hP)
      clear hd6 hO6 hb6 hP
      go_wp2_with fail
      refine HCA.out.mono ?_
      rintro e w7 ⟨rfl, hb7⟩
      have hs7 := hb7.size
      have HB7 := hide0 (HB6.out.trans (hb7.mono (by omega)))
      have HE7 := hide0 (encode_any m c6 _ w7 (HR6.out.below hb7))
      clear hb7 HCA
      go_wp2_with fail
      refine HE7.out.mono ?_
      rintro e w8 ⟨⟨U', c8, hG8, rfl⟩, hb8⟩
      obtain ⟨rfl, rfl⟩ := basis_again (n := m) (by omega) (by omega) HD6.out.shape HD6.out.flat HD6.out.fits hG8
      rw [if_pos rfl]
      have hst := HD6.out.str
      rw [← hst]
      have hee := eqlStr s
      have HB8 := hide0 (HB7.out.trans (hb8.mono (by omega)))
      clear hG8 hb8 hst
      go_wp2
      go_ret
      exact ⟨rfl, HB8.out⟩
    · clear hd6 hb6
      go_wp2
      go_ret
      exact ⟨rfl, HB6.out⟩

end Go.Proofs.Ytmlcblnndihjoab
