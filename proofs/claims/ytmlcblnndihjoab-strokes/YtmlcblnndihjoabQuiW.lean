import Derived.Test.YtmlcblnndihjoabKepB
set_option linter.unusedSimpArgs false
set_option linter.unusedVariables false
namespace Go.Proofs.Ytmlcblnndihjoab
open Go.RowKit

/-- lattices that small vectors generate -/
def Gens4 (T : Lat.St) : Prop := ∃ G, (∀ g ∈ G, Lat.Le 4 g) ∧ Lat.CanonOf T G

theorem gens_fits {T : Lat.St} (h : Gens4 T) : FitsS T := by
  obtain ⟨G, hG, hT⟩ := h
  obtain ⟨a, b, c⟩ := hT.bound (by decide) hG
  exact ⟨a.mono (by decide), b.mono (by decide), c.mono (by decide)⟩

theorem gens_zero : Gens4 zeroS := ⟨[], by simp, Lat.CanonOf.nil⟩

theorem span_cons {G H : List Lat.V} (h : ∀ v, Lat.InSpan G v ↔ Lat.InSpan H v) (g v : Lat.V) : Lat.InSpan (g :: G) v ↔ Lat.InSpan (g :: H) v := by
  constructor
  · intro hv
    refine Lat.InSpan.sub_list (fun x hx => ?_) hv
    rw [List.mem_cons] at hx
    rcases hx with rfl | hx
    · exact Lat.InSpan.of_mem (by simp)
    · exact Lat.InSpan.more g ((h x).1 (Lat.InSpan.of_mem hx))
  · intro hv
    refine Lat.InSpan.sub_list (fun x hx => ?_) hv
    rw [List.mem_cons] at hx
    rcases hx with rfl | hx
    · exact Lat.InSpan.of_mem (by simp)
    · exact Lat.InSpan.more g ((h x).2 (Lat.InSpan.of_mem hx))

/-- a small vector is never refused, and the lattice grows -/
theorem add_small {m : Nat} {T R : Lat.St} {zs : List Int} {c : Int} (hok : NodeOK m T) (hg : Gens4 T) (hz : goodS m zs = true) (h : AddTo m T zs c R) : c = 0 ∧ Gens4 R ∧ SubL T R := by
  rcases h with ⟨a, _⟩ | ⟨_, S, hS, hor⟩
  · rw [hz] at a; cases a
  · obtain ⟨G, hG, hT⟩ := hg
    have hcan := hok.canon
    have hsp : ∀ v, Lat.InSpan (vecs (basisRows m T)) v ↔ Lat.InSpan G v := fun v => (hcan.span v).symm.trans (hT.span v)
    have hS' : Lat.CanonOf S (vecOf zs :: G) := ⟨hS.shape, fun v => (hS.span v).trans (span_cons hsp (vecOf zs) v)⟩
    have hgS : Gens4 S := ⟨vecOf zs :: G, fun g hg => by
      rw [List.mem_cons] at hg
      rcases hg with rfl | hg
      · exact (good4_le hz).1
      · exact hG g hg, hS'⟩
    rcases hor with ⟨_, rfl, rfl⟩ | ⟨hn, _⟩
    · exact ⟨rfl, hgS, fun v hv => (hS.span v).2 (Lat.InSpan.more _ ((hcan.span v).1 hv))⟩
    · exact absurd (gens_fits hgS) hn

theorem peer_cells {w : World} {p m x gd : Nat} (k : Blk w p (peerC m x gd) 53) : w.cell? ⟨p, 0, none⟩ = some (.int .i64 (m : Nat)) ∧ w.cell? ⟨p, 1, none⟩ = some (.pointer (some ⟨x, 0, none⟩)) ∧ w.cell? ⟨p, 2, none⟩ = some (.slice (some ⟨gd, 0, none⟩) 8 8) := ⟨k.cell 0, k.cell 1, k.cell 2⟩

theorem StructsG.slice {k : Nat} {w : World} {v : Value} {xs : List (List Int)} (h : StructsG k w v xs) : ∃ a cap, v = .slice a xs.length cap := by
  rcases h.2.2 with ⟨rfl, a, cap, rfl⟩ | ⟨_, b, o, cap, rfl, _⟩
  · exact ⟨a, cap, rfl⟩
  · exact ⟨_, cap, rfl⟩
theorem StructsG.cellAt {k : Nat} {w w' : World} {a : Option Addr} {n cap : Nat} {xs : List (List Int)} (h : StructsG k w (.slice a n cap) xs) (hb : Below w.heap.size w w') {i : Nat} (hi : i < xs.length) :
    ∃ b o, a = some ⟨b, o, none⟩ ∧ ∀ j, j < k → w'.cell? ⟨b, o + i * k + j, none⟩ = some (.int .i64 ((xs.getD i []).getD j 0)) := by
  rcases h.2.2 with ⟨rfl, _⟩ | ⟨_, b, o, c, e, hc⟩
  · simp at hi
  · cases e
    exact ⟨b, o, rfl, fun j hj => cell_below hb (hc i hi j hj)⟩

theorem idx_nonneg {m : Nat} {S : Lat.St} (s : Lat.Shape S) : 0 ≤ idxOf (m : Int) S := by
  unfold idxOf
  split
  · exact s.ax
  · split
    · exact Int.mul_nonneg s.ax s.by0
    · exact Int.mul_nonneg (Int.mul_nonneg s.ax s.by0) s.cz

theorem idx_le {m : Nat} {S : Lat.St} (s : Lat.Shape S) (hf : FitsS S) : idxOf (m : Int) S ≤ 200000000 := by
  have a := s.ax
  have b := s.by0
  have c := s.cz
  have a2 : S.a.x ≤ 511 := hf.1.1.2
  have b2 : S.b.y ≤ 511 := hf.2.1.2.1.2
  have c2 : S.c.z ≤ 511 := hf.2.2.2.2.2
  have ab : S.a.x * S.b.y ≤ 511 * 511 := Int.mul_le_mul a2 b2 b (by omega)
  have abc : S.a.x * S.b.y * S.c.z ≤ 511 * 511 * 511 := Int.mul_le_mul ab c2 c (by omega)
  unfold idxOf
  split
  · omega
  · split <;> omega

set_option maxRecDepth 100000 in
set_option maxHeartbeats 16000000 in
theorem quiet_walk (x0 : Int) (r m : Nat) (hm : m = r + 1) (hr : r < 3) (v : Value) (xs : List (List Int)) (w : World) (hv : StructsG 4 w v xs)
    (hx : ∀ w0, Calls Try.prog 10 #[.int .i64 x0, .int .i64 3] w0 fun e w' => e = .returned (.int .i64 (r : Int)) ∧ w' = w0) :
    Calls Try.prog 5 #[.int .i64 x0, v] w fun e w' => e = .returned (.bool true) ∧ Below w.heap.size w w' := by
  have h1 : 1 ≤ m := by omega
  have h3 : m ≤ 3 := by omega
  have hrm : (1 : Int) + (r : Int) = (m : Int) := by omega
  clear hm hr
  have HV := hide0 hv
  have HX := hide0 hx
  have HBL := hide0 (fun w0 => blank_any w0)
  have HOP := hide0 (fun g w0 (h : StrsAt w0 (.slice (some ⟨g, 0, none⟩) 8 8) (List.replicate 8 mark0)) => kopen_any m h1 h3 (.slice (some ⟨g, 0, none⟩) 8 8) w0 h)
  have HVE := hide0 (fun a b c w0 => kvector_any m h1 h3 a b c w0)
  obtain ⟨a, cap, rfl⟩ := hv.slice
  have hlm := hv.2.1
  unfold maxLen at hlm
  clear hv hx
  generalize hln : xs.length = ln at *
  have HLN := hide0 hln
  clear hln
  go_enter Try.func5, Try.ntmps5
  go_wp2_with fail
  refine (HX.out _).mono ?_
  rintro e w' ⟨rfl, hq'⟩; replace hq' := hq'.symm; subst hq'
  go_wp2_with fail
  refine (HBL.out _).mono ?_
  rintro e w2 ⟨⟨gd, rfl, hgd, kgd⟩, hb2⟩
  have hS2 := strs_blk (cap := 8) kgd
  have h8 : (List.replicate 8 mark0).length = 8 := by simp
  rw [h8] at hS2 ⊢
  have HO2 := hide0 (HOP.out gd w2 hS2)
  have hs2 := hb2.size
  have HB2 := hide0 hb2
  clear hb2 kgd hS2 h8
  go_wp2_with fail
  refine HO2.out.mono ?_
  rintro e w3 ⟨⟨p, x, gd2, rfl, kp, kx, hpB, hxB⟩, hb3⟩
  have hs3 := hb3.size
  have HB3 := hide0 (HB2.out.trans (hb3.mono hs2))
  have HKP := hide0 kp
  have HKX := hide0 kx
  clear hb3 kp kx
  by_cases hbig : ln > 1073741824
  · have hgt : decide ((ln : Int) > 1073741824) = true := decide_eq_true (by omega)
    go_wp2
    go_ret
    exact ⟨rfl, HB3.out⟩
  have hgt : decide ((ln : Int) > 1073741824) = false := decide_eq_false (by omega)
  go_wp2
  go_loopg [9, 10, 11, 12, 13, 14, 15, 16, 17, 18, 19] (ln) (fun mm i u10 u11 u12 u13 u14 u15 u16 u17 u18 u19 wr => ∃ (k : Nat) (T : Lat.St) (f : Bool), i = .int .i64 (k : Nat) ∧ k + mm = ln ∧ NodeOK m T ∧ Gens4 T ∧ Blk wr p (peerC m x gd2) 53 ∧ Blk wr x (nodeC m T f) 100 ∧ Below w.heap.size w wr)
  case atStart => exact ⟨0, zeroS, false, rfl, by omega, NodeOK.zero h1 h3, gens_zero, HKP.out, HKX.out, HB3.out⟩
  case round =>
    obtain ⟨k, T, f, rfl, hk, hok, hgen, kp, kx, hB⟩ := hrel
    have HB := hide0 hB
    have hsB := hB.size
    have HOK := hide0 hok
    have HGE := hide0 hgen
    have hpx : p ≠ x := blk_ne kp kx (by decide)
    by_cases hlt : k < ln
    · have hlt' : (k : Int) < (ln : Int) := by omega
      obtain ⟨b, o, rfl, hc⟩ := HV.out.cellAt hB (i := k) (by rw [HLN.out]; exact hlt)
      have d0 := hc 0 (by omega)
      have d1 := hc 1 (by omega)
      have d2 := hc 2 (by omega)
      have d3 := hc 3 (by omega)
      rw [Nat.add_zero] at d0
      generalize (xs.getD k []).getD 0 0 = A0 at *
      generalize (xs.getD k []).getD 1 0 = A1 at *
      generalize (xs.getD k []).getD 2 0 = A2 at *
      generalize (xs.getD k []).getD 3 0 = A3 at *
      have kpA := kp.alloc (.cells #[.int .i64 A0, .int .i64 A1, .int .i64 A2, .int .i64 A3] 49)
      have kxA := kx.alloc (.cells #[.int .i64 A0, .int .i64 A1, .int .i64 A2, .int .i64 A3] 49)
      have HBA := hide0 (HB.out.alloc hsB (.cells #[.int .i64 A0, .int .i64 A1, .int .i64 A2, .int .i64 A3] 49))
      have HKP := hide0 kpA
      have HKX := hide0 kxA
      clear hc hB kp kx kpA kxA hok hgen
      go_wp2_with fail
      refine (HVE.out _ _ _ _).mono ?_
      rintro e w5 ⟨⟨vb, rfl, hvv⟩, hb5⟩
      have hs5 := hb5.size
      simp at hs5
      have kp5 := HKP.out.below hb5 HKP.out.lt
      have kx5 := HKX.out.below hb5 HKX.out.lt
      have HB5 := hide0 (HBA.out.trans (hb5.mono (by simp; omega)))
      have HVV := hide0 hvv
      have HGS := hide0 (small_good m h3 A0 A1 A2)
      generalize small m A0 A1 A2 = zs at *
      obtain ⟨p0, p1, p2⟩ := peer_cells kp5
      have HSH := hide0 (show_any x m T f w5 kx5 h1 h3 HOK.out.fits)
      have HKP5 := hide0 kp5
      have HKX5 := hide0 kx5
      clear hb5 kp5 kx5 hvv d0 d1 d2 d3
      go_wp2_with fail
      refine HSH.out.mono ?_
      rintro e w6 ⟨rfl, hb6⟩
      have hs6 := hb6.size
      have HB6 := hide0 (HB5.out.trans (hb6.mono (by omega)))
      have kp6 := HKP5.out.below hb6 HKP5.out.lt
      have kx6 := HKX5.out.below hb6 HKX5.out.lt
      obtain ⟨p0', p1', p2'⟩ := peer_cells kp6
      have HAD := hide0 (add_any x m T f (.slice (some ⟨vb, 0, none⟩) m m) zs w6 kx6 HOK.out (HVV.out.below hb6))
      have HKP6 := hide0 kp6
      have hplt6 := kp6.lt
      clear hb6 kp6 kx6 p0 p1 p2
      go_wp2_with fail
      refine HAD.out.mono ?_
      rintro e w7 ⟨hE7, hK7⟩
      obtain ⟨l7, c7, R, f7, ws, rfl, hC7⟩ := call_out hE7 (fun c R h => h.ok HOK.out)
      obtain ⟨hc0, hgR, hsub⟩ := add_small HOK.out HGE.out HGS.out hC7.out
      subst hc0
      have hs7 := hK7.size
      have kp7 := hK7.blk HKP6.out (by simp; exact hpx)
      have HB7 := hide0 (HB6.out.trans (hK7.below (B := w.heap.size) (fun b hb => by simp at hb; omega) (by omega)))
      have HC7 := hide0 hC7
      have HGR := hide0 hgR
      have HSUB := hide0 hsub
      obtain ⟨p0, p1, p2⟩ := peer_cells kp7
      have HKP7 := hide0 kp7
      have HSH7 := hide0 (show_any x m R f7 w7 hC7.blk h1 h3 hC7.okR.fits)
      obtain ⟨la, lc, rfl⟩ := hC7.own.slice
      have HIFF := hide0 hC7.iff
      generalize hwl : ws.length = wl at *
      have HWL := hide0 hwl
      clear hE7 hK7 hC7 kp7 hgR hsub p0' p1' p2' hwl
      go_wp2_with fail
      refine HSH7.out.mono ?_
      rintro e w8 ⟨rfl, hb8⟩
      have hs8 := hb8.size
      have HB8 := hide0 (HB7.out.trans (hb8.mono (by omega)))
      have HKP8 := hide0 (HKP7.out.below hb8 HKP7.out.lt)
      have HKX8 := hide0 (HC7.out.blk.below hb8 HC7.out.blk.lt)
      have HIN := hide0 (fun w0 => inL_any HOK.out.dec HC7.out.okR.dec w0)
      have HI1 := hide0 (fun w0 => kindex_any m T HOK.out w0)
      have HI2 := hide0 (fun w0 => kindex_any m R HC7.out.okR w0)
      have HTX : Hid (txt m T = txt m R ↔ T = R) := ⟨fun e => by
        have d := HOK.out.dec
        rw [e] at d
        exact (d.one HC7.out.okR.dec).2, fun e => by rw [e]⟩
      have HEQ : Hid (T = R ↔ wl = 0) := ⟨fun e => by
        have h := HIFF.out.1 e.symm
        have h2 := HWL.out
        rw [h] at h2
        exact h2.symm, fun e => (HIFF.out.2 (List.length_eq_zero_iff.1 (by rw [HWL.out]; exact e))).symm⟩
      have HIDX : Hid (0 < idxOf m T → 0 < idxOf m R ∧ ∃ q : Int, 1 ≤ q ∧ idxOf m T = q * idxOf m R ∧ (q = 1 → T = R)) := fun hp => idx_drops h1 h3 HOK.out.shape HC7.out.okR.shape HOK.out.flat HC7.out.okR.flat HSUB.out hp
      have HNN : Hid (0 ≤ idxOf m T ∧ 0 ≤ idxOf m R ∧ idxOf m T ≤ 200000000 ∧ idxOf m R ≤ 200000000) := ⟨idx_nonneg HOK.out.shape, idx_nonneg HC7.out.okR.shape, idx_le HOK.out.shape HOK.out.fits, idx_le HC7.out.okR.shape HC7.out.okR.fits⟩
      generalize txt m T = tT at *
      generalize txt m R = tR at *
      clear hb8 p0 p1 p2
      have hc00 : ((0 : Int) != 0) = false := by simp
      by_cases hTR : T = R
      · have hw0 := HEQ.out.1 hTR
        have ht := HTX.out.2 hTR
        subst hw0
        have hee := eqlB tR
        subst ht
        have HTR := hide0 hTR
        clear hTR
        go_wp2_with fail
        refine (HIN.out _).mono ?_
        rintro e w9 ⟨⟨r9, rfl, hr9⟩, hb9⟩
        have hr9' := hr9.2 HSUB.out
        subst hr9'
        have hs9 := hb9.size
        have HB9 := hide0 (HB8.out.trans (hb9.mono (by omega)))
        have HKP9 := hide0 (HKP8.out.below hb9 HKP8.out.lt)
        have HKX9 := hide0 (HKX8.out.below hb9 HKX8.out.lt)
        clear hb9 hr9
        go_wp2_with fail
        refine (HI1.out _).mono ?_
        rintro e w10 ⟨rfl, hb10⟩
        have hs10 := hb10.size
        have HB10 := hide0 (HB9.out.trans (hb10.mono (by omega)))
        have HKP10 := hide0 (HKP9.out.below hb10 HKP9.out.lt)
        have HKX10 := hide0 (HKX9.out.below hb10 HKX9.out.lt)
        clear hb10
        go_wp2_with fail
        refine (HI2.out _).mono ?_
        rintro e w11 ⟨rfl, hb11⟩
        have HB11 := hide0 (HB10.out.trans (hb11.mono (by omega)))
        have HKP11 := hide0 (HKP10.out.below hb11 HKP10.out.lt)
        have HKX11 := hide0 (HKX10.out.below hb11 HKX10.out.lt)
        obtain ⟨n1, n2, n3, n4⟩ := HNN.out
        clear hb11
        generalize idxOf (m : Int) T = iT at *
        generalize idxOf (m : Int) R = iR at *
        have z1 : decide (iT < 0) = false := by simp; omega
        have z2 : decide (iR < 0) = false := by simp; omega
        go_wp2
        go_roundg (gk - 1)
        case measure => omega
        case rel => exact ⟨k + 1, R, f7, by go_num, by omega, HC7.out.okR, HGR.out, HKP11.out, HKX11.out, HB11.out⟩
      · have hw0 : wl ≠ 0 := fun e => hTR (HEQ.out.2 e)
        have ht : tT ≠ tR := fun e => hTR (HTX.out.1 e)
        have hw1 : ((wl : Int) == 0) = false := by simp; omega
        have hee := neB ht
        have HTR := hide0 hTR
        clear hTR hw0 ht
        go_wp2_with fail
        refine (HIN.out _).mono ?_
        rintro e w9 ⟨⟨r9, rfl, hr9⟩, hb9⟩
        have hr9' := hr9.2 HSUB.out
        subst hr9'
        have hs9 := hb9.size
        have HB9 := hide0 (HB8.out.trans (hb9.mono (by omega)))
        have HKP9 := hide0 (HKP8.out.below hb9 HKP8.out.lt)
        have HKX9 := hide0 (HKX8.out.below hb9 HKX8.out.lt)
        clear hb9 hr9
        go_wp2_with fail
        refine (HI1.out _).mono ?_
        rintro e w10 ⟨rfl, hb10⟩
        have hs10 := hb10.size
        have HB10 := hide0 (HB9.out.trans (hb10.mono (by omega)))
        have HKP10 := hide0 (HKP9.out.below hb10 HKP9.out.lt)
        have HKX10 := hide0 (HKX9.out.below hb10 HKX9.out.lt)
        clear hb10
        go_wp2_with fail
        refine (HI2.out _).mono ?_
        rintro e w11 ⟨rfl, hb11⟩
        have HB11 := hide0 (HB10.out.trans (hb11.mono (by omega)))
        have HKP11 := hide0 (HKP10.out.below hb11 HKP10.out.lt)
        have HKX11 := hide0 (HKX10.out.below hb11 HKX10.out.lt)
        obtain ⟨n1, n2, n3, n4⟩ := HNN.out
        have hid := HIDX.out
        clear hb11
        generalize idxOf (m : Int) T = iT at *
        generalize idxOf (m : Int) R = iR at *
        have z1 : decide (iT < 0) = false := by simp; omega
        have z2 : decide (iR < 0) = false := by simp; omega
        by_cases hpos : iT > 0
        · obtain ⟨hR0, q, hq1, hq, hq2⟩ := hid hpos
          have hq3 : 2 ≤ q := by
            rcases Int.lt_or_le q 2 with h | h
            · exact absurd (hq2 (by omega)) HTR.out
            · exact h
          have hle : 2 * iR ≤ iT := by rw [hq]; exact Int.mul_le_mul_of_nonneg_right hq3 (by omega)
          have hrem : iT.tmod iR = 0 := by rw [hq]; exact Int.mul_tmod_left q iR
          have z3 : (iR == 0) = false := by simp; omega
          have z4 : decide (2 * iR > iT) = false := decide_eq_false (by omega)
          have z5 : decide (iT > 0) = true := decide_eq_true hpos
          have z6 : iR ≠ 0 := by omega
          clear hid hq hq2 hpos
          go_wp2
          go_roundg (gk - 1)
          case measure => omega
          case rel => exact ⟨k + 1, R, f7, by go_num, by omega, HC7.out.okR, HGR.out, HKP11.out, HKX11.out, HB11.out⟩
        · have z5 : decide (iT > 0) = false := decide_eq_false hpos
          clear hid hpos
          go_wp2
          go_roundg (gk - 1)
          case measure => omega
          case rel => exact ⟨k + 1, R, f7, by go_num, by omega, HC7.out.okR, HGR.out, HKP11.out, HKX11.out, HB11.out⟩
    · have hd : decide ((k : Int) < (ln : Int)) = false := by simp; omega
      clear hB kp kx hok hgen
      go_wp2
      go_ret
      exact ⟨rfl, HB.out⟩

end Go.Proofs.Ytmlcblnndihjoab
