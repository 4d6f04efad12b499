import Derived.Test.YtmlcblnndihjoabLasA
set_option linter.unusedSimpArgs false
set_option linter.unusedVariables false
namespace Go.Proofs.Ytmlcblnndihjoab
open Go.RowKit

theorem txt_inj {m : Nat} {T R : Lat.St} (hT : NodeOK m T) (hR : NodeOK m R) (h : txt m T = txt m R) : T = R := by
  have d := hT.dec
  rw [h] at d
  exact (d.one hR.dec).2

/-- what each first part of a call's writes shows -/
theorem stroke_at {m : Nat} {T R : Lat.St} {f f' : Bool} {ws : List (Nat × ByteArray)} {ss : List ByteArray} (hst : StepT m T R f f' ws) (hO : Opens m ss T f) (okT : NodeOK m T) (okR : NodeOK m R) (k : Nat) (hk : k ≤ ws.length) :
    ∃ U g, Opens m (putAll (ws.take k) ss) U g ∧ NodeOK m U ∧ (k < ws.length → U = T ∧ g = f) ∧ (k = ws.length → U = R ∧ g = f') := by
  rcases hst with ⟨rfl, rfl, rfl⟩ | ⟨hne, rfl, rfl⟩
  · simp at hk
    subst hk
    exact ⟨R, f', hO, okR, fun _ => ⟨rfl, rfl⟩, fun _ => ⟨rfl, rfl⟩⟩
  · have hl : (saveF f (txt m R)).length = 4 := by simp [saveF]
    have hs : (txt m R).size ≤ 23 := by have := okR.dec.size21; omega
    rw [hl] at hk ⊢
    by_cases h : k < 4
    · exact ⟨T, f, hO.some_put hs h, okT, fun _ => ⟨rfl, rfl⟩, fun e => absurd e (by omega)⟩
    · have e : k = 4 := by omega
      subst e
      rw [List.take_of_length_le (by omega)]
      exact ⟨R, !f, hO.all_put hs okR.dec, okR, fun e => absurd e (by omega), fun _ => ⟨rfl, rfl⟩⟩

theorem step_len {m : Nat} {T R : Lat.St} {f f' : Bool} {ws : List (Nat × ByteArray)} (hst : StepT m T R f f' ws) : (0 < ws.length → T ≠ R) ∧ (ws.length = 0 → T = R) := by
  rcases hst with ⟨rfl, rfl, rfl⟩ | ⟨hne, rfl, rfl⟩
  · exact ⟨fun h => absurd h (by simp), fun _ => rfl⟩
  · have hl : (saveF f (txt m R)).length = 4 := by simp [saveF]
    exact ⟨fun _ e => hne e.symm, fun h => absurd h (by omega)⟩

set_option maxRecDepth 100000 in
set_option maxHeartbeats 16000000 in
theorem strokes_any (m : Nat) (h1 : 1 ≤ m) (h3 : m ≤ 3) (T R : Lat.St) (f f' : Bool) (ws : List (Nat × ByteArray)) (dv v : Value) (ss : List ByteArray) (w : World) (hd : StrsAt w dv ss) (hv : WritesAt w v ws) (h8 : ss.length = 8) (hl : ws.length ≤ 8) (hok : ∀ q ∈ ws, q.1 < 8 ∧ q.2.size = 8) (hst : StepT m T R f f' ws) (hO : Opens m ss T f) (okT : NodeOK m T) (okR : NodeOK m R) :
    Calls Try.prog 33 #[.int .i64 (m : Nat), dv, v, .string (txt m T), .string (txt m R)] w fun e w' => e = .returned (.bool true) ∧ Below w.heap.size w w' := by
  have HWR := hide0 (fun (k : Nat) w0 hd hv => kwritten_any dv v ss ws (k : Nat) w0 hd hv h8 hl hok)
  have HAT := hide0 (fun k hk => stroke_at hst hO okT okR k hk)
  have HLN := hide0 (step_len hst)
  have HOP := hide0 (fun dv ss U g w0 hd h8 ho => kopenT_any m h1 h3 dv ss U g w0 hd h8 ho)
  have HSH := hide0 (fun x T f w0 k hf => show_any x m T f w0 k h1 h3 hf)
  have HPL : Hid (∀ k, (putAll (ws.take k) ss).length = 8) := fun k => by rw [putAll_length]; exact h8
  have HTT : Hid (T ≠ R → txt m T ≠ txt m R) := fun h e => h (txt_inj okT okR e)
  have HTE : Hid (T = R → txt m T = txt m R) := fun e => by rw [e]
  have HD := hide0 hd
  have HV := hide0 hv
  obtain ⟨a, c, rfl⟩ := hv.slice
  obtain ⟨a', c', rfl⟩ := hd.slice
  generalize hn : ws.length = n at *
  generalize ss.length = sn at *
  clear hd hv hok hst hO okT okR hn h8
  have HTX : Hid (txt m T = txt m T) := rfl
  generalize hs : txt m T = s at *
  generalize ht : txt m R = t at *
  have HS := hide0 hs
  have HT := hide0 ht
  clear hs ht HTX
  go_enter Try.func33, Try.ntmps33
  go_wp2
  go_loopg [11, 12, 13, 14, 15, 16] (n + 1) (fun mm bh i u13 u14 u15 u16 wr => ∃ (k : Nat) (bb : Bool), bh = .bool bb ∧ i = .int .i64 (k : Nat) ∧ k + mm = n + 1 ∧ (k ≤ n → bb = false) ∧ Below w.heap.size w wr)
  case atStart => exact ⟨0, false, rfl, rfl, by omega, fun _ => rfl, Below.refl _ _⟩
  case round =>
    obtain ⟨k, bb, rfl, rfl, hk, hbb, hB⟩ := hrel
    have HB := hide0 hB
    have hsB := hB.size
    by_cases hlt : k ≤ n
    · have hle : (k : Int) ≤ (n : Int) := by omega
      have hdl : decide ((k : Int) ≤ (n : Int)) = true := decide_eq_true hle
      have hb0 := hbb hlt
      subst hb0
      obtain ⟨U, g, hOU, okU, hU1, hU2⟩ := HAT.out k hlt
      have HW1 := HWR.out k wr (HD.out.below hB) (HV.out.below hB)
      rw [Int.toNat_natCast] at HW1
      have HW1 := hide0 HW1
      have hp8 := HPL.out k
      generalize putAll (ws.take k) ss = sk at *
      have HOU := hide0 hOU
      have HOKU := hide0 okU
      have HU1 := hide0 hU1
      have HU2 := hide0 hU2
      clear hB hOU okU hU1 hU2 hbb
      go_wp2_with fail
      refine HW1.out.mono ?_
      rintro e w1 ⟨⟨gd, rfl, hgd, kgd⟩, hb1⟩
      have hS1 := strs_blk (cap := 8) kgd
      rw [hp8] at hS1 ⊢
      have HO1 := hide0 (HOP.out _ sk U g w1 hS1 hp8 HOU.out)
      have hs1 := hb1.size
      have HB1 := hide0 (HB.out.trans (hb1.mono hsB))
      have hsB1 := HB1.out.size
      clear hb1 kgd hS1 hp8
      go_wp2_with fail
      refine HO1.out.mono ?_
      rintro e w2 ⟨⟨p, x, gd2, rfl, kp, kx, _, hpB, hxB, _⟩, hb2⟩
      have HB2 := hide0 (HB1.out.trans (hb2.mono hsB1))
      have hsB2 := HB2.out.size
      obtain ⟨p0, p1, p2⟩ := peer_cells kp
      have HSH2 := hide0 (HSH.out x U g w2 kx HOKU.out.fits)
      have HTU : Hid ((k < n → txt m U = s) ∧ (k = n → txt m U = t)) := ⟨fun h => by rw [(HU1.out h).1]; exact HS.out, fun h => by rw [(HU2.out h).1]; exact HT.out⟩
      generalize txt m U = u at *
      clear hb2 kp kx
      go_wp2_with fail
      refine HSH2.out.mono ?_
      rintro e w3 ⟨rfl, hb3⟩
      have HB3 := hide0 (HB2.out.trans (hb3.mono hsB2))
      clear hb3 p0 p1 p2
      by_cases hkn : k < n
      · have hus := HTU.out.1 hkn
        have hst := HTT.out (HLN.out.1 (by omega))
        subst hus
        have e1 := eqlB u
        have e2 := neB hst
        have hkn' : ((k : Int) == (n : Int)) = false := by simp; omega
        clear hst
        by_cases hk0 : k = 0
        · subst hk0
          go_wp2
          go_roundg (gk - 1)
          case measure => omega
          case rel => exact ⟨1, false, rfl, by go_num, by omega, fun _ => rfl, HB3.out⟩
        · have hk0' : ((k : Int) == 0) = false := by simp; omega
          go_wp2
          go_roundg (gk - 1)
          case measure => omega
          case rel => exact ⟨k + 1, false, rfl, by go_num, by omega, fun _ => rfl, HB3.out⟩
      · have hke : k = n := by omega
        have hut := HTU.out.2 hke
        subst hut
        have e1 := eqlB u
        have hkn' : ((k : Int) == (n : Int)) = true := by simp; omega
        by_cases hn0 : n = 0
        · have hTR := HTE.out (HLN.out.2 hn0)
          subst hTR
          have hk0 : k = 0 := by omega
          subst hk0
          clear hke
          subst hn0
          go_wp2
          go_roundg (gk - 1)
          case measure => omega
          case rel => exact ⟨1, false, rfl, by go_num, by omega, fun _ => rfl, HB3.out⟩
        · have hst := HTT.out (HLN.out.1 (by omega))
          have E2 := hide0 (neB hst)
          have e3 := neB (fun e => hst e.symm)
          have hk0' : ((k : Int) == 0) = false := by simp; omega
          have HKE := hide0 hke
          clear hst hke hkn
          go_upto_region 14 with fail
          clear e3
          have e2 := E2.out
          go_wp2
          go_roundg (gk - 1)
          case measure => omega
          case rel => exact ⟨k + 1, true, rfl, by go_num, by omega, fun h => absurd h (by have := HKE.out; omega), HB3.out⟩
    · have hd : decide ((k : Int) ≤ (n : Int)) = false := by simp; omega
      clear hB hbb
      go_wp2
      go_ret
      exact ⟨rfl, HB.out⟩

end Go.Proofs.Ytmlcblnndihjoab
