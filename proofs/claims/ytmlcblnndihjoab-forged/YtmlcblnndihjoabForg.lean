import Derived.Test.YtmlcblnndihjoabKepA
set_option linter.unusedSimpArgs false
set_option linter.unusedVariables false
namespace Go.Proofs.Ytmlcblnndihjoab
open Go.RowKit

/-- Decode of a text that is one: the width, some rows, no error -/
theorem decodeT_any (m : Nat) (T : Lat.St) (hok : NodeOK m T) (w : World) :
    Calls Try.prog 15 #[.string (txt m T)] w fun e w' => (∃ a l c, e = .returned (.tuple #[.int .i64 (m : Nat), .slice a l c, .int .i64 0])) ∧ Below w.heap.size w w' :=
  (decode_any (txt m T) w).mono fun e w' ⟨hE, hb⟩ => by
    refine ⟨?_, hb⟩
    rcases hE with ⟨n, T', out, vs, hd, he, hr⟩ | ⟨hN, _⟩
    · obtain ⟨rfl, rfl⟩ := hd.one hok.dec
      obtain ⟨a, c, hv⟩ := (hr.rowsAt (by have := hok.n1; omega)).slice
      exact ⟨a, _, c, by rw [he, hv]⟩
    · exact absurd hok.dec (hN _ _)

theorem calls_same {Out : Int → Lat.St → Prop} {m : Nat} {T R : Lat.St} {f f' : Bool} {q B : Nat} {w' : World} {l : Value} {c : Int} {ws : List (Nat × ByteArray)} (h : CallOut Out m T R f f' q B w' l c ws) (hc : c ≠ 0) : R = T ∧ l = .slice none 0 0 := by
  have hl := h.nil.resolve_left hc
  refine ⟨?_, hl⟩
  rcases h.step with ⟨_, b, _⟩ | ⟨_, b, _⟩
  · exact b
  · exfalso
    have := h.own.1
    rcases h.own.2 with ⟨_, q⟩ | ⟨g, cap, cur, q, _⟩
    · rw [b] at q; cases q
    · rw [hl] at q; cases q

set_option maxRecDepth 100000 in
set_option maxHeartbeats 16000000 in
theorem forged_walk (n : Int) (dv vv : Value) (ss : List ByteArray) (s : ByteArray) (zs : List Int) (w : World) (hd : StrsAt w dv ss) (hv : IntsAt w vv zs) (hdl : ss.length ≤ maxLen) :
    Calls Try.prog 9 #[.int .i64 n, dv, .string s, vv] w fun e w' => e = .returned (.bool true) ∧ Below w.heap.size w w' := by
  have HOP := hide0 (open_any n dv ss w hd)
  have HBL := hide0 (fun w0 => blank_any w0)
  have HD := hide0 hd
  have HV := hide0 hv
  obtain ⟨da, dc, rfl⟩ := hd.slice
  obtain ⟨va, vc, rfl⟩ := hv.slice
  clear hd hv
  generalize hdn : ss.length = dn at *
  have HDN := hide0 hdn
  clear hdn
  have hdl' : dn ≤ 9223372036854775807 := by unfold maxLen at hdl; omega
  generalize zs.length = zn at *
  go_enter Try.func9, Try.ntmps9
  go_wp2_with fail
  refine HOP.out.mono ?_
  rintro e w1 ⟨hE, hb1⟩
  have HB1 := hide0 hb1
  have hs1 := hb1.size
  have hnl := nilWk
  rcases hE with ⟨hn, rfl⟩ | ⟨m, rfl, h1, h3, hE⟩
  · clear hb1
    by_cases hn1 : n < 1
    · go_wp2
      go_ret
      exact ⟨rfl, HB1.out⟩
    · have hn3 : n > 3 := by omega
      clear hn
      go_wp2
      go_ret
      exact ⟨rfl, HB1.out⟩
  · have hm1 : decide ((m : Int) < 1) = false := by simp; omega
    have hm3 : decide ((m : Int) > 3) = false := by simp; omega
    have HOB := hide0 (fun w0 g (h : StrsAt w0 (.slice (some ⟨g, 0, none⟩) 8 8) (List.replicate 8 mark0)) => open_any (m : Int) (.slice (some ⟨g, 0, none⟩) 8 8) (List.replicate 8 mark0) w0 h)
    have HE := hide0 hE
    -- what the first Open handed back
    obtain ⟨xp, ec, hx⟩ : ∃ (xp : Value) (ec : Int), e = .returned (.tuple #[xp, .slice none 0 0, .int .i64 ec]) ∧ ((∃ T f x, Opens m ss T f ∧ xp = .pointer (some ⟨x, 0, none⟩) ∧ ec = 0 ∧ Blk w1 x (nodeC m T f) 100 ∧ w.heap.size ≤ x) ∨ ((∀ T f, ¬ Opens m ss T f) ∧ xp = .pointer none ∧ ec = 5)) := by
      rcases hE with ⟨T, f, x, ho, he, kx, hx⟩ | ⟨hN, he⟩
      · exact ⟨_, _, he, Or.inl ⟨T, f, x, ho, rfl, rfl, kx, hx⟩⟩
      · exact ⟨_, _, he, Or.inr ⟨hN, rfl, rfl⟩⟩
    obtain ⟨rfl, hx⟩ := hx
    have HX := hide0 hx
    clear hE hb1 hx HE
    go_wp2_with fail
    refine (HBL.out _).mono ?_
    rintro e w2 ⟨⟨gd, rfl, hgd, kgd⟩, hb2⟩
    have hS2 := strs_blk (cap := 8) kgd
    have h8 : (List.replicate 8 mark0).length = 8 := by simp
    rw [h8] at hS2 ⊢
    have HO2 := hide0 (HOB.out w2 gd hS2)
    have hs2 := hb2.size
    have HB2 := hide0 (HB1.out.trans (hb2.mono hs1))
    have HB12 := hide0 hb2
    clear hb2 kgd hS2 h8
    go_wp2_with fail
    refine HO2.out.mono ?_
    rintro e w3 ⟨hE3, hb3⟩
    obtain ⟨y, he⟩ : ∃ y, e = .returned (.tuple #[.pointer (some ⟨y, 0, none⟩), .slice none 0 0, .int .i64 0]) := by
      rcases hE3 with ⟨hn, _⟩ | ⟨m', hm, _, _, ⟨T', f', x, _, he, _⟩ | ⟨hN, _⟩⟩
      · exact absurd ⟨by omega, by omega⟩ hn
      · exact ⟨x, he⟩
      · have : m' = m := by omega
        subst this
        exact absurd (blank_opens m') (hN _ _)
    subst he
    have hs3 := hb3.size
    have HB3 := hide0 (HB2.out.trans (hb3.mono (by omega)))
    have HB13 := hide0 (HB12.out.trans (hb3.mono hs2))
    clear hb3 hE3
    have HDL : Hid (DiskLike ss → ((dn : Int) == 8) = true) := fun h => by have := h.1; have := HDN.out; simp; omega
    generalize hd0 : ((dn : Int) == 8) = dd0 at *
    go_upto_block 0 with fail
    go_cut [16, 17] (fun u16 u17 wx => ∃ (d : Bool), u16 = .bool d ∧ (DiskLike ss → d = true) ∧ Below w3.heap.size w3 wx)
    case first =>
      have H0 := hide0 hd0
      clear hd0
      go_wp2
      go_loopg [16, 17] (dn) (fun mm u16 i wr => ∃ (k : Nat) (d : Bool), i = .int .i64 (k : Nat) ∧ u16 = .bool d ∧ k + mm = dn ∧ (DiskLike ss → d = true) ∧ Below w3.heap.size w3 wr)
      case atStart => exact ⟨0, dd0, rfl, rfl, by omega, HDL.out, Below.refl _ _⟩
      case round =>
        obtain ⟨k, d, rfl, rfl, hk, hdd, hB⟩ := hrel
        have HB := hide0 hB
        have HDD := hide0 hdd
        clear hdd
        by_cases hlt : k < dn
        · have hlt' : (k : Int) < (dn : Int) := by omega
          cases d
          · clear hB
            go_wp2
            go_meet
            exact ⟨false, rfl, HDD.out, HB.out⟩
          · obtain ⟨b, o, rfl, hc⟩ := (HD.out.below (HB3.out.trans (hB.mono (by omega)))).cellAt (i := k) (by rw [HDN.out]; exact hlt)
            have HSZ : Hid (DiskLike ss → ((((ss.getD k ⟨#[]⟩).size : Nat) : Int) == 8) = true) := fun h => by
              have := h.2 _ (at8_mem (ss := ss) (i := k) (by rw [HDN.out]; exact hlt))
              unfold at8 at this
              rw [this]; rfl
            generalize ss.getD k ⟨#[]⟩ = z at *
            clear hB
            go_wp2
            go_roundg (gk - 1)
            case measure => omega
            case rel => exact ⟨k + 1, _, by go_num, rfl, by omega, HSZ.out, HB.out⟩
        · have hdk : decide ((k : Int) < (dn : Int)) = false := by simp; omega
          clear hB
          go_wp2
          go_meet
          exact ⟨d, rfl, HDD.out, HB.out⟩
    case rest =>
    rename World => w4
    obtain ⟨d, rfl, hdd, hb4⟩ := hcut
    have hs4 := hb4.size
    have HB4 := hide0 (HB3.out.trans (hb4.mono (by omega)))
    have HB14 := hide0 (HB13.out.trans (hb4.mono (by omega)))
    rcases HX.out with ⟨T, f, x, ho, rfl, rfl, kx, hxB⟩ | ⟨hN, rfl, rfl⟩
    · have hde := hdd ho.like
      subst hde
      have hTO : NodeOK m T := by
        obtain ⟨t, _, ⟨_, rfl⟩ | hdec⟩ := ho
        · exact NodeOK.zero h1 h3
        · exact NodeOK.of hdec
      have HTO := hide0 hTO
      have kx4 := kx.below HB14.out kx.lt
      have hxl := kx4.lt
      have HSH := hide0 (show_any x m T f w4 kx4 h1 h3 hTO.fits)
      have HKX4 := hide0 kx4
      have HDE := hide0 (fun T0 (hok : NodeOK m T0) w0 => decodeT_any m T0 hok w0)
      clear hdd hb4 ho hTO kx kx4 hd0
      go_wp2_with fail
      refine HSH.out.mono ?_
      rintro e w5 ⟨rfl, hb5⟩
      have hs5 := hb5.size
      have HB5 := hide0 (HB4.out.trans (hb5.mono (by omega)))
      have HKX5 := hide0 (HKX4.out.below hb5 hxl)
      clear hb5
      go_wp2_with fail
      refine (HDE.out T HTO.out _).mono ?_
      rintro e w6 ⟨⟨ra, rl, rc, rfl⟩, hb6⟩
      have hs6 := hb6.size
      have HB6 := hide0 (HB5.out.trans (hb6.mono (by omega)))
      have kx6 := HKX5.out.below hb6 (by omega)
      have HRC := hide0 (receive_any x m T f s w6 kx6 HTO.out)
      clear hb6 kx6
      go_wp2_with fail
      refine HRC.out.mono ?_
      rintro e w7 ⟨hE7, hK7⟩
      obtain ⟨l7, c7, R7, f7, ws7, rfl, hC7⟩ := call_out hE7 (fun c R h => h.ok HTO.out)
      have hs7 := hK7.size
      have HB7 := hide0 (HB6.out.trans (hK7.below (B := w.heap.size) (fun b hb => by simp at hb; omega) (by omega)))
      have HC7 := hide0 hC7
      have HSH7 := hide0 (show_any x m R7 f7 w7 hC7.blk h1 h3 hC7.okR.fits)
      obtain ⟨la, lc, rfl⟩ := hC7.own.slice
      generalize ws7.length = ln7 at *
      clear hE7 hK7 hC7
      go_wp2_with fail
      refine HSH7.out.mono ?_
      rintro e w8 ⟨rfl, hb8⟩
      have hs8 := hb8.size
      have HB8 := hide0 (HB7.out.trans (hb8.mono (by omega)))
      have kx8 := HC7.out.blk.below hb8 HC7.out.blk.lt
      have HAD := hide0 (add_any x m R7 f7 (.slice va zn vc) zs w8 kx8 HC7.out.okR (HV.out.below HB8.out))
      clear hb8 kx8
      go_wp2_with fail
      refine HAD.out.mono ?_
      rintro e w9 ⟨hE9, hK9⟩
      obtain ⟨l9, c9, R9, f9, ws9, rfl, hC9⟩ := call_out hE9 (fun c R h => h.ok HC7.out.okR)
      have hs9 := hK9.size
      have HB9 := hide0 (HB8.out.trans (hK9.below (B := w.heap.size) (fun b hb => by simp at hb; omega) (by omega)))
      have HC9 := hide0 hC9
      have HSH9 := hide0 (show_any x m R9 f9 w9 hC9.blk h1 h3 hC9.okR.fits)
      obtain ⟨la9, lc9, rfl⟩ := hC9.own.slice
      generalize ws9.length = ln9 at *
      clear hE9 hK9 hC9
      go_wp2_with fail
      refine HSH9.out.mono ?_
      rintro e w10 ⟨rfl, hb10⟩
      have hs10 := hb10.size
      have HB10 := hide0 (HB9.out.trans (hb10.mono (by omega)))
      clear hb10
      have hmm : ((m : Int) != (m : Int)) = false := by simp
      have hme : ((m : Int) == (m : Int)) = true := by simp
      have hnn := nilWn
      have HF : Hid ((c7 ≠ 0 → R7 = T ∧ Value.slice la ln7 lc = .slice none 0 0) ∧ (c9 ≠ 0 → R9 = R7 ∧ Value.slice la9 ln9 lc9 = .slice none 0 0)) := ⟨calls_same HC7.out, calls_same HC9.out⟩
      have HDE9 := hide0 (fun w0 => decodeT_any m R9 HC9.out.okR w0)
      have HT7 : Hid (R7 = T → txt m R7 = txt m T) := fun e => by rw [e]
      have HT9 : Hid (R9 = R7 → txt m R9 = txt m R7) := fun e => by rw [e]
      generalize txt m T = t0 at *
      generalize txt m R7 = t7 at *
      generalize txt m R9 = t9 at *
      go_upto_region 23 with fail
      go_cut [156] (fun u wx => u = .bool false ∧ wx = w10)
      case first =>
        by_cases h7 : c7 = 0
        · have e7 : (c7 != 0) = false := by simp [h7]
          by_cases h9 : c9 = 0
          · have e9 : (c9 != 0) = false := by simp [h9]
            clear h7 h9
            go_wp2
            go_meet
            exact ⟨rfl, rfl⟩
          · have e9 : (c9 != 0) = true := by simpa using h9
            obtain ⟨q1, q2⟩ := HF.out.2 h9
            have q3 := HT9.out q1
            simp only [Value.slice.injEq] at q2
            obtain ⟨rfl, rfl, rfl⟩ := q2
            have hee := eqlB t7
            subst q3
            clear h7 h9
            go_wp2
            go_meet
            exact ⟨rfl, rfl⟩
        · have e7 : (c7 != 0) = true := by simpa using h7
          obtain ⟨p1, p2⟩ := HF.out.1 h7
          have p3 := HT7.out p1
          simp only [Value.slice.injEq] at p2
          obtain ⟨rfl, rfl, rfl⟩ := p2
          have hee7 := eqlB t0
          subst p3
          by_cases h9 : c9 = 0
          · have e9 : (c9 != 0) = false := by simp [h9]
            clear h7 h9
            go_wp2
            go_meet
            exact ⟨rfl, rfl⟩
          · have e9 : (c9 != 0) = true := by simpa using h9
            obtain ⟨q1, q2⟩ := HF.out.2 h9
            have q3 := HT9.out q1
            simp only [Value.slice.injEq] at q2
            obtain ⟨rfl, rfl, rfl⟩ := q2
            have hee := eqlB t7
            subst q3
            clear h7 h9
            go_wp2
            go_meet
            exact ⟨rfl, rfl⟩
      case rest =>
      rename World => w11
      obtain ⟨rfl, rfl⟩ := hcut
      go_wp2_with fail
      refine (HDE9.out _).mono ?_
      rintro e w12 ⟨⟨ra2, rl2, rc2, rfl⟩, hb12⟩
      have HB12 := hide0 (HB10.out.trans (hb12.mono (by omega)))
      clear hb12
      go_wp2
      go_ret
      exact ⟨rfl, HB12.out⟩
    · clear hdd hb4 hd0
      go_wp2
      go_ret
      exact ⟨rfl, HB4.out⟩

end Go.Proofs.Ytmlcblnndihjoab
