import Derived.Test.YtmlcblnndihjoabLasB
set_option linter.unusedSimpArgs false
set_option linter.unusedVariables false
namespace Go.Proofs.Ytmlcblnndihjoab
open Go.RowKit

/-- the disk of a node is another; the node has R -/
theorem PK.put2 {w0 w9 : World} {B m p x gd g2 : Nat} {T R : Lat.St} {f f' : Bool} {ss sk : List ByteArray} (h : PK w0 B m p x gd T f ss) (hp : Blk w9 p (peerC m x gd) 53) (kx : Blk w9 x (nodeC m R f') 100) (kg : Blk w9 g2 (sk.map Value.string).toArray 9) (hgB : B ≤ g2) (h8 : sk.length = 8) (ho : Opens m sk R f') (okR : NodeOK m R) (gR : Gens4 R) :
    PK (w9.setCell ⟨p, 2, none⟩ (.slice (some ⟨g2, 0, none⟩) 8 8)) B m p x g2 R f' sk :=
  ⟨hp.set 2 _, kx.other (blk_ne kx hp (by decide)) _, kg.other (blk_ne kg hp (by decide)) _, h.pB, h.xB, hgB, h8, ho, okR, gR⟩

theorem TK.set {w : World} {B m p x gd : Nat} {nv : Value} {L : List (Nat × List Int)} {T : Lat.St} (h : TK w B m nv L T) (hp : Blk w p (peerC m x gd) 53) (u : Value) : TK (w.setCell ⟨p, 2, none⟩ u) B m nv L T :=
  h.keep hp (by decide) (by decide) ((Keeps.refl [p] w).set (p := ⟨p, 2, none⟩) (Or.inl (by simp)) u)

theorem all_opens {m : Nat} {T R : Lat.St} {f f' : Bool} {ws : List (Nat × ByteArray)} {ss : List ByteArray} (hst : StepT m T R f f' ws) (hO : Opens m ss T f) (okT : NodeOK m T) (okR : NodeOK m R) {k : Nat} (hk : ws.length ≤ k) : Opens m (putAll (ws.take k) ss) R f' := by
  obtain ⟨U, g, ho, _, _, hU⟩ := stroke_at hst hO okT okR ws.length (Nat.le_refl _)
  obtain ⟨rfl, rfl⟩ := hU rfl
  rw [List.take_length] at ho
  rw [List.take_of_length_le hk]; exact ho

theorem part_opens {m : Nat} {T R : Lat.St} {f f' : Bool} {ws : List (Nat × ByteArray)} {ss : List ByteArray} (hst : StepT m T R f f' ws) (hO : Opens m ss T f) (okT : NodeOK m T) (okR : NodeOK m R) {k : Nat} (hk : k < ws.length) : Opens m (putAll (ws.take k) ss) T f := by
  obtain ⟨U, g, ho, _, hU, _⟩ := stroke_at hst hO okT okR k (by omega)
  obtain ⟨rfl, rfl⟩ := hU hk
  exact ho

set_option maxRecDepth 100000 in
set_option maxHeartbeats 32000000 in
theorem lasts_walk (x0 : Int) (r m : Nat) (hm : m = r + 1) (hr : r < 3) (v : Value) (xs : List (List Int)) (w : World) (hv : StructsG 4 w v xs)
    (hx : ∀ w0, Calls Try.prog 10 #[.int .i64 x0, .int .i64 3] w0 fun e w' => e = .returned (.int .i64 (r : Int)) ∧ w' = w0) :
    Calls Try.prog 7 #[.int .i64 x0, v] w fun e w' => e = .returned (.bool true) ∧ Below w.heap.size w w' := by
  have h1 : 1 ≤ m := by omega
  have h3 : m ≤ 3 := by omega
  have hrm : (1 : Int) + (r : Int) = (m : Int) := by omega
  clear hm hr
  have HV := hide0 hv
  have HX := hide0 hx
  have HRG : Hid (∀ i, i < xs.length → ∀ z ∈ xs.getD i [], -9223372036854775808 ≤ z ∧ z ≤ 9223372036854775807) := fun i hi z hz => by
    rw [List.getD_eq_getElem?_getD, List.getElem?_eq_getElem hi] at hz
    exact (hv.1 _ (List.getElem_mem hi)).2 z hz
  obtain ⟨i0, hi, hz0, hz1, hz2⟩ := info_parts tinfoIs
  have HI : Hid (Try.prog.info? 22 = some i0 ∧ i0.zero = some (.slice none 0 0) ∧ i0.size = 1 ∧ i0.bytes = 24) := ⟨hi, hz0, hz1, hz2⟩
  clear hi hz0 hz1 hz2
  have HBL := hide0 (fun w0 => blank_any w0)
  have HOP := hide0 (fun dv ss U g w0 hd h8 ho => kopenT_any m h1 h3 dv ss U g w0 hd h8 ho)
  have HVE := hide0 (fun a b c w0 => kvectorB_any m h1 h3 a b c w0)
  obtain ⟨a, cap, rfl⟩ := hv.slice
  have hlm := hv.2.1
  unfold maxLen at hlm
  clear hv hx
  generalize hln : xs.length = ln at *
  have HLN := hide0 hln
  clear hln
  go_enter Try.func7, Try.ntmps7
  go_wp2_with fail
  refine (HX.out _).mono ?_
  rintro e w' ⟨rfl, hq'⟩; replace hq' := hq'.symm; subst hq'
  go_wp2_with fail
  refine (HBL.out _).mono ?_
  rintro e w2 ⟨⟨gd0, rfl, hgd, kgd⟩, hb2⟩
  have hS2 := strs_blk (cap := 8) kgd
  have h8 : (List.replicate 8 mark0).length = 8 := by simp
  rw [h8] at hS2 ⊢
  have HO2 := hide0 (HOP.out _ _ _ _ w2 hS2 h8 (blank_opens m))
  have hs2 := hb2.size
  have HB2 := hide0 hb2
  clear hb2 kgd hS2 h8
  go_wp2_with fail
  refine HO2.out.mono ?_
  rintro e w3 ⟨hP3, hb3⟩
  obtain ⟨p, x, gd, rfl, hPK⟩ := hP3.pk (by simp) (blank_opens m) (NodeOK.zero h1 h3) gens_zero
  have hs3 := hb3.size
  have HB3 := hide0 (HB2.out.trans (hb3.mono hs2))
  have HPK := hide0 (hPK.mono hs2)
  clear hb3 hP3 hPK
  by_cases hbig : ln > 1073741824
  · have hgt : decide ((ln : Int) > 1073741824) = true := decide_eq_true (by omega)
    go_wp2
    go_ret
    exact ⟨rfl, HB3.out⟩
  have hgt : decide ((ln : Int) > 1073741824) = false := decide_eq_false (by omega)
  go_wp2
  go_loopg [6, 7, 8, 9, 10, 11, 12, 13, 14, 15, 16, 17, 18, 19, 20, 21] (ln) (fun mm u6 u7 u8 u9 i u11 u12 u13 u14 u15 u16 u17 u18 u19 u20 u21 wr => ∃ (k p x gd : Nat) (T : Lat.St) (f : Bool) (ss : List ByteArray) (L : List (Nat × List Int)), u7 = .pointer (some ⟨p, 0, none⟩) ∧ u8 = .bool true ∧ i = .int .i64 (k : Nat) ∧ k + mm = ln ∧ PK wr w.heap.size m p x gd T f ss ∧ TK wr w.heap.size m u9 L T ∧ L.length ≤ k ∧ Below w.heap.size w wr)
  case atStart => exact ⟨0, p, x, gd, zeroS, false, _, [], rfl, rfl, rfl, by omega, HPK.out, ⟨World.ownsRow_nil _ _ _ _, by simp⟩, by simp, HB3.out⟩
  case round =>
    obtain ⟨k, p, x, gd1, T, f, ss, L, rfl, rfl, rfl, hk, hP, hTk, hLk, hB⟩ := hrel
    obtain ⟨GK, hGK⟩ : ∃ g, g = gk := ⟨gk, rfl⟩
    have HGK : Hid (GK = gk ∧ k + gk = ln) := ⟨hGK, hk⟩
    clear hGK
    have HB := hide0 hB
    have hsB := hB.size
    obtain ⟨na, nc, rfl⟩ := hTk.slice
    have HTK := hide0 hTk
    generalize hnl : L.length = nl at *
    have HNL0 := hide0 hnl
    clear hnl hTk
    by_cases hlt : k < ln
    · have hlt' : (k : Int) < (ln : Int) := by omega
      obtain ⟨b, o, rfl, hc⟩ := HV.out.cellAt hB (i := k) (by rw [HLN.out]; exact hlt)
      have d0 := hc 0 (by omega)
      have d1 := hc 1 (by omega)
      have d2 := hc 2 (by omega)
      have d3 := hc 3 (by omega)
      rw [Nat.add_zero] at d0
      have g3 := getD_range (HRG.out k hlt) 3
      generalize (xs.getD k []).getD 0 0 = A0 at *
      generalize (xs.getD k []).getD 1 0 = A1 at *
      generalize (xs.getD k []).getD 2 0 = A2 at *
      generalize (xs.getD k []).getD 3 0 = A3 at *
      obtain ⟨rk, hpN, hrN⟩ := kpick_det A3 16 g3.1 g3.2 (by omega) (by omega)
      have HPN := hide0 hpN
      have hAl : Below wr.heap.size wr (wr.alloc (.cells #[.int .i64 A0, .int .i64 A1, .int .i64 A2, .int .i64 A3] 49)) := (Below.refl _ wr).alloc (Nat.le_refl _) _
      have HBA := hide0 (HB.out.alloc hsB (.cells #[.int .i64 A0, .int .i64 A1, .int .i64 A2, .int .i64 A3] 49))
      have HPA := hide0 (hP.step hAl)
      have HTA := hide0 (HTK.out.step hAl)
      have HKO := hide0 (Blk.new wr #[.int .i64 A0, .int .i64 A1, .int .i64 A2, .int .i64 A3] 49 rfl)
      clear hc hB hP hAl hpN g3
      go_wp2_with fail
      refine (HVE.out _ _ _ _).mono ?_
      rintro e w5 ⟨⟨vb, rfl, hvv⟩, hb5⟩
      have hs5 := hb5.size
      simp at hs5
      have h5 := HPA.out.step hb5
      have HT5 := hide0 (HTA.out.step hb5)
      have HKO5 := hide0 (HKO.out.below hb5 HKO.out.lt)
      have HB5 := hide0 (HBA.out.trans (hb5.mono (by simp; omega)))
      have HKV := hide0 hvv
      have HGS := hide0 (small_good m h3 A0 A1 A2)
      generalize small m A0 A1 A2 = zs at *
      obtain ⟨p0, p1, p2⟩ := peer_cells h5.peer
      have HAD := hide0 (add_any x m T f (.slice (some ⟨vb, 0, none⟩) m m) zs w5 h5.node h5.ok (ints_blk hvv (good_of_goodS HGS.out).2 h1))
      have H5 := hide0 h5
      clear hb5 h5 hvv d0 d1 d2 d3
      go_wp2_with fail
      refine HAD.out.mono ?_
      rintro e w7 ⟨hE7, hK7⟩
      obtain ⟨l7, c7, R, f7, ws, rfl, hC7⟩ := call_out hE7 (fun c R h => h.ok H5.out.ok)
      obtain ⟨hc0, hgR, hsub⟩ := add_small H5.out.ok H5.out.gen HGS.out hC7.out
      subst hc0
      have HMEM := hide0 (add_mem HGS.out hC7.out)
      have hs7 := hK7.size
      have kp7 := hK7.blk H5.out.peer (by simp; exact blk_ne H5.out.peer H5.out.node (by decide))
      have HB7 := hide0 (HB5.out.trans (hK7.below (B := w.heap.size) (fun b hb => by simp at hb; subst hb; exact H5.out.xB) (by omega)))
      have HT7 := hide0 (HT5.out.keep H5.out.node (by decide) (by decide) hK7)
      have kO7 := hK7.blk HKO5.out (by simp; exact blk_ne HKO5.out H5.out.node (by decide))
      have HKV7 := hide0 (hK7.blk HKV.out (by simp; exact blk_ne HKV.out H5.out.node (by decide)))
      have kd7 := hK7.blk H5.out.disk (by simp; exact blk_ne H5.out.disk H5.out.node (by decide))
      have hD7 : StrsAt w7 (.slice (some ⟨gd1, 0, none⟩) 8 8) ss := by
        have := strs_blk (cap := 8) kd7
        rw [H5.out.len] at this; exact this
      have HC7 := hide0 hC7
      have HGR := hide0 hgR
      have HSUB := hide0 hsub
      obtain ⟨p0', p1', p2'⟩ := peer_cells kp7
      have o3 : w7.cell? ⟨wr.heap.size, 3, none⟩ = some (.int .i64 A3) := kO7.cell 3
      have HKP7 := hide0 kp7
      obtain ⟨la, lc, rfl⟩ := hC7.own.slice
      have hW7 : WritesAt w7 (.slice la ws.length lc) ws := hC7.own.at
      generalize hwl : ws.length = wl at *
      have HWL := hide0 hwl
      have hwl8 : wl ≤ 8 := by have := hC7.len; omega
      have HWR := hide0 (fun (K : Nat) w0 hd hv => kwritten_any (.slice (some ⟨gd1, 0, none⟩) 8 8) (.slice la wl lc) ss ws (K : Nat) w0 hd hv H5.out.len (by rw [hwl]; exact hwl8) hC7.law)
      have HPL : Hid (∀ K, (putAll (ws.take K) ss).length = 8) := fun K => by rw [putAll_length]; exact H5.out.len
      have HW7 := hide0 (HWR.out wl w7 hD7 hW7)
      have HD7 := hide0 hD7
      have HV7 := hide0 hW7
      have hc00 : ((0 : Int) != 0) = false := by simp
      clear hE7 hK7 hC7 kp7 kO7 kd7 hD7 hW7 hgR hsub p0 p1 p2 hwl
      go_wp2_with fail
      refine (HPN.out _).mono ?_
      rintro e w' ⟨rfl, hq'⟩; replace hq' := hq'.symm; subst hq'
      clear o3
      go_wp2_with fail
      refine HW7.out.mono ?_
      rintro e w8 ⟨hN8, hb8⟩
      obtain ⟨g8, he8, hg8B, kg8⟩ := hN8
      rw [Int.toNat_natCast] at he8 kg8
      rw [HPL.out] at he8
      subst he8
      have hs8 := hb8.size
      have HB8 := hide0 (HB7.out.trans (hb8.mono (by omega)))
      have HT8 := hide0 (HT7.out.step hb8)
      have HKV8 := hide0 (HKV7.out.below hb8 HKV7.out.lt)
      have hp8 := HKP7.out.below hb8 HKP7.out.lt
      have HKP8 := hide0 hp8
      have HKX8 := hide0 (HC7.out.blk.below hb8 HC7.out.blk.lt)
      have HKG8 := hide0 kg8
      have HB78 := hide0 hb8
      obtain ⟨q0, q1, q2⟩ := peer_cells hp8
      have q3 := hp8.frozen 2
      clear p0' p1' p2' kg8 hb8 hp8
      by_cases hk8 : rk < 8
      · have hk8' : decide ((rk : Int) < 8) = true := decide_eq_true (by omega)
        have HW8 := HWR.out rk w8 (HD7.out.below HB78.out) (HV7.out.below HB78.out)
        rw [Int.toNat_natCast] at HW8
        have HW8 := hide0 HW8
        have hpl8 := HPL.out rk
        have HOA := hide0 (fun (h : wl ≤ rk) => all_opens HC7.out.step H5.out.opens H5.out.ok HC7.out.okR (k := rk) (by rw [HWL.out]; exact h))
        have HOC := hide0 (fun (h : rk < wl) => part_opens HC7.out.step H5.out.opens H5.out.ok HC7.out.okR (k := rk) (by rw [HWL.out]; exact h))
        generalize putAll (ws.take rk) ss = sk at *
        go_wp2_with fail
        refine HW8.out.mono ?_
        rintro e wW ⟨⟨gW, rfl, hgWB, kgW⟩, hbW⟩
        rw [hpl8]
        have hsW := hbW.size
        have HBW := hide0 (HB8.out.trans (hbW.mono (by omega)))
        have HTW := hide0 (HT8.out.step hbW)
        have HKVW := hide0 (HKV8.out.below hbW HKV8.out.lt)
        have hpW := HKP8.out.below hbW HKP8.out.lt
        have HKPW := hide0 hpW
        have HKXW := hide0 (HKX8.out.below hbW HKX8.out.lt)
        have HKGW := hide0 kgW
        obtain ⟨z0, z1, z2⟩ := peer_cells hpW
        have z3 := hpW.frozen 2
        have hsW0 := HBW.out.size
        clear q0 q1 q2 q3 kgW hbW hpW
        by_cases hge : wl ≤ rk
        · have hge' : decide ((rk : Int) ≥ (wl : Int)) = true := decide_eq_true (by omega)
          have HO := hide0 (HOA.out hge)
          obtain ⟨hi, hz0, hz1, hz2⟩ := HI.out
          have hrow := HTW.out.row
          have HRW := hide0 hrow
          rw [HNL0.out] at hrow
          go_upto_region 21 with (at_builtin; refine wpList_append_lies _ rfl (.tmp 93) (.tmp 95) 24 rfl w.heap.size 22 i0 (.slice none 0 0) 1 24 Try.underlying24 hi hz0 hz1 hz2 rfl (by decide) _ _ _ rfl (World.ownsRow.alloc hrow _) ⟨wW.heap.size, 0, none⟩ 1 1 [.slice (some ⟨vb, 0, none⟩) m m] rfl rfl (World.news_of_block (cs := #[.slice (some ⟨vb, 0, none⟩) m m]) (t := 22) (fr := (0, 0)) (Blk.new _ _ _ (by simp))) (by intro u hu; simp at hu; subst hu; rfl) (by omega) (by unfold maxLen; omega) (by omega) (by simp; omega) _ rfl ?_; intro g2 cap2 w9 hown1 hgrow hat hglt)
          have offP : ∀ {b : Nat} {cs : Array Value} {Tb : TypeId}, Blk wW b cs Tb → 22 ≠ Tb → Blk w9 b cs Tb := fun {b cs Tb} kb ht => by
            have hbl := kb.lt
            refine (hgrow.block b (by simp; omega) (fun e => owns_ne HRW.out kb ht b e.symm rfl)).trans (kb.alloc _)
          have HT9 : Hid (TK w9 w.heap.size m (.slice (some ⟨g2, 0, none⟩) (nl + 1) cap2) (L ++ [(vb, zs)]) R) := ⟨by rw [List.length_append, List.map_append, HNL0.out]; exact hown1, fun q hq => by
            rw [List.mem_append] at hq
            rcases hq with hq | hq
            · obtain ⟨q1, q2, q3⟩ := HTW.out.each q hq
              exact ⟨offP q1 (by decide), q2, HSUB.out _ q3⟩
            · simp at hq
              subst hq
              exact ⟨offP HKVW.out (by decide), HGS.out, HMEM.out⟩⟩
          have HB9 : Hid (Below w.heap.size w w9) := (HBW.out.alloc (by have := HBW.out.size; omega) _).grown hgrow (by simp; have := HBW.out.size; omega) (fun j hj => (HRW.out.lt j hj).1)
          have HNL : Hid ((L ++ [(vb, zs)]).length = nl + 1) := by show _ = _; rw [List.length_append, HNL0.out]; rfl
          have hp9 := offP HKPW.out (by decide)
          have hx9 := offP HKXW.out (by decide)
          have hg9 := offP HKGW.out (by decide)
          obtain ⟨y0, y1, y2⟩ := peer_cells hp9
          have y3 := hp9.frozen 2
          have hS9 : StrsAt (w9.setCell ⟨p, 2, none⟩ (.slice (some ⟨gW, 0, none⟩) 8 8)) (.slice (some ⟨gW, 0, none⟩) 8 8) sk := by
            have := strs_blk (cap := 8) (hg9.other (a := ⟨p, 2, none⟩) (blk_ne hg9 hp9 (by decide)) (.slice (some ⟨gW, 0, none⟩) 8 8))
            rw [hpl8] at this; exact this
          have HO9 := hide0 (HOP.out _ sk R f7 _ hS9 hpl8 HO.out)
          have HT10 := hide0 (HT9.out.set hp9 (.slice (some ⟨gW, 0, none⟩) 8 8))
          have HB10 := hide0 (HB9.out.setCell (p := ⟨p, 2, none⟩) H5.out.pB (.slice (some ⟨gW, 0, none⟩) 8 8))
          clear hS9 z0 z1 z2 z3 hown1 hgrow hat hglt offP hrow hx9 hg9 hp9
          generalize hNL : nl + 1 = NL at *
          have hNLk : NL ≤ k + 1 := by omega
          clear hNL
          go_wp2_with fail
          refine HO9.out.mono ?_
          rintro e wt ⟨hPt, hbt⟩
          obtain ⟨p', x', gt, rfl, hPK'⟩ := hPt.pk hpl8 HO.out HC7.out.okR HGR.out
          have HPT := hide0 (hPK'.mono HB10.out.size)
          have HTT := hide0 (HT10.out.step hbt)
          have HBT := hide0 (HB10.out.trans (hbt.mono HB10.out.size))
          clear hbt hPt hPK' y0 y1 y2 y3
          obtain ⟨t0, t1, t2⟩ := peer_cells HPT.out.peer
          have hsT := HBT.out.size
          have HSHt := hide0 (show_any x' m R f7 wt HPT.out.node h1 h3 HPT.out.ok.fits)
          have HDE := hide0 (fun w0 => decode_any (txt m R) w0)
          have HDU : Hid (DecOK (txt m R) m R) := HPT.out.ok.dec
          generalize txt m R = tU at *
          go_wp2_with fail
          refine HSHt.out.mono ?_
          rintro e wu ⟨rfl, hbu⟩
          have HPU := hide0 (HPT.out.step hbu)
          have HTU := hide0 (HTT.out.step hbu)
          have HBU := hide0 (HBT.out.trans (hbu.mono hsT))
          have hsU := HBU.out.size
          clear hbu t0 t1 t2
          go_wp2_with fail
          refine (HDE.out _).mono ?_
          rintro e wd ⟨hE, hbd⟩
          rcases hE with ⟨n', T', out, vs, hd, rfl, hrow'⟩ | ⟨hN, _⟩
          case inr => exact absurd HDU.out (hN _ _)
          obtain ⟨e1, e2⟩ := HDU.out.one hd
          subst e1
          subst e2
          have hra := hrow'.rowsAt (by omega)
          have HRA := hide0 hra
          obtain ⟨oa, oc, rfl⟩ := hra.slice
          have HPD := hide0 (HPU.out.step hbd)
          have HTD := hide0 (HTU.out.step hbd)
          have HBD := hide0 (HBU.out.trans (hbd.mono hsU))
          have hsD := HBD.out.size
          generalize (basisRows m R).length = bl at *
          have HHS := hide0 (fun vv zs w0 (q : RowsAt w0 (.slice oa bl oc) (basisRows m R)) (hx : IntsAt w0 vv zs) => has_any (m : Int) (.slice oa bl oc) vv (basisRows m R) zs w0 q hx)
          clear hbd hd hrow' hra
          go_wp2
          go_loopg [19, 20, 21] (NL) (fun mm i u20 u21 wz => ∃ (j : Nat), i = .int .i64 (j : Nat) ∧ j + mm = NL ∧ Below wd.heap.size wd wz)
          case atStart => exact ⟨0, rfl, by omega, Below.refl _ _⟩
          case round =>
            obtain ⟨j, rfl, hj, hBz⟩ := hrel
            have HBZ := hide0 hBz
            have hsz := hBz.size
            by_cases hjl : j < NL
            · have hjl' : (j : Int) < (NL : Int) := by omega
              obtain ⟨b', vb', zs', e', c', kv', gz', mz'⟩ := (HTD.out.step hBz).cellAt (j := j) (by rw [HNL.out]; exact hjl)
              cases e'
              have HH := hide0 (HHS.out _ zs' _ (HRA.out.below hBz) (ints_blk kv' (good_of_goodS gz').2 h1))
              have HGZ := hide0 gz'
              have HMZ := hide0 mz'
              clear hBz kv' gz' mz'
              go_wp2_with fail
              refine HH.out.mono ?_
              rintro e wy ⟨hO, hby⟩
              obtain rfl := has_taken HPD.out.ok HGZ.out HMZ.out hO
              have HBY := hide0 (HBZ.out.trans (hby.mono hsz))
              clear hO hby c'
              go_wp2
              go_roundg (gk - 1)
              case measure => omega
              case rel => exact ⟨j + 1, by go_num, by omega, HBY.out⟩
            · have hjd : decide ((j : Int) < (NL : Int)) = false := by simp; omega
              have HPZ := hide0 (HPD.out.step hBz)
              have HTZ := hide0 (HTD.out.step hBz)
              have HBZ2 := hide0 (HBD.out.trans (hBz.mono hsD))
              clear hBz
              go_wp2
              go_roundg (GK - 1)
              case measure => have := HGK.out; omega
              case rel => exact ⟨k + 1, p', x', _, R, f7, _, _, rfl, rfl, by go_num, by have := HGK.out; omega, HPZ.out, HTZ.out, by rw [HNL.out]; omega, HBZ2.out⟩
        · have hge' : decide ((rk : Int) ≥ (wl : Int)) = false := by simp; omega
          have HO := hide0 (HOC.out (by omega))
          have HNL := hide0 HNL0.out
          have hS9 : StrsAt (wW.setCell ⟨p, 2, none⟩ (.slice (some ⟨gW, 0, none⟩) 8 8)) (.slice (some ⟨gW, 0, none⟩) 8 8) sk := by
            have := strs_blk (cap := 8) (HKGW.out.other (a := ⟨p, 2, none⟩) (blk_ne HKGW.out HKPW.out (by decide)) (.slice (some ⟨gW, 0, none⟩) 8 8))
            rw [hpl8] at this; exact this
          have HO9 := hide0 (HOP.out _ sk T f _ hS9 hpl8 HO.out)
          have HT10 := hide0 (HTW.out.set HKPW.out (.slice (some ⟨gW, 0, none⟩) 8 8))
          have HB10 := hide0 (HBW.out.setCell (p := ⟨p, 2, none⟩) H5.out.pB (.slice (some ⟨gW, 0, none⟩) 8 8))
          clear hS9
          generalize nl = NL at *
          have hNLk : NL ≤ k + 1 := by omega
          go_wp2_with fail
          refine HO9.out.mono ?_
          rintro e wt ⟨hPt, hbt⟩
          obtain ⟨p', x', gt, rfl, hPK'⟩ := hPt.pk hpl8 HO.out H5.out.ok H5.out.gen
          have HPT := hide0 (hPK'.mono HB10.out.size)
          have HTT := hide0 (HT10.out.step hbt)
          have HBT := hide0 (HB10.out.trans (hbt.mono HB10.out.size))
          clear hbt hPt hPK' z0 z1 z2 z3
          obtain ⟨t0, t1, t2⟩ := peer_cells HPT.out.peer
          have hsT := HBT.out.size
          have HSHt := hide0 (show_any x' m T f wt HPT.out.node h1 h3 HPT.out.ok.fits)
          have HDE := hide0 (fun w0 => decode_any (txt m T) w0)
          have HDU : Hid (DecOK (txt m T) m T) := HPT.out.ok.dec
          generalize txt m T = tU at *
          go_wp2_with fail
          refine HSHt.out.mono ?_
          rintro e wu ⟨rfl, hbu⟩
          have HPU := hide0 (HPT.out.step hbu)
          have HTU := hide0 (HTT.out.step hbu)
          have HBU := hide0 (HBT.out.trans (hbu.mono hsT))
          have hsU := HBU.out.size
          clear hbu t0 t1 t2
          go_wp2_with fail
          refine (HDE.out _).mono ?_
          rintro e wd ⟨hE, hbd⟩
          rcases hE with ⟨n', T', out, vs, hd, rfl, hrow'⟩ | ⟨hN, _⟩
          case inr => exact absurd HDU.out (hN _ _)
          obtain ⟨e1, e2⟩ := HDU.out.one hd
          subst e1
          subst e2
          have hra := hrow'.rowsAt (by omega)
          have HRA := hide0 hra
          obtain ⟨oa, oc, rfl⟩ := hra.slice
          have HPD := hide0 (HPU.out.step hbd)
          have HTD := hide0 (HTU.out.step hbd)
          have HBD := hide0 (HBU.out.trans (hbd.mono hsU))
          have hsD := HBD.out.size
          generalize (basisRows m T).length = bl at *
          have HHS := hide0 (fun vv zs w0 (q : RowsAt w0 (.slice oa bl oc) (basisRows m T)) (hx : IntsAt w0 vv zs) => has_any (m : Int) (.slice oa bl oc) vv (basisRows m T) zs w0 q hx)
          clear hbd hd hrow' hra
          go_wp2
          go_loopg [19, 20, 21] (NL) (fun mm i u20 u21 wz => ∃ (j : Nat), i = .int .i64 (j : Nat) ∧ j + mm = NL ∧ Below wd.heap.size wd wz)
          case atStart => exact ⟨0, rfl, by omega, Below.refl _ _⟩
          case round =>
            obtain ⟨j, rfl, hj, hBz⟩ := hrel
            have HBZ := hide0 hBz
            have hsz := hBz.size
            by_cases hjl : j < NL
            · have hjl' : (j : Int) < (NL : Int) := by omega
              obtain ⟨b', vb', zs', e', c', kv', gz', mz'⟩ := (HTD.out.step hBz).cellAt (j := j) (by rw [HNL.out]; exact hjl)
              cases e'
              have HH := hide0 (HHS.out _ zs' _ (HRA.out.below hBz) (ints_blk kv' (good_of_goodS gz').2 h1))
              have HGZ := hide0 gz'
              have HMZ := hide0 mz'
              clear hBz kv' gz' mz'
              go_wp2_with fail
              refine HH.out.mono ?_
              rintro e wy ⟨hO, hby⟩
              obtain rfl := has_taken HPD.out.ok HGZ.out HMZ.out hO
              have HBY := hide0 (HBZ.out.trans (hby.mono hsz))
              clear hO hby c'
              go_wp2
              go_roundg (gk - 1)
              case measure => omega
              case rel => exact ⟨j + 1, by go_num, by omega, HBY.out⟩
            · have hjd : decide ((j : Int) < (NL : Int)) = false := by simp; omega
              have HPZ := hide0 (HPD.out.step hBz)
              have HTZ := hide0 (HTD.out.step hBz)
              have HBZ2 := hide0 (HBD.out.trans (hBz.mono hsD))
              clear hBz
              go_wp2
              go_roundg (GK - 1)
              case measure => have := HGK.out; omega
              case rel => exact ⟨k + 1, p', x', _, T, f, _, _, rfl, rfl, by go_num, by have := HGK.out; omega, HPZ.out, HTZ.out, by rw [HNL.out]; omega, HBZ2.out⟩
      · have hk8' : decide ((rk : Int) < 8) = false := by simp; omega
        have hge' : decide ((rk : Int) ≥ (wl : Int)) = true := decide_eq_true (by omega)
        have HO := hide0 (all_opens HC7.out.step H5.out.opens H5.out.ok HC7.out.okR (k := wl) (by rw [HWL.out]; exact Nat.le_refl _))
        have hpl8 := HPL.out wl
        generalize putAll (ws.take wl) ss = sk at *
        have HTW := hide0 HT8.out
        have HBW := hide0 HB8.out
        have HKVW := hide0 HKV8.out
        have HKPW := hide0 HKP8.out
        have HKXW := hide0 HKX8.out
        have HKGW := hide0 HKG8.out
        have hsW0 := HBW.out.size
        obtain ⟨hi, hz0, hz1, hz2⟩ := HI.out
        have hrow := HTW.out.row
        have HRW := hide0 hrow
        rw [HNL0.out] at hrow
        go_upto_region 21 with (at_builtin; refine wpList_append_lies _ rfl (.tmp 93) (.tmp 95) 24 rfl w.heap.size 22 i0 (.slice none 0 0) 1 24 Try.underlying24 hi hz0 hz1 hz2 rfl (by decide) _ _ _ rfl (World.ownsRow.alloc hrow _) ⟨w8.heap.size, 0, none⟩ 1 1 [.slice (some ⟨vb, 0, none⟩) m m] rfl rfl (World.news_of_block (cs := #[.slice (some ⟨vb, 0, none⟩) m m]) (t := 22) (fr := (0, 0)) (Blk.new _ _ _ (by simp))) (by intro u hu; simp at hu; subst hu; rfl) (by omega) (by unfold maxLen; omega) (by omega) (by simp; omega) _ rfl ?_; intro g2 cap2 w9 hown1 hgrow hat hglt)
        have offP : ∀ {b : Nat} {cs : Array Value} {Tb : TypeId}, Blk w8 b cs Tb → 22 ≠ Tb → Blk w9 b cs Tb := fun {b cs Tb} kb ht => by
          have hbl := kb.lt
          refine (hgrow.block b (by simp; omega) (fun e => owns_ne HRW.out kb ht b e.symm rfl)).trans (kb.alloc _)
        have HT9 : Hid (TK w9 w.heap.size m (.slice (some ⟨g2, 0, none⟩) (nl + 1) cap2) (L ++ [(vb, zs)]) R) := ⟨by rw [List.length_append, List.map_append, HNL0.out]; exact hown1, fun q hq => by
          rw [List.mem_append] at hq
          rcases hq with hq | hq
          · obtain ⟨q1, q2, q3⟩ := HTW.out.each q hq
            exact ⟨offP q1 (by decide), q2, HSUB.out _ q3⟩
          · simp at hq
            subst hq
            exact ⟨offP HKVW.out (by decide), HGS.out, HMEM.out⟩⟩
        have HB9 : Hid (Below w.heap.size w w9) := (HBW.out.alloc (by have := HBW.out.size; omega) _).grown hgrow (by simp; have := HBW.out.size; omega) (fun j hj => (HRW.out.lt j hj).1)
        have HNL : Hid ((L ++ [(vb, zs)]).length = nl + 1) := by show _ = _; rw [List.length_append, HNL0.out]; rfl
        have hp9 := offP HKPW.out (by decide)
        have hx9 := offP HKXW.out (by decide)
        have hg9 := offP HKGW.out (by decide)
        obtain ⟨y0, y1, y2⟩ := peer_cells hp9
        have y3 := hp9.frozen 2
        have HPT := hide0 (H5.out.put2 hp9 hx9 hg9 (by omega) hpl8 HO.out HC7.out.okR HGR.out)
        have HTT := hide0 (HT9.out.set hp9 (.slice (some ⟨g8, 0, none⟩) 8 8))
        have HBT := hide0 (HB9.out.setCell (p := ⟨p, 2, none⟩) H5.out.pB (.slice (some ⟨g8, 0, none⟩) 8 8))
        clear q0 q1 q2 q3 hown1 hgrow hat hglt offP hrow hx9 hg9 hp9
        generalize hNL : nl + 1 = NL at *
        have hNLk : NL ≤ k + 1 := by omega
        clear hNL
        go_upto_region 26 with fail
        generalize w9.setCell ⟨p, 2, none⟩ (.slice (some ⟨g8, 0, none⟩) 8 8) = wt at *
        clear y0 y1 y2 y3
        obtain ⟨t0, t1, t2⟩ := peer_cells HPT.out.peer
        have hsT := HBT.out.size
        have HSHt := hide0 (show_any x m R f7 wt HPT.out.node h1 h3 HPT.out.ok.fits)
        have HDE := hide0 (fun w0 => decode_any (txt m R) w0)
        have HDU : Hid (DecOK (txt m R) m R) := HPT.out.ok.dec
        generalize txt m R = tU at *
        go_wp2_with fail
        refine HSHt.out.mono ?_
        rintro e wu ⟨rfl, hbu⟩
        have HPU := hide0 (HPT.out.step hbu)
        have HTU := hide0 (HTT.out.step hbu)
        have HBU := hide0 (HBT.out.trans (hbu.mono hsT))
        have hsU := HBU.out.size
        clear hbu t0 t1 t2
        go_wp2_with fail
        refine (HDE.out _).mono ?_
        rintro e wd ⟨hE, hbd⟩
        rcases hE with ⟨n', T', out, vs, hd, rfl, hrow'⟩ | ⟨hN, _⟩
        case inr => exact absurd HDU.out (hN _ _)
        obtain ⟨e1, e2⟩ := HDU.out.one hd
        subst e1
        subst e2
        have hra := hrow'.rowsAt (by omega)
        have HRA := hide0 hra
        obtain ⟨oa, oc, rfl⟩ := hra.slice
        have HPD := hide0 (HPU.out.step hbd)
        have HTD := hide0 (HTU.out.step hbd)
        have HBD := hide0 (HBU.out.trans (hbd.mono hsU))
        have hsD := HBD.out.size
        generalize (basisRows m R).length = bl at *
        have HHS := hide0 (fun vv zs w0 (q : RowsAt w0 (.slice oa bl oc) (basisRows m R)) (hx : IntsAt w0 vv zs) => has_any (m : Int) (.slice oa bl oc) vv (basisRows m R) zs w0 q hx)
        clear hbd hd hrow' hra
        go_wp2
        go_loopg [19, 20, 21] (NL) (fun mm i u20 u21 wz => ∃ (j : Nat), i = .int .i64 (j : Nat) ∧ j + mm = NL ∧ Below wd.heap.size wd wz)
        case atStart => exact ⟨0, rfl, by omega, Below.refl _ _⟩
        case round =>
          obtain ⟨j, rfl, hj, hBz⟩ := hrel
          have HBZ := hide0 hBz
          have hsz := hBz.size
          by_cases hjl : j < NL
          · have hjl' : (j : Int) < (NL : Int) := by omega
            obtain ⟨b', vb', zs', e', c', kv', gz', mz'⟩ := (HTD.out.step hBz).cellAt (j := j) (by rw [HNL.out]; exact hjl)
            cases e'
            have HH := hide0 (HHS.out _ zs' _ (HRA.out.below hBz) (ints_blk kv' (good_of_goodS gz').2 h1))
            have HGZ := hide0 gz'
            have HMZ := hide0 mz'
            clear hBz kv' gz' mz'
            go_wp2_with fail
            refine HH.out.mono ?_
            rintro e wy ⟨hO, hby⟩
            obtain rfl := has_taken HPD.out.ok HGZ.out HMZ.out hO
            have HBY := hide0 (HBZ.out.trans (hby.mono hsz))
            clear hO hby c'
            go_wp2
            go_roundg (gk - 1)
            case measure => omega
            case rel => exact ⟨j + 1, by go_num, by omega, HBY.out⟩
          · have hjd : decide ((j : Int) < (NL : Int)) = false := by simp; omega
            have HPZ := hide0 (HPD.out.step hBz)
            have HTZ := hide0 (HTD.out.step hBz)
            have HBZ2 := hide0 (HBD.out.trans (hBz.mono hsD))
            clear hBz
            go_wp2
            go_roundg (GK - 1)
            case measure => have := HGK.out; omega
            case rel => exact ⟨k + 1, p, x, _, R, f7, _, _, rfl, rfl, by go_num, by have := HGK.out; omega, HPZ.out, HTZ.out, by rw [HNL.out]; omega, HBZ2.out⟩
    · have hd : decide ((k : Int) < (ln : Int)) = false := by simp; omega
      clear hB hP
      go_wp2
      go_ret
      exact ⟨rfl, HB.out⟩

end Go.Proofs.Ytmlcblnndihjoab
