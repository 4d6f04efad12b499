import Derived.Test.YtmlcblnndihjoabStrA
set_option linter.unusedSimpArgs false
set_option linter.unusedVariables false
namespace Go.Proofs.Ytmlcblnndihjoab
open Go.RowKit

/-- a node of width m with the lattice T, and its disk, which shows T -/
structure PK (w : World) (B m p x gd : Nat) (T : Lat.St) (f : Bool) (ss : List ByteArray) : Prop where
  peer : Blk w p (peerC m x gd) 53
  node : Blk w x (nodeC m T f) 100
  disk : Blk w gd (ss.map Value.string).toArray 9
  pB : B ≤ p
  xB : B ≤ x
  gB : B ≤ gd
  len : ss.length = 8
  opens : Opens m ss T f
  ok : NodeOK m T
  gen : Gens4 T

theorem PK.step {w w' : World} {B m p x gd : Nat} {T : Lat.St} {f : Bool} {ss : List ByteArray} (h : PK w B m p x gd T f ss) (hb : Below w.heap.size w w') : PK w' B m p x gd T f ss :=
  ⟨h.peer.below hb h.peer.lt, h.node.below hb h.node.lt, h.disk.below hb h.disk.lt, h.pB, h.xB, h.gB, h.len, h.opens, h.ok, h.gen⟩

theorem PK.strs {w : World} {B m p x gd : Nat} {T : Lat.St} {f : Bool} {ss : List ByteArray} (h : PK w B m p x gd T f ss) : StrsAt w (.slice (some ⟨gd, 0, none⟩) 8 8) ss := by
  have := strs_blk (cap := 8) h.disk
  rw [h.len] at this; exact this

theorem PeerOf.pk {m B : Nat} {T : Lat.St} {f : Bool} {ss : List ByteArray} {w' : World} {e : Ending} (h : PeerOf m B T f ss w' e) (h8 : ss.length = 8) (ho : Opens m ss T f) (ok : NodeOK m T) (hg : Gens4 T) :
    ∃ p x gd, e = .returned (.tuple #[.pointer (some ⟨p, 0, none⟩), .bool true]) ∧ PK w' B m p x gd T f ss := by
  obtain ⟨p, x, gd, he, a, b, c, d, e, f⟩ := h
  exact ⟨p, x, gd, he, ⟨a, b, c, d, e, f, h8, ho, ok, hg⟩⟩

theorem PK.mono {w : World} {B B' m p x gd : Nat} {T : Lat.St} {f : Bool} {ss : List ByteArray} (h : PK w B m p x gd T f ss) (hB : B' ≤ B) : PK w B' m p x gd T f ss :=
  ⟨h.peer, h.node, h.disk, Nat.le_trans hB h.pB, Nat.le_trans hB h.xB, Nat.le_trans hB h.gB, h.len, h.opens, h.ok, h.gen⟩

/-- a call has changed the node; its writes are put on the disk -/
theorem PK.put {w w7 : World} {B m p x gd : Nat} {T R : Lat.St} {f f' : Bool} {ss : List ByteArray} {ws : List (Nat × ByteArray)} (h : PK w B m p x gd T f ss) (hK : Keeps [x] w w7) (kx : Blk w7 x (nodeC m R f') 100) (hst : StepT m T R f f' ws) (okR : NodeOK m R) (gR : Gens4 R)
    {w9 : World} (hb : Below w7.heap.size w7 w9) {g2 : Nat} (kg : Blk w9 g2 ((putAll ws ss).map Value.string).toArray 9) (hgB : B ≤ g2) :
    PK (w9.setCell ⟨p, 2, none⟩ (.slice (some ⟨g2, 0, none⟩) 8 8)) B m p x g2 R f' (putAll ws ss) := by
  have hp7 := hK.blk h.peer (by simp; exact blk_ne h.peer h.node (by decide))
  have hp9 := hp7.below hb hp7.lt
  have hx9 := kx.below hb kx.lt
  refine ⟨hp9.set 2 _, hx9.other (blk_ne hx9 hp9 (by decide)) _, kg.other (blk_ne kg hp9 (by decide)) _, h.pB, h.xB, hgB, by rw [putAll_length]; exact h.len, ?_, okR, gR⟩
  obtain ⟨U, g, ho, _, _, hU⟩ := stroke_at hst h.opens h.ok okR ws.length (Nat.le_refl _)
  obtain ⟨rfl, rfl⟩ := hU rfl
  rw [List.take_length] at ho
  exact ho

set_option maxRecDepth 100000 in
set_option maxHeartbeats 16000000 in
theorem strokes_walk (x0 : Int) (r m : Nat) (hm : m = r + 1) (hr : r < 3) (v : Value) (xs : List (List Int)) (w : World) (hv : StructsG 4 w v xs)
    (hx : ∀ w0, Calls Try.prog 10 #[.int .i64 x0, .int .i64 3] w0 fun e w' => e = .returned (.int .i64 (r : Int)) ∧ w' = w0) :
    Calls Try.prog 8 #[.int .i64 x0, v] w fun e w' => e = .returned (.bool true) ∧ Below w.heap.size w w' := by
  have h1 : 1 ≤ m := by omega
  have h3 : m ≤ 3 := by omega
  have hrm : (1 : Int) + (r : Int) = (m : Int) := by omega
  clear hm hr
  have HV := hide0 hv
  have HX := hide0 hx
  have HBL := hide0 (fun w0 => blank_any w0)
  have HOP := hide0 (fun g w0 (h : StrsAt w0 (.slice (some ⟨g, 0, none⟩) 8 8) (List.replicate 8 mark0)) => kopenT_any m h1 h3 (.slice (some ⟨g, 0, none⟩) 8 8) _ zeroS false w0 h (by simp) (blank_opens m))
  have HVE := hide0 (fun a b c w0 => kvector_any m h1 h3 a b c w0)
  have HSR := hide0 (fun T R f f' ws dv l ss w0 hd hv h8 hl hok hst hO okT okR => strokes_any m h1 h3 T R f f' ws dv l ss w0 hd hv h8 hl hok hst hO okT okR)
  obtain ⟨a, cap, rfl⟩ := hv.slice
  have hlm := hv.2.1
  unfold maxLen at hlm
  clear hv hx
  generalize hln : xs.length = ln at *
  have HLN := hide0 hln
  clear hln
  go_enter Try.func8, Try.ntmps8
  go_wp2_with fail
  refine (HX.out _).mono ?_
  rintro e w' ⟨rfl, hq'⟩; replace hq' := hq'.symm; subst hq'
  go_wp2_with fail
  refine (HBL.out _).mono ?_
  rintro e w2 ⟨⟨gd0, rfl, hgd, kgd⟩, hb2⟩
  have hS2 := strs_blk (cap := 8) kgd
  have h8 : (List.replicate 8 mark0).length = 8 := by simp
  rw [h8] at hS2 ⊢
  have HO2 := hide0 (HOP.out gd0 w2 hS2)
  have hs2 := hb2.size
  have HB2 := hide0 hb2
  clear hb2 kgd hS2 h8
  go_wp2_with fail
  refine HO2.out.mono ?_
  rintro e w3 ⟨hP3, hb3⟩
  obtain ⟨p, x, gd, rfl, hPK⟩ := hP3.pk (by simp) (blank_opens m) (NodeOK.zero h1 h3) gens_zero
  have hs3 := hb3.size
  have HB3 := hide0 (HB2.out.trans (hb3.mono hs2))
  have HPK := hide0 (hPK.mono hs2)
  clear hb3 hP3 hPK
  by_cases hbig : ln > 1073741824
  · have hgt : decide ((ln : Int) > 1073741824) = true := decide_eq_true (by omega)
    go_wp2
    go_ret
    exact ⟨rfl, HB3.out⟩
  have hgt : decide ((ln : Int) > 1073741824) = false := decide_eq_false (by omega)
  go_wp2
  go_loopg [9, 10, 11, 12, 13, 14, 15] (ln) (fun mm i u10 u11 u12 u13 u14 u15 wr => ∃ (k gd : Nat) (T : Lat.St) (f : Bool) (ss : List ByteArray), i = .int .i64 (k : Nat) ∧ k + mm = ln ∧ PK wr w.heap.size m p x gd T f ss ∧ Below w.heap.size w wr)
  case atStart => exact ⟨0, gd, zeroS, false, _, rfl, by omega, HPK.out, HB3.out⟩
  case round =>
    obtain ⟨k, gd1, T, f, ss, rfl, hk, hP, hB⟩ := hrel
    have HB := hide0 hB
    have hsB := hB.size
    by_cases hlt : k < ln
    · have hlt' : (k : Int) < (ln : Int) := by omega
      obtain ⟨b, o, rfl, hc⟩ := HV.out.cellAt hB (i := k) (by rw [HLN.out]; exact hlt)
      have d0 := hc 0 (by omega)
      have d1 := hc 1 (by omega)
      have d2 := hc 2 (by omega)
      have d3 := hc 3 (by omega)
      rw [Nat.add_zero] at d0
      generalize (xs.getD k []).getD 0 0 = A0 at *
      generalize (xs.getD k []).getD 1 0 = A1 at *
      generalize (xs.getD k []).getD 2 0 = A2 at *
      generalize (xs.getD k []).getD 3 0 = A3 at *
      have HBA := hide0 (HB.out.alloc hsB (.cells #[.int .i64 A0, .int .i64 A1, .int .i64 A2, .int .i64 A3] 49))
      have HPA := hide0 (hP.step ((Below.refl _ wr).alloc (Nat.le_refl _) (.cells #[.int .i64 A0, .int .i64 A1, .int .i64 A2, .int .i64 A3] 49)))
      clear hc hB hP
      go_wp2_with fail
      refine (HVE.out _ _ _ _).mono ?_
      rintro e w5 ⟨⟨vb, rfl, hvv⟩, hb5⟩
      have hs5 := hb5.size
      simp at hs5
      have h5 := HPA.out.step hb5
      have HB5 := hide0 (HBA.out.trans (hb5.mono (by simp; omega)))
      have HVV := hide0 hvv
      have HGS := hide0 (small_good m h3 A0 A1 A2)
      generalize small m A0 A1 A2 = zs at *
      obtain ⟨p0, p1, p2⟩ := peer_cells h5.peer
      have HSH := hide0 (show_any x m T f w5 h5.node h1 h3 h5.ok.fits)
      have H5 := hide0 h5
      clear hb5 h5 hvv d0 d1 d2 d3
      go_wp2_with fail
      refine HSH.out.mono ?_
      rintro e w6 ⟨rfl, hb6⟩
      have hs6 := hb6.size
      have HB6 := hide0 (HB5.out.trans (hb6.mono (by omega)))
      have h6 := H5.out.step hb6
      obtain ⟨p0', p1', p2'⟩ := peer_cells h6.peer
      have HAD := hide0 (add_any x m T f (.slice (some ⟨vb, 0, none⟩) m m) zs w6 h6.node h6.ok (HVV.out.below hb6))
      have H6 := hide0 h6
      clear hb6 h6 p0 p1 p2
      go_wp2_with fail
      refine HAD.out.mono ?_
      rintro e w7 ⟨hE7, hK7⟩
      obtain ⟨l7, c7, R, f7, ws, rfl, hC7⟩ := call_out hE7 (fun c R h => h.ok H6.out.ok)
      obtain ⟨hc0, hgR, hsub⟩ := add_small H6.out.ok H6.out.gen HGS.out hC7.out
      subst hc0
      have hs7 := hK7.size
      have kp7 := hK7.blk H6.out.peer (by simp; exact blk_ne H6.out.peer H6.out.node (by decide))
      have HB7 := hide0 (HB6.out.trans (hK7.below (B := w.heap.size) (fun b hb => by simp at hb; subst hb; exact H6.out.xB) (by omega)))
      have HC7 := hide0 hC7
      have HGR := hide0 hgR
      have HK7 := hide0 hK7
      obtain ⟨p0, p1, p2⟩ := peer_cells kp7
      have HKP7 := hide0 kp7
      have HSH7 := hide0 (show_any x m R f7 w7 hC7.blk h1 h3 hC7.okR.fits)
      obtain ⟨la, lc, rfl⟩ := hC7.own.slice
      generalize hwl : ws.length = wl at *
      have HWL := hide0 hwl
      have HS7 := hide0 (HSR.out T R f f7 ws (.slice (some ⟨gd1, 0, none⟩) 8 8) (.slice la wl lc) ss)
      generalize hs : txt m T = tT at *
      generalize ht : txt m R = tR at *
      clear hE7 hK7 hC7 kp7 hgR hsub p0' p1' p2' hwl hs ht
      go_wp2_with fail
      refine HSH7.out.mono ?_
      rintro e w8 ⟨rfl, hb8⟩
      have hs8 := hb8.size
      have HB8 := hide0 (HB7.out.trans (hb8.mono (by omega)))
      have hsB8 := HB8.out.size
      have kp8 := HKP7.out.below hb8 HKP7.out.lt
      obtain ⟨q0, q1, q2⟩ := peer_cells kp8
      have hD8 : StrsAt w8 (.slice (some ⟨gd1, 0, none⟩) 8 8) ss := by
        have k7 := HK7.out.blk H6.out.disk (by simp; exact blk_ne H6.out.disk H6.out.node (by decide))
        have := strs_blk (cap := 8) (k7.below hb8 k7.lt)
        rw [H6.out.len] at this; exact this
      have hW8 : WritesAt w8 (.slice la wl lc) ws := HC7.out.own.at.below hb8
      have hc00 : ((0 : Int) != 0) = false := by simp
      have hwl8 : wl ≤ 8 := by have := HC7.out.len; have := HWL.out; omega
      by_cases hend : k = ln - 1
      · have hee : ((k : Int) == (ln : Int) - 1) = true := by simp; omega
        have HS8 := hide0 (HS7.out w8 hD8 hW8 H6.out.len (by rw [HWL.out]; exact hwl8) HC7.out.law HC7.out.step H6.out.opens H6.out.ok HC7.out.okR)
        clear hb8 p0 p1 p2 hD8 hW8 kp8
        go_wp2_with fail
        refine HS8.out.mono ?_
        rintro e w9 ⟨rfl, hb9⟩
        have HB9 := hide0 (HB8.out.trans (hb9.mono hsB8))
        clear hb9 q0 q1 q2
        go_wp2
        go_ret
        exact ⟨rfl, HB9.out⟩
      · have hee : ((k : Int) == (ln : Int) - 1) = false := by simp; omega
        have HWR := kwritten_any (.slice (some ⟨gd1, 0, none⟩) 8 8) (.slice la wl lc) ss ws (wl : Nat) w8 hD8 hW8 H6.out.len (by rw [HWL.out]; exact hwl8) HC7.out.law
        rw [Int.toNat_natCast, ← HWL.out, List.take_length, HWL.out] at HWR
        have HWR := hide0 HWR
        have HB78 := hide0 hb8
        have hp8 : (putAll ws ss).length = 8 := by rw [putAll_length]; exact H6.out.len
        have HKP8 := hide0 kp8
        clear hb8 p0 p1 p2 hD8 hW8 kp8
        go_wp2_with fail
        refine HWR.out.mono ?_
        rintro e w9 ⟨⟨gd9, rfl, hgd9, kgd9⟩, hb9⟩
        rw [hp8]
        have HB9 := hide0 (HB8.out.trans (hb9.mono hsB8))
        have HP9 := hide0 (H6.out.put HK7.out HC7.out.blk HC7.out.step HC7.out.okR HGR.out (HB78.out.trans (hb9.mono hs8)) kgd9 (by omega))
        have kp9 := HKP8.out.below hb9 HKP8.out.lt
        obtain ⟨y0, y1, y2⟩ := peer_cells kp9
        have y3 := kp9.frozen 2
        clear hb9 kgd9 q0 q1 q2 kp9 hp8
        go_wp2
        go_roundg (gk - 1)
        case measure => omega
        case rel => exact ⟨k + 1, gd9, R, f7, _, by go_num, by omega, HP9.out, HB9.out.setCell (p := ⟨p, 2, none⟩) HP9.out.pB _⟩
    · have hd : decide ((k : Int) < (ln : Int)) = false := by simp; omega
      clear hB hP
      go_wp2
      go_ret
      exact ⟨rfl, HB.out⟩

end Go.Proofs.Ytmlcblnndihjoab
