import Derived.Test.YtmlcblnndihjoabQuiW
import Derived.Test.YtmlcblnndihjoabKepC
import Derived.Test.YtmlcblnndihjoabMergedW
set_option linter.unusedSimpArgs false
set_option linter.unusedVariables false
namespace Go.Proofs.Ytmlcblnndihjoab
open Go.RowKit

theorem owns_ne {w : World} {B g : Nat} {e T : TypeId} {size n : Nat} {v : Value} {xs : List Value} {cs : Array Value} (h : w.ownsRow B e size v n xs) (k : Blk w g cs T) (hne : e ≠ T) : ∀ b, v.ownBlock = some b → b ≠ g := fun b hb eq => by
  rcases h.2 with ⟨h1, _⟩ | ⟨g', cap, cur, h1, _, h3, _⟩
  · rw [h1] at hb; cases hb
  · rw [h1] at hb
    have e2 : g' = b := Option.some.inj hb
    subst e2
    exact blk_ne (w := w) (a := g') (b := g) h3 k hne eq

/-- what a node showed is never refused; the lattice is the sum -/
theorem rec_small {m : Nat} {T U R : Lat.St} {c : Int} (hT : NodeOK m T) (gT : Gens4 T) (hU : NodeOK m U) (gU : Gens4 U) (h : RecTo m T (txt m U) c R) :
    c = 0 ∧ Gens4 R ∧ SubL T R ∧ SubL U R ∧ ∀ V, SubL T V → SubL U V → SubL R V := by
  rcases h with ⟨a, _⟩ | ⟨m', U', a, b, _⟩ | ⟨U', a, S, hS, hor⟩
  · exact absurd hU.dec (a _ _)
  · exact absurd (a.one hU.dec).1 b
  · obtain ⟨_, rfl⟩ := a.one hU.dec
    obtain ⟨G, hG, cT⟩ := gT
    obtain ⟨H, hH, cU⟩ := gU
    have sT : ∀ v, Lat.InSpan (vecs (basisRows m T)) v ↔ Lat.Mem T v := fun v => (hT.canon.span v).symm
    have hin : ∀ v, Lat.InSpan (U'.c :: U'.b :: U'.a :: vecs (basisRows m T)) v ↔ Lat.InSpan (H ++ G) v := fun v => by
      constructor
      · intro hv
        refine Lat.InSpan.sub_list (fun g hg => ?_) hv
        have inH : ∀ u, Lat.InSpan H u → Lat.InSpan (H ++ G) u := fun u hu => Lat.InSpan.sub_list (fun x hx => Lat.InSpan.of_mem (List.mem_append_left _ hx)) hu
        have inG : ∀ u, Lat.InSpan G u → Lat.InSpan (H ++ G) u := fun u hu => Lat.InSpan.sub_list (fun x hx => Lat.InSpan.of_mem (List.mem_append_right _ hx)) hu
        simp only [List.mem_cons] at hg
        rcases hg with rfl | rfl | rfl | hg
        · exact inH _ ((cU.span _).1 (Lat.Mem.rc U'))
        · exact inH _ ((cU.span _).1 (Lat.Mem.rb U'))
        · exact inH _ ((cU.span _).1 (Lat.Mem.ra U'))
        · exact inG _ ((cT.span _).1 ((sT _).1 (Lat.InSpan.of_mem hg)))
      · intro hv
        refine Lat.InSpan.sub_list (fun g hg => ?_) hv
        rw [List.mem_append] at hg
        rcases hg with hg | hg
        · have : Lat.Mem U' g := (cU.span g).2 (Lat.InSpan.of_mem hg)
          rw [Lat.Mem.iff_span] at this
          refine Lat.InSpan.sub_list (fun x hx => ?_) this
          simp at hx
          rcases hx with rfl | rfl | rfl <;> exact Lat.InSpan.of_mem (by simp)
        · have : Lat.InSpan (vecs (basisRows m T)) g := (sT g).2 ((cT.span g).2 (Lat.InSpan.of_mem hg))
          exact Lat.InSpan.more _ (Lat.InSpan.more _ (Lat.InSpan.more _ this))
    have hgS : Gens4 S := ⟨H ++ G, fun g hg => by
      rw [List.mem_append] at hg
      rcases hg with hg | hg
      · exact hH g hg
      · exact hG g hg, ⟨hS.shape, fun v => (hS.span v).trans (hin v)⟩⟩
    rcases hor with ⟨_, rfl, rfl⟩ | ⟨hn, _⟩
    · refine ⟨rfl, hgS, fun v hv => ?_, fun v hv => ?_, fun V h1 h2 v hv => ?_⟩
      · exact (hS.span v).2 (Lat.InSpan.more _ (Lat.InSpan.more _ (Lat.InSpan.more _ ((sT v).2 hv))))
      · rw [Lat.Mem.iff_span] at hv
        refine (hS.span v).2 (Lat.InSpan.sub_list (fun x hx => ?_) hv)
        simp at hx
        rcases hx with rfl | rfl | rfl <;> exact Lat.InSpan.of_mem (by simp)
      · refine Lat.InSpan.lift (P := fun v => Lat.Mem V v) (Lat.Mem.zero V) (fun _ _ x y p q => x.comb y p q) (fun g hg => ?_) ((hS.span v).1 hv)
        simp only [List.mem_cons] at hg
        rcases hg with rfl | rfl | rfl | hg
        · exact h2 _ (Lat.Mem.rc U')
        · exact h2 _ (Lat.Mem.rb U')
        · exact h2 _ (Lat.Mem.ra U')
        · exact h1 _ ((sT _).1 (Lat.InSpan.of_mem hg))
    · exact absurd (gens_fits hgS) hn

/-- three nodes of width m: their lattices, what they lie in -/
structure MS (w : World) (B m lb lc : Nat) (P X D : Nat → Nat) (C : Nat → Lat.St) (F : Nat → Bool) : Prop where
  lst : ∀ i, i < 3 → w.cell? ⟨lb, i, none⟩ = some (.pointer (some ⟨P i, 0, none⟩))
  lbl : ∃ cs, Blk w lb cs 45
  peer : ∀ i, i < 3 → Blk w (P i) (peerC m (X i) (D i)) 53
  node : ∀ i, i < 3 → Blk w (X i) (nodeC m (C i) (F i)) 100
  xB : ∀ i, i < 3 → B ≤ X i
  xne : ∀ i j, i < 3 → j < 3 → i ≠ j → X i ≠ X j
  ok : ∀ i, i < 3 → NodeOK m (C i)
  gen : ∀ i, i < 3 → Gens4 (C i)

/-- one node has changed -/
theorem MS.upd {w w' : World} {B m lb lc : Nat} {P X D : Nat → Nat} {C : Nat → Lat.St} {F : Nat → Bool} (h : MS w B m lb lc P X D C F) {i : Nat} (hi : i < 3) {R : Lat.St} {f : Bool} (hk : Keeps [X i] w w') (kx : Blk w' (X i) (nodeC m R f) 100) (hok : NodeOK m R) (hg : Gens4 R) :
    MS w' B m lb lc P X D (fun j => if j = i then R else C j) (fun j => if j = i then f else F j) := by
  obtain ⟨cs, hl⟩ := h.lbl
  have hlN : lb ∉ [X i] := by simp; exact blk_ne hl (h.node i hi) (by decide)
  refine ⟨fun j hj => ?_, ⟨cs, hk.blk hl hlN⟩, fun j hj => hk.blk (h.peer j hj) (by simp; exact blk_ne (h.peer j hj) (h.node i hi) (by decide)), fun j hj => ?_, h.xB, h.xne, fun j hj => ?_, fun j hj => ?_⟩
  · rw [World.cell?_of_block (w := w) (hk.block lb hl.lt hlN)]; exact h.lst j hj
  · by_cases e : j = i
    · subst e; rw [if_pos rfl, if_pos rfl]; exact kx
    · rw [if_neg e, if_neg e]; exact hk.blk (h.node j hj) (by simp; exact h.xne j i hj hi e)
  · show NodeOK m (if j = i then R else C j)
    split
    · exact hok
    · exact h.ok j hj
  · show Gens4 (if j = i then R else C j)
    split
    · exact hg
    · exact h.gen j hj

theorem MS.step {w w' : World} {B m lb lc : Nat} {P X D : Nat → Nat} {C : Nat → Lat.St} {F : Nat → Bool} (h : MS w B m lb lc P X D C F) (hb : Below w.heap.size w w') : MS w' B m lb lc P X D C F := by
  obtain ⟨cs, hl⟩ := h.lbl
  exact ⟨fun j hj => cell_below hb (h.lst j hj), ⟨cs, hl.below hb hl.lt⟩, fun j hj => (h.peer j hj).below hb (h.peer j hj).lt, fun j hj => (h.node j hj).below hb (h.node j hj).lt, h.xB, h.xne, h.ok, h.gen⟩

structure StaK (w : World) (B m : Nat) (nv : Value) (L : List (Nat × Nat × Nat)) : Prop where
  row : w.ownsRow B 45 1 nv L.length (L.map fun q => .pointer (some ⟨q.1, 0, none⟩))
  each : ∀ q ∈ L, Blk w q.1 (peerC m q.2.1 q.2.2) 53 ∧ Blk w q.2.1 (nodeC m zeroS false) 100 ∧ B ≤ q.2.1
  nodup : (L.map (·.2.1)).Nodup

theorem sta_end {w : World} {B m : Nat} {nv : Value} {L : List (Nat × Nat × Nat)} (h1 : 1 ≤ m) (h3 : m ≤ 3) (h : StaK w B m nv L) (hl : L.length = 3) :
    ∃ lb lc P X D, nv = .slice (some ⟨lb, 0, none⟩) 3 lc ∧ MS w B m lb lc P X D (fun _ => zeroS) (fun _ => false) := by
  have hrow := h.row
  rw [hl] at hrow
  obtain ⟨lb, lc, hv, _, hc⟩ := ownsRow_cell hrow (by omega)
  have knb : ∃ cur, Blk w lb cur 45 := by
    rcases hrow.2 with ⟨q1, _⟩ | ⟨g, cap, cur, q1, _, q3, _⟩
    · rw [hv] at q1; cases q1
    · rw [hv] at q1; cases q1; exact ⟨cur, q3⟩
  match L, hl with
  | [(p0, x0, d0), (p1, x1, d1), (p2, x2, d2)], _ =>
    obtain ⟨a0, b0, e0⟩ := h.each (p0, x0, d0) (by simp)
    obtain ⟨a1, b1, e1⟩ := h.each (p1, x1, d1) (by simp)
    obtain ⟨a2, b2, e2⟩ := h.each (p2, x2, d2) (by simp)
    have hnd := h.nodup
    simp at hnd
    obtain ⟨⟨n01, n02⟩, n12⟩ := hnd
    refine ⟨lb, lc, fun i => if i = 0 then p0 else if i = 1 then p1 else p2, fun i => if i = 0 then x0 else if i = 1 then x1 else x2, fun i => if i = 0 then d0 else if i = 1 then d1 else d2, hv, ⟨?_, knb, ?_, ?_, ?_, ?_, fun i hi => NodeOK.zero h1 h3, fun i hi => gens_zero⟩⟩
    · intro i hi
      rw [hc i hi]
      have : i = 0 ∨ i = 1 ∨ i = 2 := by omega
      rcases this with rfl | rfl | rfl <;> rfl
    · intro i hi
      have : i = 0 ∨ i = 1 ∨ i = 2 := by omega
      rcases this with rfl | rfl | rfl
      · exact a0
      · exact a1
      · exact a2
    · intro i hi
      have : i = 0 ∨ i = 1 ∨ i = 2 := by omega
      rcases this with rfl | rfl | rfl
      · exact b0
      · exact b1
      · exact b2
    · intro i hi
      have : i = 0 ∨ i = 1 ∨ i = 2 := by omega
      rcases this with rfl | rfl | rfl
      · exact e0
      · exact e1
      · exact e2
    · intro i j hi hj hne
      have hi' : i = 0 ∨ i = 1 ∨ i = 2 := by omega
      have hj' : j = 0 ∨ j = 1 ∨ j = 2 := by omega
      rcases hi' with rfl | rfl | rfl <;> rcases hj' with rfl | rfl | rfl <;> first | exact absurd rfl hne | (simp; first | exact n01 | exact n02 | exact n12 | exact fun e => n01 e.symm | exact fun e => n02 e.symm | exact fun e => n12 e.symm)

theorem tinfoPe : (Try.prog.info? 45).map (fun i => (i.zero, i.size, i.bytes)) = some (some (.pointer none), 1, 8) := by kernel_rfl

def StartedEnd (B m : Nat) (w' : World) (e : Ending) : Prop :=
  ∃ lb lc P X D, e = .returned (.tuple #[.slice (some ⟨lb, 0, none⟩) 3 lc, .bool true]) ∧ MS w' B m lb lc P X D (fun _ => zeroS) (fun _ => false)

set_option maxRecDepth 100000 in
set_option maxHeartbeats 8000000 in
theorem started_any (m : Nat) (h1 : 1 ≤ m) (h3 : m ≤ 3) (w : World) :
    Calls Try.prog 28 #[.int .i64 (m : Nat)] w fun e w' => StartedEnd w.heap.size m w' e ∧ Below w.heap.size w w' := by
  obtain ⟨i0, hi, hz0, hz1, hz2⟩ := info_parts tinfoPe
  have HI : Hid (Try.prog.info? 45 = some i0 ∧ i0.zero = some (.pointer none) ∧ i0.size = 1 ∧ i0.bytes = 8) := ⟨hi, hz0, hz1, hz2⟩
  have HBL := hide0 (fun w0 => blank_any w0)
  have HOP := hide0 (fun g w0 (h : StrsAt w0 (.slice (some ⟨g, 0, none⟩) 8 8) (List.replicate 8 mark0)) => kopen_any m h1 h3 (.slice (some ⟨g, 0, none⟩) 8 8) w0 h)
  clear hi hz0 hz1 hz2
  go_enter Try.func28, Try.ntmps28
  go_wp2
  go_loopg [4, 5, 6, 7, 8] (3) (fun mm nv i u6 u7 u8 wr => ∃ (k : Nat) (L : List (Nat × Nat × Nat)), i = .int .i64 (k : Nat) ∧ k + mm = 3 ∧ L.length = k ∧ StaK wr w.heap.size m nv L ∧ Below w.heap.size w wr)
  case atStart => exact ⟨0, [], rfl, by omega, rfl, ⟨World.ownsRow_nil _ _ _ _, by simp, by simp⟩, Below.refl _ _⟩
  case round =>
    obtain ⟨k, L, rfl, hk, hL, hM, hB⟩ := hrel
    have HM := hide0 hM
    have HB := hide0 hB
    have hsB := hB.size
    obtain ⟨na, nc, rfl⟩ : ∃ a c, u4 = .slice a k c := by
      rcases hM.row.2 with ⟨q1, q2⟩ | ⟨g, cap, cur, q1, _⟩
      · exact ⟨none, 0, by rw [q1]; rw [hL] at q2; rw [q2]⟩
      · exact ⟨_, cap, by rw [q1, hL]⟩
    by_cases hlt : k < 3
    · have hlt' : (k : Int) < 3 := by omega
      clear hM hB
      go_wp2_with fail
      refine (HBL.out _).mono ?_
      rintro e w1 ⟨⟨gd, rfl, hgd, kgd⟩, hb1⟩
      have hS1 := strs_blk (cap := 8) kgd
      have h8 : (List.replicate 8 mark0).length = 8 := by simp
      rw [h8] at hS1 ⊢
      have HO1 := hide0 (HOP.out gd w1 hS1)
      have hs1 := hb1.size
      have HB1 := hide0 hb1
      clear hb1 kgd hS1 h8
      go_wp2_with fail
      refine HO1.out.mono ?_
      rintro e w2 ⟨⟨p, x, gd2, rfl, kp, kx, hpB, hxB⟩, hb2⟩
      have hs2 := hb2.size
      have hB12 := HB1.out.trans (hb2.mono hs1)
      have HB2 := hide0 (HB.out.trans (hB12.mono hsB))
      have hrow := ownsRow_below HM.out.row hB12 (Nat.le_refl _)
      have HRW := hide0 hrow
      rw [hL] at hrow
      have HEA : Hid (∀ q ∈ L, Blk w2 q.1 (peerC m q.2.1 q.2.2) 53 ∧ Blk w2 q.2.1 (nodeC m zeroS false) 100 ∧ w.heap.size ≤ q.2.1) := fun q hq => by
        obtain ⟨q1, q2, q3⟩ := HM.out.each q hq
        exact ⟨q1.below hB12 q1.lt, q2.below hB12 q2.lt, q3⟩
      have HXO : Hid (∀ q ∈ L, q.2.1 < wr.heap.size) := fun q hq => (HM.out.each q hq).2.1.lt
      have HKP := hide0 kp
      have HKX := hide0 kx
      obtain ⟨hi, hz0, hz1, hz2⟩ := HI.out
      clear hb2 kp kx hB12
      go_wp2_with (at_builtin; refine wpList_append_lies _ rfl (.tmp 22) (.tmp 24) 63 rfl w.heap.size 45 i0 (.pointer none) 1 8 Try.underlying63 hi hz0 hz1 hz2 rfl (by decide) _ _ _ rfl (World.ownsRow.alloc hrow _) ⟨w2.heap.size, 0, none⟩ 1 1 [.pointer (some ⟨p, 0, none⟩)] rfl rfl (World.news_of_block (cs := #[.pointer (some ⟨p, 0, none⟩)]) (t := 45) (fr := (0, 0)) (Blk.new _ _ _ (by simp))) (by intro u hu; simp at hu; subst hu; rfl) (by omega) (by unfold maxLen; omega) (by omega) (by simp; omega) _ rfl ?_; intro g2 cap2 w3 hown1 hgrow hat hglt)
      go_roundg (gk - 1)
      case measure => omega
      case rel =>
        have offP : ∀ {b : Nat} {cs : Array Value} {T : TypeId}, Blk w2 b cs T → 45 ≠ T → Blk w3 b cs T := fun {b cs T} kb ht => by
          have hbl := kb.lt
          refine (hgrow.block b (by simp; omega) (fun e => owns_ne HRW.out kb ht b e.symm rfl)).trans (kb.alloc _)
        refine ⟨k + 1, L ++ [(p, x, gd2)], by go_num, by omega, by rw [List.length_append, hL]; rfl, ⟨?_, ?_, ?_⟩, ?_⟩
        · rw [List.length_append, List.map_append, hL]; exact hown1
        · intro q hq
          rw [List.mem_append] at hq
          rcases hq with hq | hq
          · obtain ⟨q1, q2, q3⟩ := HEA.out q hq
            exact ⟨offP q1 (by decide), offP q2 (by decide), q3⟩
          · simp at hq
            rw [hq]
            exact ⟨offP HKP.out (by decide), offP HKX.out (by decide), by show w.heap.size ≤ x; omega⟩
        · rw [List.map_append, List.nodup_append]
          refine ⟨HM.out.nodup, by simp, fun a ha b hb => ?_⟩
          simp at hb
          rw [hb]
          obtain ⟨q, hq, e⟩ := List.mem_map.1 ha
          have := HXO.out q hq
          rw [← e]
          show q.2.1 ≠ x
          omega
        · exact (HB2.out.alloc (by omega) _).grown hgrow (by simp; omega) (fun j hj => (HRW.out.lt j hj).1)
    · have hd : decide ((k : Int) < 3) = false := by simp; omega
      have hk3 : k = 3 := by omega
      obtain ⟨lb, lc, P, X, D, hv, hMS⟩ := sta_end h1 h3 hM (by omega)
      have HE : Hid (StartedEnd w.heap.size m wr (.returned (.tuple #[.slice na k nc, .bool true]))) := ⟨lb, lc, P, X, D, by rw [← hv], hMS⟩
      clear hM hB hMS hv
      go_wp2
      go_ret2
      exact ⟨HE.out, HB.out⟩

end Go.Proofs.Ytmlcblnndihjoab

namespace Go.Proofs.Ytmlcblnndihjoab
open Go.RowKit

theorem getD_range {zs : List Int} (h : ∀ z ∈ zs, -9223372036854775808 ≤ z ∧ z ≤ 9223372036854775807) (j : Nat) : -9223372036854775808 ≤ zs.getD j 0 ∧ zs.getD j 0 ≤ 9223372036854775807 := by
  by_cases hj : j < zs.length
  · rw [List.getD_eq_getElem?_getD, List.getElem?_eq_getElem hj]; exact h _ (List.getElem_mem hj)
  · rw [List.getD_eq_getElem?_getD, List.getElem?_eq_none (by omega)]; exact ⟨by decide, by decide⟩

set_option maxRecDepth 100000 in
set_option maxHeartbeats 16000000 in
theorem among_any (B m lb lc : Nat) (h1 : 1 ≤ m) (h3 : m ≤ 3) (P X D : Nat → Nat) (C0 : Nat → Lat.St) (F0 : Nat → Bool) (v : Value) (xs : List (List Int)) (w : World) (hv : StructsG 5 w v xs) (hMS : MS w B m lb lc P X D C0 F0) (hB0 : B ≤ w.heap.size) (hvB : ∀ w', Below B w w' → StructsG 5 w' v xs) (hl30 : xs.length ≤ 1073741824) :
    Calls Try.prog 29 #[.int .i64 (m : Nat), .slice (some ⟨lb, 0, none⟩) 3 lc, v] w fun e w' => e = .returned (.bool true) ∧ (∃ C F, MS w' B m lb lc P X D C F) ∧ Below B w w' := by
  have HV := hide0 hvB
  have HVE := hide0 (fun a b c w0 => kvector_any m h1 h3 a b c w0)
  have HMS := hide0 hMS
  have HRG : Hid (∀ i, i < xs.length → ∀ z ∈ xs.getD i [], -9223372036854775808 ≤ z ∧ z ≤ 9223372036854775807) := fun i hi z hz => by
    rw [List.getD_eq_getElem?_getD, List.getElem?_eq_getElem hi] at hz
    exact (hv.1 _ (List.getElem_mem hi)).2 z hz
  obtain ⟨a, cap, rfl⟩ := hv.slice
  clear hv hMS hvB
  generalize hln : xs.length = ln at *
  have HLN := hide0 hln
  clear hln
  go_enter Try.func29, Try.ntmps29
  go_wp2
  go_loopg [7, 8, 9, 10, 11, 12, 13, 14, 15, 16, 17, 18] (ln) (fun mm i u8 u9 u10 u11 u12 u13 u14 u15 u16 u17 u18 wr => ∃ (k : Nat) (C : Nat → Lat.St) (F : Nat → Bool), i = .int .i64 (k : Nat) ∧ k + mm = ln ∧ MS wr B m lb lc P X D C F ∧ Below B w wr)
  case atStart => exact ⟨0, C0, F0, rfl, by omega, HMS.out, Below.refl _ _⟩
  case round =>
    obtain ⟨k, C, F, rfl, hk, hM, hB⟩ := hrel
    have HB := hide0 hB
    have hsB := hB.size
    by_cases hlt : k < ln
    · have hlt' : (k : Int) < (ln : Int) := by omega
      obtain ⟨b, o, rfl, hc⟩ := (HV.out wr hB).cellAt (Below.refl _ wr) (i := k) (by rw [HLN.out]; exact hlt)
      have hrg := HRG.out k hlt
      have d0 := hc 0 (by omega)
      have d1 := hc 1 (by omega)
      have d2 := hc 2 (by omega)
      have d3 := hc 3 (by omega)
      have d4 := hc 4 (by omega)
      rw [Nat.add_zero] at d0
      have g0 := getD_range hrg 0
      have g1 := getD_range hrg 1
      have g2 := getD_range hrg 2
      generalize (xs.getD k []).getD 0 0 = A0 at *
      generalize (xs.getD k []).getD 1 0 = A1 at *
      generalize (xs.getD k []).getD 2 0 = A2 at *
      generalize (xs.getD k []).getD 3 0 = A3 at *
      generalize (xs.getD k []).getD 4 0 = A4 at *
      obtain ⟨rN, hpN, hrN⟩ := kpick_det A0 2 g0.1 g0.2 (by omega) (by omega)
      obtain ⟨rA, hpA, hrA⟩ := kpick_det A1 3 g1.1 g1.2 (by omega) (by omega)
      obtain ⟨rB, hpB, hrB⟩ := kpick_det A2 3 g2.1 g2.2 (by omega) (by omega)
      have HPN := hide0 hpN
      have HPA := hide0 hpA
      have HPB := hide0 hpB
      have hA3 : rA < 3 := by omega
      have hB3 : rB < 3 := by omega
      have hAl : Below wr.heap.size wr (wr.alloc (.cells #[.int .i64 A0, .int .i64 A1, .int .i64 A2, .int .i64 A3, .int .i64 A4] 109)) := (Below.refl _ wr).alloc (Nat.le_refl _) _
      have kO := Blk.new wr #[.int .i64 A0, .int .i64 A1, .int .i64 A2, .int .i64 A3, .int .i64 A4] 109 rfl
      have hMA := hM.step hAl
      have HBA := hide0 (HB.out.trans (hAl.mono (by omega)))
      clear hc hrg hpN hpA hpB hM hB hAl g0 g1 g2
      go_upto_region 5 with fail
      obtain ⟨s0, s1, s2, s3, s4⟩ : (wr.alloc (.cells #[.int .i64 A0, .int .i64 A1, .int .i64 A2, .int .i64 A3, .int .i64 A4] 109)).cell? ⟨wr.heap.size, 0, none⟩ = some (.int .i64 A0) ∧ (wr.alloc (.cells #[.int .i64 A0, .int .i64 A1, .int .i64 A2, .int .i64 A3, .int .i64 A4] 109)).cell? ⟨wr.heap.size, 1, none⟩ = some (.int .i64 A1) ∧ (wr.alloc (.cells #[.int .i64 A0, .int .i64 A1, .int .i64 A2, .int .i64 A3, .int .i64 A4] 109)).cell? ⟨wr.heap.size, 2, none⟩ = some (.int .i64 A2) ∧ (wr.alloc (.cells #[.int .i64 A0, .int .i64 A1, .int .i64 A2, .int .i64 A3, .int .i64 A4] 109)).cell? ⟨wr.heap.size, 3, none⟩ = some (.int .i64 A3) ∧ (wr.alloc (.cells #[.int .i64 A0, .int .i64 A1, .int .i64 A2, .int .i64 A3, .int .i64 A4] 109)).cell? ⟨wr.heap.size, 4, none⟩ = some (.int .i64 A4) := ⟨kO.cell 0, kO.cell 1, kO.cell 2, kO.cell 3, kO.cell 4⟩
      have hOl := kO.lt
      have hXl : ∀ i, i < 3 → X i < wr.heap.size → True := fun _ _ _ => trivial
      have HOX : Hid (∀ i, i < 3 → wr.heap.size ≠ X i) := fun i hi => blk_ne kO (hMA.node i hi) (by decide)
      generalize wr.alloc (.cells #[.int .i64 A0, .int .i64 A1, .int .i64 A2, .int .i64 A3, .int .i64 A4] 109) = wA at *
      have HMA := hide0 hMA
      have l0 := hMA.lst rA hA3
      have l1 := hMA.lst rB hB3
      obtain ⟨p0, p1, p2⟩ := peer_cells (hMA.peer rA hA3)
      obtain ⟨q0, q1, q2⟩ := peer_cells (hMA.peer rB hB3)
      clear kO d0 d1 d2 d3 d4 hXl
      have hrA' : (rA : Int) < 3 := hrA
      have hrB' : (rB : Int) < 3 := hrB
      go_wp2_with fail
      refine (HPA.out _).mono ?_
      rintro e w' ⟨rfl, hq'⟩; replace hq' := hq'.symm; subst hq'
      go_wp2_with fail
      refine (HPN.out _).mono ?_
      rintro e w' ⟨rfl, hq'⟩; replace hq' := hq'.symm; subst hq'
      by_cases hr0 : rN = 0
      · subst hr0
        have hz : (((0 : Nat) : Int) == 0) = true := by simp
        clear hMA
        go_wp2_with fail
        refine (HVE.out _ _ _ _).mono ?_
        rintro e w5 ⟨⟨vb, rfl, hvv⟩, hb5⟩
        have hs5 := hb5.size
        have h5 := HMA.out.step hb5
        have HGS := hide0 (small_good m h3 A2 A3 A4)
        generalize small m A2 A3 A4 = zs at *
        have p1' := cell_below hb5 p1
        have HAD := hide0 (add_any (X rA) m (C rA) (F rA) (.slice (some ⟨vb, 0, none⟩) m m) zs w5 (h5.node rA hA3) (h5.ok rA hA3) hvv)
        have H5 := hide0 h5
        have HB5 := hide0 (HBA.out.trans (hb5.mono (by omega)))
        clear hb5 h5 hvv p0 p1 p2 q0 q1 q2 l0 l1 s0 s1 s2 s3 s4
        go_wp2_with fail
        refine HAD.out.mono ?_
        rintro e w7 ⟨hE7, hK7⟩
        obtain ⟨l7, c7, R, f7, ws, rfl, hC7⟩ := call_out hE7 (fun c R h => h.ok (H5.out.ok rA hA3))
        obtain ⟨hc0, hgR, hsub⟩ := add_small (H5.out.ok rA hA3) (H5.out.gen rA hA3) HGS.out hC7.out
        subst hc0
        have H7 := hide0 (H5.out.upd hA3 hK7 hC7.blk hC7.okR hgR)
        have HB7 := hide0 (HB5.out.trans (hK7.below (B := B) (fun b hb => by simp at hb; subst hb; exact H5.out.xB rA hA3) (by omega)))
        obtain ⟨la, lc7, rfl⟩ := hC7.own.slice
        generalize ws.length = wl at *
        clear hE7 hK7 hC7 hgR hsub
        go_wp2
        go_roundg (gk - 1)
        case measure => omega
        case rel => exact ⟨k + 1, _, _, by go_num, by omega, H7.out, HB7.out⟩
      · have hz : ((rN : Int) == 0) = false := by simp; omega
        have HSH := hide0 (show_any (X rA) m (C rA) (F rA) wA (hMA.node rA hA3) h1 h3 (hMA.ok rA hA3).fits)
        clear hMA
        go_wp2_with fail
        refine HSH.out.mono ?_
        rintro e w5 ⟨rfl, hb5⟩
        have hs5 := hb5.size
        have h5 := HMA.out.step hb5
        have H5 := hide0 h5
        have HB5 := hide0 (HBA.out.trans (hb5.mono (by omega)))
        have q1' := cell_below hb5 q1
        have s2' := cell_below hb5 s2
        have l1' := cell_below hb5 l1
        have HRC := hide0 (receive_any (X rB) m (C rB) (F rB) (txt m (C rA)) w5 (h5.node rB hB3) (h5.ok rB hB3))
        have HRS : Hid (∀ T R c, NodeOK m T → Gens4 T → RecTo m T (txt m (C rA)) c R → c = 0 ∧ Gens4 R) := fun T R c t1 t2 t3 => by
          obtain ⟨u1, u2, _⟩ := rec_small t1 t2 (H5.out.ok rA hA3) (H5.out.gen rA hA3) t3
          exact ⟨u1, u2⟩
        have HRC2 := hide0 (fun R f w0 (kk : Blk w0 (X rB) (nodeC m R f) 100) (ok : NodeOK m R) => receive_any (X rB) m R f (txt m (C rA)) w0 kk ok)
        generalize txt m (C rA) = tx at *
        clear hb5 h5 p0 p1 p2 q0 q1 q2 l0 l1 s0 s1 s2 s3 s4
        go_wp2_with fail
        refine (HPB.out _).mono ?_
        rintro e w' ⟨rfl, hq'⟩; replace hq' := hq'.symm; subst hq'
        go_wp2_with fail
        refine HRC.out.mono ?_
        rintro e w7 ⟨hE7, hK7⟩
        obtain ⟨l7, c7, R, f7, ws, rfl, hC7⟩ := call_out hE7 (fun c R h => h.ok (H5.out.ok rB hB3))
        obtain ⟨hc0, hgR⟩ := HRS.out _ _ _ (H5.out.ok rB hB3) (H5.out.gen rB hB3) hC7.out
        subst hc0
        have hs7 := hK7.size
        have h7 := H5.out.upd hB3 hK7 hC7.blk hC7.okR hgR
        have H7 := hide0 h7
        have HB7 := hide0 (HB5.out.trans (hK7.below (B := B) (fun b hb => by simp at hb; subst hb; exact H5.out.xB rB hB3) (by omega)))
        obtain ⟨_, r1', _⟩ := peer_cells (h7.peer rB hB3)
        have HRC3 := hide0 (HRC2.out R f7 w7 hC7.blk hC7.okR)
        have HOKR := hide0 hC7.okR
        have HGNR := hide0 hgR
        obtain ⟨la, lc7, rfl⟩ := hC7.own.slice
        generalize ws.length = wl at *
        clear hE7 hK7 hC7 hgR h7 q1' s2' l1'
        go_wp2_with fail
        refine HRC3.out.mono ?_
        rintro e w8 ⟨hE8, hK8⟩
        obtain ⟨l8, c8, R8, f8, ws8, rfl, hC8⟩ := call_out hE8 (fun c R h => h.ok HOKR.out)
        obtain ⟨hc0, hgR⟩ := HRS.out _ _ _ HOKR.out HGNR.out hC8.out
        subst hc0
        have H8 := hide0 (H7.out.upd hB3 hK8 hC8.blk hC8.okR hgR)
        have HB8 := hide0 (HB7.out.trans (hK8.below (B := B) (fun b hb => by simp at hb; subst hb; exact H5.out.xB rB hB3) (by omega)))
        obtain ⟨la8, lc8, rfl⟩ := hC8.own.slice
        generalize ws8.length = wl8 at *
        clear hE8 hK8 hC8 hgR r1'
        go_wp2
        go_roundg (gk - 1)
        case measure => omega
        case rel => exact ⟨k + 1, _, _, by go_num, by omega, H8.out, HB8.out⟩
    · have hd : decide ((k : Int) < (ln : Int)) = false := by simp; omega
      have HM := hide0 hM
      clear hB hM
      go_wp2
      go_ret
      exact ⟨rfl, ⟨C, F, HM.out⟩, HB.out⟩

end Go.Proofs.Ytmlcblnndihjoab

namespace Go.Proofs.Ytmlcblnndihjoab
open Go.RowKit

def e0s : ByteArray := ⟨#[]⟩

theorem cellMap {α : Type} {f : α → Value} {w : World} {b : Nat} {l : List α} {T : TypeId} (d : α) (h : Blk w b (l.map f).toArray T) {i : Nat} (hi : i < l.length) : w.cell? ⟨b, i, none⟩ = some (f (l.getD i d)) := by
  refine (h.cell i).trans ?_
  rw [List.getElem?_toArray, List.getElem?_map, List.getElem?_eq_getElem hi, List.getD_eq_getElem?_getD, List.getElem?_eq_getElem hi]; rfl

theorem setMap {α : Type} {f : α → Value} {w : World} {b : Nat} {l : List α} {T : TypeId} (h : Blk w b (l.map f).toArray T) (i : Nat) (x : α) : Blk (w.setCell ⟨b, i, none⟩ (f x)) b ((l.set i x).map f).toArray T := by
  have := h.set i (f x)
  rw [List.map_set]
  simpa using this

theorem getD_set {α : Type} (l : List α) (i j : Nat) (x d : α) (hi : i < l.length) : (l.set i x).getD j d = if j = i then x else l.getD j d := by
  rw [List.getD_eq_getElem?_getD, List.getD_eq_getElem?_getD, List.getElem?_set]
  by_cases h : i = j
  · subst h; rw [if_pos rfl, if_pos rfl, if_pos hi]; rfl
  · rw [if_neg h, if_neg (fun e => h e.symm)]

theorem txt_ne {m : Nat} {T : Lat.St} (h : NodeOK m T) : txt m T ≠ e0s := fun e => by
  have d := h.dec
  have hn := d.nums
  have hs := d.shp
  rw [e] at hn hs
  have : nums e0s = [] := by rfl
  rw [this] at hn
  exact absurd hn.symm (by unfold textN; simp)

theorem ne_e0 {q : ByteArray} (h : q ≠ e0s) : (q.toList == []) = false := by
  have : q.toList ≠ [] := fun e => h (by
    rw [ByteArray.toList_eq] at e
    exact ByteArray.ext (Array.toList_inj.1 (by rw [e]; rfl)))
  simpa using this

structure MV (w : World) (B m lb lc : Nat) (P X D : Nat → Nat) (C : Nat → Lat.St) (F : Nat → Bool) (sb cb : Nat) (ss : List ByteArray) (ks : List Bool) : Prop where
  ms : MS w B m lb lc P X D C F
  sent : Blk w sb (ss.map Value.string).toArray 9
  come : Blk w cb (ks.map Value.bool).toArray 4
  sl : ss.length = 3
  kl : ks.length = 9
  sB : B ≤ sb
  cB : B ≤ cb

structure GoodM (m : Nat) (T0 : Nat → Lat.St) (Sg : Lat.St) (C : Nat → Lat.St) (ss : List ByteArray) (ks : List Bool) : Prop where
  low : ∀ i, i < 3 → SubL (T0 i) (C i)
  hig : ∀ i, i < 3 → SubL (C i) Sg
  snt : ∀ i, i < 3 → ss.getD i e0s = e0s ∨ ∃ U, ss.getD i e0s = txt m U ∧ NodeOK m U ∧ Gens4 U ∧ SubL (T0 i) U ∧ SubL U Sg
  com : ∀ f t, f < 3 → t < 3 → ks.getD (3 * f + t) false = true → SubL (T0 f) (C t)

structure ProgM (k : Nat) (ss : List ByteArray) (ks : List Bool) (ss' : List ByteArray) (ks' : List Bool) : Prop where
  s : ∀ i, i < 3 → ss.getD i e0s ≠ e0s → ss'.getD i e0s ≠ e0s
  c : ∀ j, j < 9 → ks.getD j false = true → ks'.getD j false = true
  a : k < 3 → ss'.getD k e0s ≠ e0s
  b : ∀ f t, f < 3 → t < 3 → k = 3 + (3 * f + t) → ss.getD f e0s ≠ e0s → ks'.getD (3 * f + t) false = true

theorem MV.step {w w' : World} {B m lb lc : Nat} {P X D : Nat → Nat} {C : Nat → Lat.St} {F : Nat → Bool} {sb cb : Nat} {ss : List ByteArray} {ks : List Bool} (h : MV w B m lb lc P X D C F sb cb ss ks) (hb : Below w.heap.size w w') : MV w' B m lb lc P X D C F sb cb ss ks :=
  ⟨h.ms.step hb, h.sent.below hb h.sent.lt, h.come.below hb h.come.lt, h.sl, h.kl, h.sB, h.cB⟩

/-- a block of none of these types has changed -/
theorem MS.off {w w' : World} {B m lb lc : Nat} {P X D : Nat → Nat} {C : Nat → Lat.St} {F : Nat → Bool} (h : MS w B m lb lc P X D C F) {g : Nat} (hk : Keeps [g] w w') (h1 : lb ≠ g) (h2 : ∀ i, i < 3 → P i ≠ g) (h3 : ∀ i, i < 3 → X i ≠ g) : MS w' B m lb lc P X D C F := by
  obtain ⟨cs, hl⟩ := h.lbl
  refine ⟨fun j hj => ?_, ⟨cs, hk.blk hl (by simp; exact h1)⟩, fun j hj => hk.blk (h.peer j hj) (by simp; exact h2 j hj), fun j hj => hk.blk (h.node j hj) (by simp; exact h3 j hj), h.xB, h.xne, h.ok, h.gen⟩
  rw [World.cell?_of_block (w := w) (hk.block lb hl.lt (by simp; exact h1))]; exact h.lst j hj

def MovEnd (B m lb lc : Nat) (P X D : Nat → Nat) (T0 : Nat → Lat.St) (Sg : Lat.St) (sb cb k : Nat) (ss : List ByteArray) (ks : List Bool) (w w' : World) (e : Ending) : Prop :=
  e = .returned (.bool true) ∧ (∃ C F ss' ks', MV w' B m lb lc P X D C F sb cb ss' ks' ∧ GoodM m T0 Sg C ss' ks' ∧ ProgM k ss ks ss' ks') ∧ Below B w w'

theorem MV.sent_set {w : World} {B m lb lc : Nat} {P X D : Nat → Nat} {C : Nat → Lat.St} {F : Nat → Bool} {sb cb : Nat} {ss : List ByteArray} {ks : List Bool} (h : MV w B m lb lc P X D C F sb cb ss ks) (i : Nat) (s : ByteArray) :
    MV (w.setCell ⟨sb, i, none⟩ (.string s)) B m lb lc P X D C F sb cb (ss.set i s) ks := by
  obtain ⟨cs, hl⟩ := h.ms.lbl
  refine ⟨h.ms.off ((Keeps.refl [sb] w).set (p := ⟨sb, i, none⟩) (Or.inl (by simp)) _) (blk_ne hl h.sent (by decide)) (fun j hj => blk_ne (h.ms.peer j hj) h.sent (by decide)) (fun j hj => blk_ne (h.ms.node j hj) h.sent (by decide)), setMap h.sent i s, h.come.other (blk_ne h.come h.sent (by decide)) _, by rw [List.length_set]; exact h.sl, h.kl, h.sB, h.cB⟩

theorem MV.come_set {w : World} {B m lb lc : Nat} {P X D : Nat → Nat} {C : Nat → Lat.St} {F : Nat → Bool} {sb cb : Nat} {ss : List ByteArray} {ks : List Bool} (h : MV w B m lb lc P X D C F sb cb ss ks) (i : Nat) (s : Bool) :
    MV (w.setCell ⟨cb, i, none⟩ (.bool s)) B m lb lc P X D C F sb cb ss (ks.set i s) := by
  obtain ⟨cs, hl⟩ := h.ms.lbl
  refine ⟨h.ms.off ((Keeps.refl [cb] w).set (p := ⟨cb, i, none⟩) (Or.inl (by simp)) _) (blk_ne hl h.come (by decide)) (fun j hj => blk_ne (h.ms.peer j hj) h.come (by decide)) (fun j hj => blk_ne (h.ms.node j hj) h.come (by decide)), h.sent.other (blk_ne h.sent h.come (by decide)) _, setMap h.come i s, h.sl, by rw [List.length_set]; exact h.kl, h.sB, h.cB⟩

theorem good_sent {m : Nat} {T0 : Nat → Lat.St} {Sg : Lat.St} {C : Nat → Lat.St} {ss : List ByteArray} {ks : List Bool} (h : GoodM m T0 Sg C ss ks) {i : Nat} (hi : i < 3) (hl : ss.length = 3) (hok : NodeOK m (C i)) (hg : Gens4 (C i)) (he : ss.getD i e0s = e0s) :
    GoodM m T0 Sg C (ss.set i (txt m (C i))) ks ∧ ProgM i ss ks (ss.set i (txt m (C i))) ks := by
  refine ⟨⟨h.low, h.hig, fun j hj => ?_, h.com⟩, ⟨fun j hj hn => ?_, fun j hj hn => hn, fun _ => ?_, fun f t hf ht hk => absurd hk (by omega)⟩⟩
  · rw [getD_set _ _ _ _ _ (by omega)]
    split
    · rename_i e; subst e; exact Or.inr ⟨C j, rfl, hok, hg, h.low j hj, h.hig j hj⟩
    · exact h.snt j hj
  · rw [getD_set _ _ _ _ _ (by omega)]
    split
    · exact txt_ne hok
    · exact hn
  · rw [getD_set _ _ _ _ _ (by omega), if_pos rfl]; exact txt_ne hok

theorem good_come {m : Nat} {T0 : Nat → Lat.St} {Sg : Lat.St} {C : Nat → Lat.St} {ss : List ByteArray} {ks : List Bool} (h : GoodM m T0 Sg C ss ks) {f t : Nat} (hf : f < 3) (ht : t < 3) (hl : ks.length = 9) {U R : Lat.St} (h1 : SubL (T0 f) U) (h2 : SubL U Sg) (hCR : SubL (C t) R) (hUR : SubL U R) (hle : ∀ V, SubL (C t) V → SubL U V → SubL R V) :
    GoodM m T0 Sg (fun j => if j = t then R else C j) ss (ks.set (3 * f + t) true) ∧ ProgM (3 + (3 * f + t)) ss ks ss (ks.set (3 * f + t) true) := by
  refine ⟨⟨fun j hj => ?_, fun j hj => ?_, h.snt, fun f' t' hf' ht' hk => ?_⟩, ⟨fun j hj hn => hn, fun j hj hn => ?_, fun q => absurd q (by omega), fun f' t' hf' ht' hk hn => ?_⟩⟩
  · show SubL (T0 j) (if j = t then R else C j)
    split
    · rename_i e; subst e; exact (h.low j hj).trans hCR
    · exact h.low j hj
  · show SubL (if j = t then R else C j) Sg
    split
    · rename_i e; subst e; exact hle Sg (h.hig j hj) h2
    · exact h.hig j hj
  · show SubL (T0 f') (if t' = t then R else C t')
    rw [getD_set _ _ _ _ _ (by omega)] at hk
    by_cases e : t' = t
    · subst e
      rw [if_pos rfl]
      by_cases e2 : f' = f
      · subst e2; exact h1.trans hUR
      · rw [if_neg (by omega)] at hk; exact (h.com f' t' hf' ht' hk).trans hCR
    · rw [if_neg e]; rw [if_neg (by omega)] at hk; exact h.com f' t' hf' ht' hk
  · rw [getD_set _ _ _ _ _ (by omega)]
    split
    · rfl
    · exact hn
  · rw [getD_set _ _ _ _ _ (by omega), if_pos (by omega)]

theorem prog_same {k : Nat} {ss : List ByteArray} {ks : List Bool} (a : k < 3 → ss.getD k e0s ≠ e0s) (b : ∀ f t, f < 3 → t < 3 → k = 3 + (3 * f + t) → ss.getD f e0s ≠ e0s → ks.getD (3 * f + t) false = true) : ProgM k ss ks ss ks :=
  ⟨fun _ _ h => h, fun _ _ h => h, a, b⟩

end Go.Proofs.Ytmlcblnndihjoab

namespace Go.Proofs.Ytmlcblnndihjoab
open Go.RowKit

set_option maxRecDepth 100000 in
set_option maxHeartbeats 16000000 in
theorem moves_snd (B m lb lc : Nat) (h1 : 1 ≤ m) (h3 : m ≤ 3) (P X D : Nat → Nat) (T0 : Nat → Lat.St) (Sg : Lat.St) (C : Nat → Lat.St) (F : Nat → Bool) (sb cb i : Nat) (hi : i < 3) (ss : List ByteArray) (ks : List Bool) (w : World) (hV : MV w B m lb lc P X D C F sb cb ss ks) (hG : GoodM m T0 Sg C ss ks) (hB0 : B ≤ w.heap.size) :
    Calls Try.prog 30 #[.slice (some ⟨lb, 0, none⟩) 3 lc, .slice (some ⟨sb, 0, none⟩) 3 3, .slice (some ⟨cb, 0, none⟩) 9 9, .int .i64 (i : Nat)] w fun e w' => MovEnd B m lb lc P X D T0 Sg sb cb i ss ks w w' e := by
  have HV := hide0 hV
  have HG := hide0 hG
  have hi' : (i : Int) < 3 := by omega
  have l0 := hV.ms.lst i hi
  obtain ⟨p0, p1, p2⟩ := peer_cells (hV.ms.peer i hi)
  have s0 := cellMap e0s hV.sent (i := i) (by rw [hV.sl]; exact hi)
  have HSH := hide0 (show_any (X i) m (C i) (F i) w (hV.ms.node i hi) h1 h3 (hV.ms.ok i hi).fits)
  by_cases he : ss.getD i e0s = e0s
  · obtain ⟨hGs, hPs⟩ := good_sent hG hi hV.sl (hV.ms.ok i hi) (hV.ms.gen i hi) he
    have HGs := hide0 hGs
    have HPs := hide0 hPs
    rw [he] at s0
    unfold e0s at s0
    generalize txt m (C i) = tx at *
    clear hV hG hGs hPs he
    go_enter Try.func30, Try.ntmps30
    go_wp2_with fail
    refine HSH.out.mono ?_
    rintro e w5 ⟨rfl, hb5⟩
    have hV5 := HV.out.step hb5
    have HV5 := hide0 hV5
    have s5 := cell_below hb5 s0
    have f5 := hV5.sent.frozen i
    have HB5 := hide0 (hb5.mono hB0)
    clear hb5 hV5 s0
    go_wp2
    go_ret
    exact ⟨rfl, ⟨C, F, _, ks, HV5.out.sent_set i tx, HGs.out, HPs.out⟩, HB5.out.setCell (p := ⟨sb, i, none⟩) HV5.out.sB _⟩
  · have HE := hide0 he
    generalize hq : ss.getD i e0s = q at *
    have hne := ne_e0 HE.out
    have HP : Hid (ProgM i ss ks ss ks) := prog_same (fun _ => by rw [hq]; exact HE.out) (fun f t _ _ e => absurd e (by omega))
    clear hV hG he hq
    go_enter Try.func30, Try.ntmps30
    go_wp2
    go_ret
    exact ⟨rfl, ⟨C, F, ss, ks, HV.out, HG.out, HP.out⟩, Below.refl _ _⟩

set_option maxRecDepth 100000 in
set_option maxHeartbeats 16000000 in
theorem moves_rcv (B m lb lc : Nat) (h1 : 1 ≤ m) (h3 : m ≤ 3) (P X D : Nat → Nat) (T0 : Nat → Lat.St) (Sg : Lat.St) (C : Nat → Lat.St) (F : Nat → Bool) (sb cb f t j : Nat) (K : Int) (hf : f < 3) (ht : t < 3) (hj : j = 3 * f + t) (hK : K = 3 + (j : Int)) (ss : List ByteArray) (ks : List Bool) (w : World) (hV : MV w B m lb lc P X D C F sb cb ss ks) (hG : GoodM m T0 Sg C ss ks) (hB0 : B ≤ w.heap.size) :
    Calls Try.prog 30 #[.slice (some ⟨lb, 0, none⟩) 3 lc, .slice (some ⟨sb, 0, none⟩) 3 3, .slice (some ⟨cb, 0, none⟩) 9 9, .int .i64 K] w fun e w' => MovEnd B m lb lc P X D T0 Sg sb cb (3 + j) ss ks w w' e := by
  have HV := hide0 hV
  have HG := hide0 hG
  have HJ := hide0 hj
  have hK0 : ¬ K < 3 := by omega
  have hK0' : decide (K < 3) = false := by simp; omega
  have hKb : K ≤ 11 := by omega
  have hKs : K - 3 = (j : Int) := by omega
  have hj9 : (j : Int) < 9 := by omega
  have hjd : (j : Int) / 3 = (f : Int) := by omega
  have hjd' : (j : Int).tdiv 3 = (f : Int) := by rw [Int.tdiv_eq_ediv_of_nonneg (by omega)]; omega
  have hjr : (j : Int) % 3 = (t : Int) := by omega
  have hjr' : (j : Int).tmod 3 = (t : Int) := by rw [Int.tmod_eq_emod_of_nonneg (by omega)]; omega
  have hf' : (f : Int) < 3 := by omega
  have ht' : (t : Int) < 3 := by omega
  have l0 := hV.ms.lst t ht
  obtain ⟨p0, p1, p2⟩ := peer_cells (hV.ms.peer t ht)
  have s0 := cellMap e0s hV.sent (i := f) (by rw [hV.sl]; exact hf)
  have c0 := cellMap false hV.come (i := j) (by rw [hV.kl]; omega)
  have c0f := hV.come.frozen j
  by_cases hk : ks.getD j false = true
  · rw [hk] at c0
    have HP : Hid (ProgM (3 + j) ss ks ss ks) := prog_same (fun q => absurd q (by omega)) (fun f' t' q1 q2 e _ => by
      have : 3 * f' + t' = j := by omega
      rw [this]; exact hk)
    clear hV hG hk hj hK
    go_enter Try.func30, Try.ntmps30
    go_wp2
    go_ret
    exact ⟨rfl, ⟨C, F, ss, ks, HV.out, HG.out, HP.out⟩, Below.refl _ _⟩
  · have hk' : ks.getD j false = false := by simpa using hk
    rw [hk'] at c0
    by_cases he : ss.getD f e0s = e0s
    · have HP : Hid (ProgM (3 + j) ss ks ss ks) := prog_same (fun q => absurd q (by omega)) (fun f' t' q1 q2 e n => by
        have : f' = f := by omega
        rw [this] at n; exact absurd he n)
      rw [he] at s0
      unfold e0s at s0
      clear hV hG hk hk' hj hK he
      go_enter Try.func30, Try.ntmps30
      go_wp2
      go_ret
      exact ⟨rfl, ⟨C, F, ss, ks, HV.out, HG.out, HP.out⟩, Below.refl _ _⟩
    · obtain ⟨U, hU, okU, gU, hTU, hUS⟩ := (hG.snt f hf).resolve_left he
      have hne := ne_e0 he
      have hV2 := hV.come_set j true
      have hB2 : Below B w (w.setCell ⟨cb, j, none⟩ (.bool true)) := (Below.refl B w).setCell (p := ⟨cb, j, none⟩) hV.cB _
      have HRS : Hid (∀ R c, RecTo m (C t) (ss.getD f e0s) c R → c = 0 ∧ Gens4 R ∧ SubL (C t) R ∧ SubL U R ∧ ∀ V, SubL (C t) V → SubL U V → SubL R V) := fun R c q => by
        rw [hU] at q
        exact rec_small (hV.ms.ok t ht) (hV.ms.gen t ht) okU gU q
      have HGC : Hid (∀ R, SubL (C t) R → SubL U R → (∀ V, SubL (C t) V → SubL U V → SubL R V) → GoodM m T0 Sg (fun i => if i = t then R else C i) ss (ks.set j true) ∧ ProgM (3 + j) ss ks ss (ks.set j true)) := fun R q1 q2 q3 => by
        rw [hj]; exact good_come hG hf ht hV.kl hTU hUS q1 q2 q3
      have HR := hide0 (fun w0 (k : Blk w0 (X t) (nodeC m (C t) (F t)) 100) => receive_any (X t) m (C t) (F t) (ss.getD f e0s) w0 k (hV.ms.ok t ht))
      have HV2 := hide0 hV2
      have HB2 := hide0 hB2
      generalize ss.getD f e0s = q at *
      have hs2 : Hid (B ≤ (w.setCell ⟨cb, j, none⟩ (.bool true)).heap.size) := Nat.le_trans hB0 hB2.size
      have l2 := hV2.ms.lst t ht
      obtain ⟨_, p12, _⟩ := peer_cells (hV2.ms.peer t ht)
      have s2 : (w.setCell ⟨cb, j, none⟩ (.bool true)).cell? ⟨sb, f, none⟩ = some (.string q) := by
        rw [World.cell?_of_block (w := w) (Below.heap_setCell w _ _ _ (blk_ne hV.sent hV.come (by decide)))]; exact s0
      clear hV hV2 hB2 hG hk hk' hj hK he hU okU gU hTU hUS
      go_enter Try.func30, Try.ntmps30
      go_upto_region 10 with fail
      generalize w.setCell ⟨cb, j, none⟩ (.bool true) = w2 at *
      have hlbl : ∃ cs, Blk w2 lb cs 45 := HV2.out.ms.lbl
      have HN : Hid (lb ≠ X t ∧ P t ≠ X t ∧ sb ≠ X t ∧ cb ≠ X t) := by
        obtain ⟨cs, hl⟩ := hlbl
        exact ⟨blk_ne hl (HV2.out.ms.node t ht) (by decide), blk_ne (HV2.out.ms.peer t ht) (HV2.out.ms.node t ht) (by decide), blk_ne HV2.out.sent (HV2.out.ms.node t ht) (by decide), blk_ne HV2.out.come (HV2.out.ms.node t ht) (by decide)⟩
      have b1 := World.block_lt_of_cell? w2 _ l2
      have b2 := World.block_lt_of_cell? w2 _ p12
      have b3 := World.block_lt_of_cell? w2 _ s2
      clear hlbl l0 p0 p1 p2 s0 c0 c0f
      have HRV := hide0 (HR.out w2.drew (HV2.out.ms.node t ht).drew)
      have HEND : Hid (∀ R f' w3, Keeps [X t] w2.drew w3 → Blk w3 (X t) (nodeC m R f') 100 → NodeOK m R → Gens4 R → GoodM m T0 Sg (fun i => if i = t then R else C i) ss (ks.set j true) → ProgM (3 + j) ss ks ss (ks.set j true) → (∃ C F ss' ks', MV w3 B m lb lc P X D C F sb cb ss' ks' ∧ GoodM m T0 Sg C ss' ks' ∧ ProgM (3 + j) ss ks ss' ks') ∧ Below B w w3) := fun R f' w3 hK kx ok gn hgd hpr => by
        have hVd := HV2.out.step (Below.refl _ w2).drew
        refine ⟨⟨_, _, ss, _, ⟨hVd.ms.upd ht hK kx ok gn, hK.blk hVd.sent (by simp; exact HN.out.2.2.1), hK.blk hVd.come (by simp; exact HN.out.2.2.2), hVd.sl, hVd.kl, hVd.sB, hVd.cB⟩, hgd, hpr⟩, ?_⟩
        exact (HB2.out.trans (Below.refl _ w2).drew).trans (hK.below (B := B) (fun b hb => by simp at hb; subst hb; exact HV2.out.ms.xB t ht) (by exact hs2.out))
      have HOKT := hide0 (HV2.out.ms.ok t ht)
      go_cut [10, 11] (fun u10 u11 wx => u11 = .int .i64 0 ∧ (∃ C F ss' ks', MV wx B m lb lc P X D C F sb cb ss' ks' ∧ GoodM m T0 Sg C ss' ks' ∧ ProgM (3 + j) ss ks ss' ks') ∧ Below B w wx)
      case first =>
        go_region_held3 (fun w' => w'.cell? ⟨lb, t, none⟩ = some (.pointer (some ⟨P t, 0, none⟩)) ∧ w'.cell? ⟨P t, 1, none⟩ = some (.pointer (some ⟨X t, 0, none⟩)) ∧ w'.cell? ⟨sb, f, none⟩ = some (.string q))
          (go_keep)
          ((go_at_call 35; refine HRV.out.mono ?_; rintro e w3 ⟨hE7, hK7⟩
            obtain ⟨l7, c7, R, f7, ws, rfl, hC7⟩ := call_out hE7 (fun c R h => h.ok HOKT.out)
            obtain ⟨hc0, hgR, r1, r2, r3⟩ := HRS.out _ _ hC7.out
            obtain ⟨hgd, hpr⟩ := HGC.out R r1 r2 r3
            subst hc0
            have hFin := HEND.out R f7 w3 hK7 hC7.blk hC7.okR hgR hgd hpr
            have g1 : w3.cell? ⟨lb, t, none⟩ = some (.pointer (some ⟨P t, 0, none⟩)) := by rw [World.cell?_of_block (w := w2.drew) (hK7.block lb b1 (by simp; exact HN.out.1))]; exact l2
            have g2 : w3.cell? ⟨P t, 1, none⟩ = some (.pointer (some ⟨X t, 0, none⟩)) := by rw [World.cell?_of_block (w := w2.drew) (hK7.block (P t) b2 (by simp; exact HN.out.2.1))]; exact p12
            have g3 : w3.cell? ⟨sb, f, none⟩ = some (.string q) := by rw [World.cell?_of_block (w := w2.drew) (hK7.block sb b3 (by simp; exact HN.out.2.2.1))]; exact s2
            obtain ⟨la, lc7, rfl⟩ := hC7.own.slice
            generalize ws.length = wl at *
            have HFin := hide0 hFin
            clear hE7 hK7 hgR r1 r2 r3 hgd hpr hFin))
        all_goals (go_wp2_with fail)
        all_goals go_meet
        all_goals exact ⟨rfl, HFin.out⟩
      case rest =>
      rename World => wC
      obtain ⟨rfl, hS, hb⟩ := hcut
      have HS := hide0 hS
      have HB := hide0 hb
      clear hS hb
      go_wp2
      go_ret
      exact ⟨rfl, HS.out, HB.out⟩

end Go.Proofs.Ytmlcblnndihjoab

namespace Go.Proofs.Ytmlcblnndihjoab
open Go.RowKit

theorem moves_any (B m lb lc : Nat) (h1 : 1 ≤ m) (h3 : m ≤ 3) (P X D : Nat → Nat) (T0 : Nat → Lat.St) (Sg : Lat.St) (C : Nat → Lat.St) (F : Nat → Bool) (sb cb k : Nat) (hk : k < 12) (ss : List ByteArray) (ks : List Bool) (w : World) (hV : MV w B m lb lc P X D C F sb cb ss ks) (hG : GoodM m T0 Sg C ss ks) (hB0 : B ≤ w.heap.size) :
    Calls Try.prog 30 #[.slice (some ⟨lb, 0, none⟩) 3 lc, .slice (some ⟨sb, 0, none⟩) 3 3, .slice (some ⟨cb, 0, none⟩) 9 9, .int .i64 (k : Nat)] w fun e w' => MovEnd B m lb lc P X D T0 Sg sb cb k ss ks w w' e := by
  by_cases h : k < 3
  · exact moves_snd B m lb lc h1 h3 P X D T0 Sg C F sb cb k h ss ks w hV hG hB0
  · have q := moves_rcv B m lb lc h1 h3 P X D T0 Sg C F sb cb ((k - 3) / 3) ((k - 3) % 3) (k - 3) (k : Nat) (by omega) (by omega) (by omega) (by omega) ss ks w hV hG hB0
    have e : 3 + (k - 3) = k := by omega
    rw [e] at q
    exact q

/-- all has come to all: each holds the sum -/
theorem all_met {m : Nat} {T0 : Nat → Lat.St} {Sg : Lat.St} {C : Nat → Lat.St} {ss : List ByteArray} {ks : List Bool} {s : ByteArray} (hG : GoodM m T0 Sg C ss ks) (hL : Lite s m Sg) (hle : ∀ V, (∀ j, j < 3 → SubL (T0 j) V) → SubL Sg V) (hk : ∀ j, j < 9 → ks.getD j false = true) (hok : ∀ i, i < 3 → NodeOK m (C i)) : ∀ t, t < 3 → txt m (C t) = s := fun t ht => by
  have e : C t = Sg := sub_both (hok t ht).dec hL.dec (hG.hig t ht) (hle _ (fun j hj => hG.com j t hj ht (hk _ (by omega))))
  rw [e]; exact hL.dec.str.symm

theorem tinfoBo : (Try.prog.info? 4).map (fun i => (i.zero, i.size, i.bytes)) = some (some (.bool false), 1, 1) := by kernel_rfl

theorem made3 (w : World) : (Instr.makeSlice 43 (.int .i64 3) (.int .i64 3)).run Try.prog w = .ok (.slice (some ⟨w.heap.size, 0, none⟩) 3 3) (w.alloc (.cells ((List.replicate 3 e0s).map Value.string).toArray 9)) := by
  have h := run_make_row' (P := Try.prog) 43 9 (.string ⟨#[]⟩) 16 Try.underlying43 tinfo9 rfl .i64 .i64 3 (by omega) (by omega) w
  have e : madeCells #[Value.string ⟨#[]⟩] 3 = ((List.replicate 3 e0s).map Value.string).toArray := by kernel_rfl
  rw [e] at h; exact h
theorem made9 (w : World) : (Instr.makeSlice 67 (.int .i64 9) (.int .i64 9)).run Try.prog w = .ok (.slice (some ⟨w.heap.size, 0, none⟩) 9 9) (w.alloc (.cells ((List.replicate 9 false).map Value.bool).toArray 4)) := by
  have h := run_make_row' (P := Try.prog) 67 4 (.bool false) 1 Try.underlying67 tinfoBo rfl .i64 .i64 9 (by omega) (by omega) w
  have e : madeCells #[Value.bool false] 9 = ((List.replicate 9 false).map Value.bool).toArray := by kernel_rfl
  rw [e] at h; exact h

theorem getD_rep {α : Type} (n j : Nat) (x : α) : (List.replicate n x).getD j x = x := by
  rw [List.getD_eq_getElem?_getD]
  by_cases h : j < n
  · rw [List.getElem?_replicate, if_pos h]; rfl
  · rw [List.getElem?_replicate, if_neg h]; rfl

theorem good_start {m : Nat} {Sg : Lat.St} {C : Nat → Lat.St} (h : ∀ j, j < 3 → SubL (C j) Sg) : GoodM m C Sg C (List.replicate 3 e0s) (List.replicate 9 false) :=
  ⟨fun i _ => SubL.refl _, h, fun i _ => Or.inl (getD_rep _ _ _), fun f t _ _ hk => by rw [getD_rep] at hk; cases hk⟩

theorem MV.made {w : World} {B m lb lc : Nat} {P X D : Nat → Nat} {C : Nat → Lat.St} {F : Nat → Bool} (h : MS w B m lb lc P X D C F) (hB : B ≤ w.heap.size) :
    MV ((w.alloc (.cells ((List.replicate 3 e0s).map Value.string).toArray 9)).alloc (.cells ((List.replicate 9 false).map Value.bool).toArray 4)) B m lb lc P X D C F w.heap.size (w.alloc (.cells ((List.replicate 3 e0s).map Value.string).toArray 9)).heap.size (List.replicate 3 e0s) (List.replicate 9 false) :=
  ⟨h.step (((Below.refl _ w).alloc (Nat.le_refl _) _).alloc (by simp) _), (Blk.new _ _ _ rfl).alloc _, Blk.new _ _ _ rfl, rfl, rfl, hB, by simp; omega⟩

set_option maxRecDepth 100000 in
set_option maxHeartbeats 16000000 in
theorem meets_walk (x0 : Int) (r m : Nat) (hm : m = r + 1) (hr : r < 3) (v : Value) (xs : List (List Int)) (u : Value) (zs : List Int) (w : World) (hv : StructsG 5 w v xs) (hu : IntsG w u zs)
    (hx : ∀ w0, Calls Try.prog 10 #[.int .i64 x0, .int .i64 3] w0 fun e w' => e = .returned (.int .i64 (r : Int)) ∧ w' = w0) :
    Calls Try.prog 6 #[.int .i64 x0, v, u] w fun e w' => e = .returned (.bool true) ∧ Below w.heap.size w w' := by
  have h1 : 1 ≤ m := by omega
  have h3 : m ≤ 3 := by omega
  have hrm : (1 : Int) + (r : Int) = (m : Int) := by omega
  clear hm hr
  have HX := hide0 hx
  have HST := hide0 (started_any m h1 h3 w)
  have HVB : Hid (∀ w', Below w.heap.size w w' → StructsG 5 w' v xs) := fun w' hb => by
    refine ⟨hv.1, hv.2.1, ?_⟩
    rcases hv.2.2 with h | ⟨q1, b, o, cap, q2, q3⟩
    · exact Or.inl h
    · exact Or.inr ⟨q1, b, o, cap, q2, fun i hi j hj => cell_below hb (q3 i hi j hj)⟩
  have HUB : Hid (∀ w', Below w.heap.size w w' → IntsAt w' u zs) := fun w' hb => hu.1.below hb
  have HUR : Hid (∀ j, -9223372036854775808 ≤ zs.getD j 0 ∧ zs.getD j 0 ≤ 9223372036854775807) := fun j => getD_range hu.2.2 j
  have HAM := hide0 (fun lb lc P X D C0 F0 w0 (q : Below w.heap.size w w0) (hM : MS w0 w.heap.size m lb lc P X D C0 F0) (hl : xs.length ≤ 1073741824) => among_any w.heap.size m lb lc h1 h3 P X D C0 F0 v xs w0 (HVB.out w0 q) hM q.size (fun w' hb => HVB.out w' (q.trans hb)) hl)
  have HMV := hide0 (fun lb lc P X D T0 Sg C F sb cb k (hk : k < 12) ss ks w0 hV hG (hB0 : w.heap.size ≤ w0.heap.size) => moves_any w.heap.size m lb lc h1 h3 P X D T0 Sg C F sb cb k hk ss ks w0 hV hG hB0)
  have HSH := hide0 (fun x T f w0 k hf => show_any x m T f w0 k h1 h3 hf)
  obtain ⟨a, cap, rfl⟩ := hv.slice
  obtain ⟨ua, ucap, rfl⟩ := hu.1.slice
  have hlm := hv.2.1
  have hlu := hu.2.1
  unfold maxLen at hlm hlu
  clear hv hx hu
  generalize hln : xs.length = ln at *
  generalize hun : zs.length = un at *
  have HUN := hide0 hun
  clear hln hun
  go_enter Try.func6, Try.ntmps6
  go_wp2_with fail
  refine (HX.out _).mono ?_
  rintro e w' ⟨rfl, hq'⟩; replace hq' := hq'.symm; subst hq'
  go_wp2_with fail
  refine HST.out.mono ?_
  rintro e w2 ⟨⟨lb, lc, P, X, D, rfl, hM2⟩, hb2⟩
  have hs2 := hb2.size
  have HB2 := hide0 hb2
  have HA2 := hide0 (HAM.out lb lc P X D _ _ w2 hb2 hM2)
  clear hb2 hM2
  by_cases hbig : ln > 1073741824
  · have hgt : decide ((ln : Int) > 1073741824) = true := decide_eq_true (by omega)
    go_wp2
    go_ret
    exact ⟨rfl, HB2.out⟩
  have hgt : decide ((ln : Int) > 1073741824) = false := decide_eq_false (by omega)
  by_cases hbigu : un > 1073741824
  · have hgtu : decide ((un : Int) > 1073741824) = true := decide_eq_true (by omega)
    go_wp2
    go_ret
    exact ⟨rfl, HB2.out⟩
  have hgtu : decide ((un : Int) > 1073741824) = false := decide_eq_false (by omega)
  have HA3 := hide0 (HA2.out (by omega))
  go_wp2_with fail
  refine HA3.out.mono ?_
  rintro e w3 ⟨rfl, ⟨C, F, hM3⟩, hb3⟩
  have HM3 := hide0 hM3
  have HB3 := hide0 (HB2.out.trans hb3)
  have hs3 := HB3.out.size
  have l0 := hM3.lst 0 (by omega)
  obtain ⟨p0, p1, p2⟩ := peer_cells (hM3.peer 0 (by omega))
  have HSH3 := hide0 (HSH.out (X 0) (C 0) (F 0) w3 (hM3.node 0 (by omega)) (hM3.ok 0 (by omega)).fits)
  have HL0 : Hid (Lite (txt m (C 0)) m (C 0)) := ⟨(hM3.ok 0 (by omega)).dec, hM3.gen 0 (by omega)⟩
  generalize txt m (C 0) = t0 at *
  clear hb3 hM3
  go_wp2_with fail
  refine HSH3.out.mono ?_
  rintro e w4 ⟨rfl, hb4⟩
  have HM4 := hide0 (HM3.out.step hb4)
  have HB4 := hide0 (HB3.out.trans (hb4.mono hs3))
  clear hb4 l0 p0 p1 p2 hs3
  go_wp2
  go_loopg [10, 11, 12, 13, 14] (2) (fun mm u10 i u12 u13 u14 wr => ∃ (k : Nat) (s : ByteArray) (R : Lat.St), u10 = .string s ∧ i = .int .i64 (k : Nat) ∧ 1 ≤ k ∧ k + mm = 3 ∧ Lite s m R ∧ (∀ V, (∀ j, j < k → SubL (C j) V) → SubL R V) ∧ (∀ j, j < k → SubL (C j) R) ∧ MS wr w.heap.size m lb lc P X D C F ∧ Below w.heap.size w wr)
  case atStart =>
    refine ⟨1, t0, C 0, rfl, rfl, by omega, by omega, HL0.out, fun V h => h 0 (by omega), fun j hj => ?_, HM4.out, HB4.out⟩
    have : j = 0 := by omega
    subst this; exact SubL.refl _
  case round =>
    obtain ⟨k, s, R, rfl, rfl, hk1, hk, hL, hle, hup, hM, hB⟩ := hrel
    have HB := hide0 hB
    have HM := hide0 hM
    have hsB := hB.size
    have HL := hide0 hL
    have HLE := hide0 hle
    have HUP := hide0 hup
    by_cases hlt : k < 3
    · have hlt' : (k : Int) < 3 := by omega
      have l0 := hM.lst k hlt
      obtain ⟨p0, p1, p2⟩ := peer_cells (hM.peer k hlt)
      have HSHk := hide0 (HSH.out (X k) (C k) (F k) wr (hM.node k hlt) (hM.ok k hlt).fits)
      have hLk : Lite (txt m (C k)) m (C k) := ⟨(hM.ok k hlt).dec, hM.gen k hlt⟩
      have HJ := hide0 (fun w0 => joinL_any hL hLk w0)
      generalize txt m (C k) = tk at *
      clear hL hle hup hM hB hLk
      go_wp2_with fail
      refine HSHk.out.mono ?_
      rintro e w5 ⟨rfl, hb5⟩
      have HM5 := hide0 (HM.out.step hb5)
      have HB5 := hide0 (HB.out.trans (hb5.mono hsB))
      have hs5 := HB5.out.size
      clear hb5 l0 p0 p1 p2
      go_wp2_with fail
      refine (HJ.out _).mono ?_
      rintro e w6 ⟨⟨s6, R6, rfl, hL6, hS6⟩, hb6⟩
      have HM6 := hide0 (HM5.out.step hb6)
      have HB6 := hide0 (HB5.out.trans (hb6.mono hs5))
      have HL6 := hide0 hL6
      have HS6 := hide0 hS6
      clear hb6 hL6 hS6
      go_wp2
      go_roundg (gk - 1)
      case measure => omega
      case rel =>
        refine ⟨k + 1, s6, R6, rfl, by go_num, by omega, by omega, HL6.out, fun V h => HS6.out.least (HLE.out V (fun j hj => h j (by omega))) (h k (by omega)), fun j hj => ?_, HM6.out, HB6.out⟩
        by_cases e : j = k
        · subst e; exact HS6.out.right
        · exact (HUP.out j (by omega)).trans HS6.out.left
    · have hd : decide ((k : Int) < 3) = false := by simp; omega
      have hk3 : k = 3 := by omega
      subst hk3
      have mk3 := made3 wr
      have mk9 := made9 (wr.alloc (.cells ((List.replicate 3 e0s).map Value.string).toArray 9))
      have HV0 := hide0 (MV.made hM hsB)
      have HG0 : Hid (GoodM m C R C (List.replicate 3 e0s) (List.replicate 9 false)) := good_start hup
      have HB0 : Hid (Below w.heap.size w ((wr.alloc (.cells ((List.replicate 3 e0s).map Value.string).toArray 9)).alloc (.cells ((List.replicate 9 false).map Value.bool).toArray 4))) := (hB.alloc hsB _).alloc (by simp; omega) _
      generalize ((List.replicate 3 e0s).map Value.string).toArray = ca at *
      generalize ((List.replicate 9 false).map Value.bool).toArray = cc at *
      generalize hcb : (wr.alloc (.cells ca 9)).heap.size = cb at *
      generalize wr.alloc (.cells ca 9) = wa at *
      generalize wa.alloc (.cells cc 4) = wb at *
      generalize wr.heap.size = sb at *
      clear hL hle hup hM hB hcb
      go_wp2
      go_loopg [9, 17, 18] (un) (fun mm u9 i u18 wz => ∃ (k : Nat) (C' : Nat → Lat.St) (F' : Nat → Bool) (ss : List ByteArray) (ks : List Bool), i = .int .i64 (k : Nat) ∧ k + mm = un ∧ MV wz w.heap.size m lb lc P X D C' F' sb cb ss ks ∧ GoodM m C R C' ss ks ∧ Below w.heap.size w wz)
      case atStart => exact ⟨0, C, F, _, _, rfl, by omega, HV0.out, HG0.out, HB0.out⟩
      case round =>
        obtain ⟨k2, C2, F2, ss2, ks2, rfl, hk2, hV2, hG2, hB2⟩ := hrel
        have HB2' := hide0 hB2
        have HV2 := hide0 hV2
        have HG2 := hide0 hG2
        by_cases hlt2 : k2 < un
        · have hlt2' : (k2 : Int) < (un : Int) := by omega
          obtain ⟨b, o, c', e', hc⟩ := (HUB.out _ hB2).cells (by rw [HUN.out]; omega)
          rw [HUN.out] at e' hc
          cases e'
          have d0 := hc k2 hlt2
          have hrg := HUR.out k2
          generalize zs.getD k2 0 = Z at *
          obtain ⟨rZ, hpZ, hrZ⟩ := kpick_det Z 12 hrg.1 hrg.2 (by omega) (by omega)
          have HPZ := hide0 hpZ
          have HMZ := hide0 (HMV.out lb lc P X D C R C2 F2 sb cb rZ (by omega) ss2 ks2 _ hV2 hG2 hB2.size)
          clear hc hV2 hG2 hB2 hpZ hrg
          go_wp2_with fail
          refine (HPZ.out _).mono ?_
          rintro e w' ⟨rfl, hq'⟩; replace hq' := hq'.symm; subst hq'
          go_wp2_with fail
          refine HMZ.out.mono ?_
          rintro e w7 ⟨rfl, ⟨C7, F7, ss7, ks7, hV7, hG7, hP7⟩, hb7⟩
          have HV7 := hide0 hV7
          have HG7 := hide0 hG7
          have HB7 := hide0 (HB2'.out.trans hb7)
          clear hV7 hG7 hP7 hb7
          go_wp2
          go_roundg (gk - 1)
          case measure => omega
          case rel => exact ⟨k2 + 1, C7, F7, ss7, ks7, by go_num, by omega, HV7.out, HG7.out, HB7.out⟩
        · have hd2 : decide ((k2 : Int) < (un : Int)) = false := by simp; omega
          clear hV2 hG2 hB2
          go_wp2
          go_loopg [9, 19] (12) (fun mm u9 i wz => ∃ (k : Nat) (C' : Nat → Lat.St) (F' : Nat → Bool) (ss : List ByteArray) (ks : List Bool), i = .int .i64 (k : Nat) ∧ k + mm = 12 ∧ MV wz w.heap.size m lb lc P X D C' F' sb cb ss ks ∧ GoodM m C R C' ss ks ∧ (∀ j, j < k → j < 3 → ss.getD j e0s ≠ e0s) ∧ (∀ j, j < 9 → 3 + j < k → ks.getD j false = true) ∧ Below w.heap.size w wz)
          case atStart => exact ⟨0, C2, F2, ss2, ks2, rfl, by omega, HV2.out, HG2.out, fun j hj => absurd hj (by omega), fun j _ hj => absurd hj (by omega), HB2'.out⟩
          case round =>
            obtain ⟨k3, C3, F3, ss3, ks3, rfl, hk3, hV3, hG3, hS3, hK3, hB3⟩ := hrel
            have HB3' := hide0 hB3
            have HV3 := hide0 hV3
            have HG3 := hide0 hG3
            have HS3 := hide0 hS3
            have HK3 := hide0 hK3
            by_cases hlt3 : k3 < 12
            · have hlt3' : (k3 : Int) < 12 := by omega
              have HMZ := hide0 (HMV.out lb lc P X D C R C3 F3 sb cb k3 hlt3 ss3 ks3 _ hV3 hG3 hB3.size)
              clear hV3 hG3 hB3 hS3 hK3
              go_wp2_with fail
              refine HMZ.out.mono ?_
              rintro e w7 ⟨rfl, ⟨C7, F7, ss7, ks7, hV7, hG7, hP7⟩, hb7⟩
              have HV7 := hide0 hV7
              have HG7 := hide0 hG7
              have HP7 := hide0 hP7
              have HB7 := hide0 (HB3'.out.trans hb7)
              clear hV7 hG7 hP7 hb7
              go_wp2
              go_roundg (gk - 1)
              case measure => omega
              case rel =>
                refine ⟨k3 + 1, C7, F7, ss7, ks7, by go_num, by omega, HV7.out, HG7.out, fun j hj hj3 => ?_, fun j hj9 hj => ?_, HB7.out⟩
                · by_cases e : j = k3
                  · subst e; exact HP7.out.a hj3
                  · exact HP7.out.s j hj3 (HS3.out j (by omega) hj3)
                · by_cases e : 3 + j = k3
                  · have q := HP7.out.b (j / 3) (j % 3) (by omega) (by omega) (by omega) (HS3.out (j / 3) (by omega) (by omega))
                    have ej : 3 * (j / 3) + j % 3 = j := by omega
                    rw [ej] at q; exact q
                  · exact HP7.out.c j hj9 (HK3.out j hj9 (by omega))
            · have hd3 : decide ((k3 : Int) < 12) = false := by simp; omega
              have HEQ := hide0 (all_met hG3 HL.out (fun V h => HLE.out V h) (fun j hj => hK3 j hj (by omega)) hV3.ms.ok)
              have HMF := hide0 hV3.ms
              clear hV3 hG3 hB3 hS3 hK3
              go_wp2
              go_loopg [20, 21] (3) (fun mm i u21 wz => ∃ (k : Nat), i = .int .i64 (k : Nat) ∧ k + mm = 3 ∧ MS wz w.heap.size m lb lc P X D C3 F3 ∧ Below w.heap.size w wz)
              case atStart => exact ⟨0, rfl, by omega, HMF.out, HB3'.out⟩
              case round =>
                obtain ⟨k4, rfl, hk4, hM4, hB4⟩ := hrel
                have HB4' := hide0 hB4
                have HM4' := hide0 hM4
                by_cases hlt4 : k4 < 3
                · have hlt4' : (k4 : Int) < 3 := by omega
                  have l0 := hM4.lst k4 hlt4
                  obtain ⟨p0, p1, p2⟩ := peer_cells (hM4.peer k4 hlt4)
                  have HSHk := HSH.out (X k4) (C3 k4) (F3 k4) _ (hM4.node k4 hlt4) (hM4.ok k4 hlt4).fits
                  rw [HEQ.out k4 hlt4] at HSHk
                  have HSHk := hide0 HSHk
                  have hsB4 := hB4.size
                  have hee := eqlB s
                  have hnn : (s.toList != s.toList) = false := by simp
                  clear hM4 hB4
                  go_wp2_with fail
                  refine HSHk.out.mono ?_
                  rintro e w5 ⟨rfl, hb5⟩
                  have HM5 := hide0 (HM4'.out.step hb5)
                  have HB5 := hide0 (HB4'.out.trans (hb5.mono hsB4))
                  clear hb5 l0 p0 p1 p2
                  go_wp2
                  go_roundg (gk - 1)
                  case measure => omega
                  case rel => exact ⟨k4 + 1, by go_num, by omega, HM5.out, HB5.out⟩
                · have hd4 : decide ((k4 : Int) < 3) = false := by simp; omega
                  clear hM4 hB4
                  go_wp2
                  go_ret
                  exact ⟨rfl, HB4'.out⟩

end Go.Proofs.Ytmlcblnndihjoab
