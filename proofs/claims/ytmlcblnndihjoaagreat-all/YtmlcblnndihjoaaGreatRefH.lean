import Derived.Test.YtmlcblnndihjoaaGreatRefG
set_option linter.unusedSimpArgs false
set_option linter.unusedVariables false
namespace Go.Proofs.YtmlcblnndihjoaaGreat
open Go.RowKit

theorem addr_add (b o j : Nat) : (⟨b, o, none⟩ : Addr).add j = ⟨b, o + j, none⟩ := by unfold Addr.add; split <;> simp_all

theorem copy_run (n : Nat) (wx : World) (vb xb xo xcap : Nat) (cur : Array Value) (cs : List Value) (hs : cur.size = n) (hz : Blk wx vb cur 3) (hl : cs.length = n) (hc : ∀ j y, cs[j]? = some y → wx.cell? ⟨xb, xo + j, none⟩ = some y) (h1 : ∀ y ∈ cs, y.oneCell' = true) :
    (Builtin.copy_ #[23, 23] 3 #[.slice (some ⟨vb, 0, none⟩) n n, .slice (some ⟨xb, xo, none⟩) n xcap]).run Tryz.prog wx = .ok (goInt n) (wx.setRow vb cs.toArray) := by
  have t := run_copy_row (P := Tryz.prog) wx 23 23 3 3 vb 0 n n ⟨xb, xo, none⟩ n xcap cur 3 cs Tryz.underlying23 (by kernel_rfl) hz (by simp [hl]) (fun j y hj => by rw [addr_add]; exact hc j y hj) (by omega) h1
  have e : cur.toList.take 0 ++ cs ++ cur.toList.drop (0 + cs.length) = cs := by
    rw [hl, List.drop_eq_nil_of_le (by simp [hs])]; simp
  rw [e, hl] at t; exact t

theorem eq22 (w : World) (a : Option Addr) (m c : Nat) : (binOp .eql 23 (.slice a m c) (.slice none 0 0)).run Tryz.prog w = .ok (.bool a.isNone) w := Lib.run_eql_slice_nil w _ _ a _ _ _ _ Tryz.underlying23

/-- what stairs hands back -/
def StairsEnd (n : Nat) (w : World) (zss : List (List Int)) (e : Ending) (w' : World) : Prop :=
  ∃ g xs bs S, Lat.CanonOf S (vecs zss) ∧ e = .returned (.slice (some ⟨g, 0, none⟩) n n) ∧ AtS n w' w.heap.size g xs bs (rw3 S) ∧ Below w.heap.size w w'

theorem AtS.below {n : Nat} {w w' : World} {B g : Nat} {xs : Nat → Value} {bs : Nat → Nat} {R : Nat → Lat.V} (h : AtS n w B g xs bs R) (hb : Below w.heap.size w w') : AtS n w' B g xs bs R := by
  refine ⟨h.blk.below hb h.blk.lt, h.base, fun c hc => ?_, h.apart⟩
  rcases h.row c hc with h1 | ⟨e1, e2, e3, e4, e5⟩
  · exact Or.inl h1
  · exact Or.inr ⟨e1, e2, e3.below hb e3.lt, e4, e5⟩

theorem AtS.lt {n : Nat} {w : World} {B g : Nat} {xs : Nat → Value} {bs : Nat → Nat} {R : Nat → Lat.V} (h : AtS n w B g xs bs R) {c : Nat} (hc : c < n) (hx : xs c ≠ nilS) : bs c < w.heap.size := by
  rcases h.row c hc with ⟨e, _⟩ | ⟨_, _, e3, _⟩
  · exact absurd e hx
  · exact e3.lt

/-- one column is done -/
def ColEnd (n c : Nat) (w : World) (B g : Nat) (R : Nat → Lat.V) (v : Lat.V) (s7 : Value) (wx : World) : Prop :=
  ∃ xs bs vb a' v', Lat.Swept c (R c) v a' v' ∧ Col n wx B g xs bs (fun d => if d = c then a' else R d) vb v' ∧ s7 = .slice (some ⟨vb, 0, none⟩) n n ∧ Below B w wx

theorem colIdle {n c : Nat} {w wx : World} {B g : Nat} {xs : Nat → Value} {bs : Nat → Nat} {R : Nat → Lat.V} {vb : Nat} {v : Lat.V} (h : Col n wx B g xs bs R vb v) (hc : c < n) (hz : v.at c = 0) (hb : Below B w wx) : ColEnd n c w B g R v (.slice (some ⟨vb, 0, none⟩) n n) wx := by
  refine ⟨xs, bs, vb, R c, v, swept_idle hz ?_, h.congr (fun d hd => ?_), rfl, hb⟩
  · rcases h.ats.row c hc with ⟨_, e⟩ | ⟨_, e, _⟩
    · rw [e]
      have : (⟨0, 0, 0⟩ : Lat.V).at c = 0 := by
        by_cases h0 : c = 0
        · subst h0; rfl
        · by_cases h1 : c = 1
          · subst h1; rfl
          · simp [Lat.V.at, h0, h1]
      omega
    · omega
  · by_cases e : d = c
    · simp [e]
    · simp [e]

theorem colFold {n c : Nat} {w wx wa w1 w2 : World} {B g : Nat} {xs : Nat → Value} {bs : Nat → Nat} {R : Nat → Lat.V} {vb : Nat} {v : Lat.V} (h : Col n wx B g xs bs R vb v) (hc : c < n) (hz : v.at c ≠ 0) (hb : Below B w w2)
    {pa p q : Nat} {a' b' : Lat.V} {x : Value} (hs : Lat.Swept c (R c) v a' b') (ka : ∀ m, m < wx.heap.size → m ≠ g → wa.heap[m]? = wx.heap[m]?) (kg : Blk wa g ((List.range n).map (fun d => if d = c then x else xs d)).toArray 23)
    (hpa : B ≤ pa) (hpg : pa ≠ g) (hpv : pa ≠ vb) (hpd : ∀ d, d < n → d ≠ c → xs d ≠ nilS → pa ≠ bs d)
    (hU : Upd2 wa w1 pa vb) (hpq : (p = pa ∧ q = vb) ∨ (p = vb ∧ q = pa)) (hp : Blk w1 p ((cutV n a').map (Value.int .i64)).toArray 3) (hq : Blk w1 q ((cutV n b').map (Value.int .i64)).toArray 3)
    (h2 : w2.heap = (w1.setCell ⟨g, c, none⟩ (.slice (some ⟨p, 0, none⟩) n n)).heap) : ColEnd n c w B g R v (.slice (some ⟨q, 0, none⟩) n n) w2 :=
  ⟨_, _, q, a', b', hs, h.fold hc ka kg hpa hpg hpv hpd hU hpq hp hq (swept_pos hs hz) h2, rfl, hb⟩

theorem self_upd (xs : Nat → Value) (c : Nat) : (fun d => if d = c then xs c else xs d) = xs := by
  funext d; by_cases e : d = c <;> simp [e]
theorem colNew {n c : Nat} {W wq : World} {B g : Nat} {xs : Nat → Value} {bs : Nat → Nat} {R : Nat → Lat.V} {vb : Nat} {v : Lat.V} {zs : Array Value} {x : Value} (h : Col n W B g xs bs R vb v) (hc : c < n)
    (hq : wq.heap = ((W.alloc (.cells zs 3)).setCell ⟨g, c, none⟩ x).heap) :
    (∀ m, m < W.heap.size → m ≠ g → wq.heap[m]? = W.heap[m]?) ∧ Blk wq g ((List.range n).map (fun d => if d = c then x else xs d)).toArray 23 ∧ Blk wq W.heap.size zs 3 ∧ Blk wq vb ((cutV n v).map (Value.int .i64)).toArray 3 ∧
    B ≤ W.heap.size ∧ W.heap.size ≠ g ∧ W.heap.size ≠ vb ∧ (∀ d, d < n → d ≠ c → xs d ≠ nilS → W.heap.size ≠ bs d) := by
  have hlg := h.ats.blk.lt
  have hlv := h.vblk.lt
  have hB := h.ats.base
  have k1 : ∀ m, m < W.heap.size → m ≠ g → wq.heap[m]? = W.heap[m]? := fun m hm hg => by
    rw [hq, Below.heap_setCell _ ⟨g, c, none⟩ _ m hg]
    exact ((Below.refl W.heap.size W).alloc (Nat.le_refl _) _).block m hm
  refine ⟨k1, ?_, ?_, ?_, by omega, by omega, by omega, fun d hd he hx => by have := h.ats.lt hd hx; omega⟩
  · have := (h.ats.blk.alloc (.cells zs 3)).set c x
    rw [map_set _ _ hc] at this
    unfold Blk at this ⊢; rw [hq]; exact this
  · have := (Blk.new W zs 3 rfl).other (a := ⟨g, c, none⟩) (show ¬ W.heap.size = g by omega) x
    unfold Blk at this ⊢; rw [hq]; exact this
  · unfold Blk; rw [k1 vb hlv h.vg]; exact h.vblk
theorem Col.cg {n : Nat} {w : World} {B g : Nat} {xs : Nat → Value} {bs : Nat → Nat} {R : Nat → Lat.V} {vb : Nat} {v : Lat.V} (h : Col n w B g xs bs R vb v) {c : Nat} (hc : c < n) : w.cell? ⟨g, c, none⟩ = some (xs c) := by
  rw [h.ats.blk.cell c]; simp [hc]
theorem Col.fg {n : Nat} {w : World} {B g : Nat} {xs : Nat → Value} {bs : Nat → Nat} {R : Nat → Lat.V} {vb : Nat} {v : Lat.V} (h : Col n w B g xs bs R vb v) (c : Nat) : w.frozen? ⟨g, c, none⟩ = false := h.ats.blk.frozen c

theorem make26_1 (w : World) : (Instr.makeSlice 33 (.int .i64 1) (.int .i64 1)).run Tryz.prog w = .ok (.slice (some ⟨w.heap.size, 0, none⟩) 1 1) (w.alloc (.cells #[.slice none 0 0] 23)) := by
  have h := run_make_row' (P := Tryz.prog) 33 23 (.slice none 0 0) 24 Tryz.underlying33 Tryz.info23 rfl .i64 .i64 1 (by omega) (by omega) w
  have e : madeCells #[Value.slice none 0 0] 1 = #[.slice none 0 0] := by kernel_rfl
  rw [e] at h; exact h

set_option maxRecDepth 100000 in
set_option maxHeartbeats 4000000 in
theorem stairs1 (v : Value) (zss : List (List Int)) (w : World) (hv : RowsAt w v zss) (hl : zss.length ≤ 100) (hg : zss.all (goodB 1) = true) :
    Calls Tryz.prog 60 #[.int .i64 1, v] w fun e w' => StairsEnd 1 w zss e w' := by
  have HG : Hid (zss.all (goodB 1) = true) := hg
  have HV : Hid (RowsAt w v zss) := hv
  clear hg
  obtain ⟨a, cap, rfl⟩ := hv.slice
  clear hv
  have hmk := make1
  have hmk6 := make26_1
  have hq1 : ∀ (w : World) (a : Addr) (m c : Nat), (binOp .eql 23 (.slice (some a) m c) (.slice none 0 0)).run Tryz.prog w = .ok (.bool false) w := fun w a m c => eq22 w (some a) m c
  have hq2 : ∀ (w : World), (binOp .eql 23 (.slice none 0 0) (.slice none 0 0)).run Tryz.prog w = .ok (.bool true) w := fun w => eq22 w none 0 0
  go_enter Tryz.func60, Tryz.ntmps60
  go_wp2
  go_loopg [6] (zss.length) (fun m i wr => ∃ (k : Nat) (S : Lat.St) (xs : Nat → Value) (bs : Nat → Nat), k + m = zss.length ∧ i = .int .i64 k ∧ Lat.CanonOf S (vecs (zss.take k)) ∧ AtS 1 wr w.heap.size w.heap.size xs bs (rw3 S) ∧ Below w.heap.size w wr)
  case atStart =>
    refine ⟨0, ⟨⟨0, 0, 0⟩, ⟨0, 0, 0⟩, ⟨0, 0, 0⟩⟩, fun _ => nilS, fun _ => 0, by omega, rfl, Lat.CanonOf.nil, ⟨Blk.new w _ _ rfl, Nat.le_refl _, fun c hc => Or.inl ⟨rfl, ?_⟩, fun c d hc hd hne h1 => absurd rfl h1⟩, by go_grown⟩
    unfold rw3; split
    · rfl
    · split <;> rfl
  case round =>
    obtain ⟨k, S, xs, bs, hk, rfl, hC, hA, hB⟩ := hrel
    have HC := hide hC
    have HA := hide hA
    clear hC hA
    by_cases hlt : k < zss.length
    · have hgk : goodB 1 (zss.getD k []) = true := by
        have := HG.out; rw [List.all_eq_true] at this; exact this _ (getD_memR hlt)
      have hgl := good_le hgk
      rcases HV.out with ⟨e0, _⟩ | ⟨_, b, o, cap', e1, hc⟩
      · rw [e0] at hlt; simp at hlt
      injection e1 with e2 e3 e4
      subst e2
      obtain ⟨x, hcell, hx⟩ := hc k hlt
      have hlen : (zss.getD k []).length = 1 := by omega
      have hxw := hx.below hB
      have hcw := cell_below hB hcell
      rcases hxw with ⟨e0, _⟩ | ⟨_, xb, xo, xcap, e1, hxc⟩
      · rw [e0] at hlen; simp at hlen
      rw [hlen] at e1 hxc
      subst e1
      have HE : Hid (vecs (zss.take (k + 1)) = vecOf (zss.getD k []) :: vecs (zss.take k)) := by
        show vecs (zss.take (k + 1)) = _
        rw [take_snocR hlt, vecs_snoc]
      have HL := hide hgl.1
      have HF : Hid (Flat 1 S) := flat_of HC.out (fun zs hz => by
        have h1 := all_takeT HG.out k
        rw [List.all_eq_true] at h1
        have := (good_le (h1 zs hz)).2; omega)
      have HVF := hide (vecOf_flat hlen)
      have HLE := hide (vecs_le (all_takeT HG.out k))
      have HXC : Hid (∀ j y, [Value.int .i64 (vecOf (zss.getD k [])).x][j]? = some y → wr.cell? ⟨xb, xo + j, none⟩ = some y) := fun j y hj => by
        have hj3 : j < 1 := by
          have := (List.getElem?_eq_some_iff.1 hj).1; simpa only [List.length_cons, List.length_nil] using this
        rw [hxc j hj3]
        have hcs : j = 0 := by omega
        subst hcs <;> exact hj
      clear hgk hgl hc hcell hx e3 e4 hxc hlen
      generalize vecOf (zss.getD k []) = u at *
      have hlb := HA.out.blk.lt
      have hkz := decide_eq_true (show (k : Int) < (zss.length : Int) by omega)
      have HK := hide hk
      clear hk
      go_upto_block 1 with fail
      go_cut [7] (fun s7 wx => ∃ (S' : Lat.St) (xs' : Nat → Value) (bs' : Nat → Nat), Lat.CanonOf S' (vecs (zss.take (k + 1))) ∧ AtS 1 wx w.heap.size w.heap.size xs' bs' (rw3 S') ∧ Below w.heap.size w wx)
      case first =>
        go_upto_region 5 with fail
        go_cut [7] (fun s7 wx => s7 = .slice (some ⟨wr.heap.size, 0, none⟩) 1 1 ∧ Blk wx wr.heap.size #[.int .i64 0] 3 ∧ Below wr.heap.size wr wx)
        case first =>
          go_wp2
          go_meet
          exact ⟨rfl, Blk.new wr _ _ rfl, by go_grown⟩
        case rest =>
        rename World => wx
        obtain ⟨rfl, hz, hb1⟩ := hcut
        have hcx := cell_below hb1 hcw
        go_upto_region 6 with fail
        go_cut [] (fun wy => Blk wy wr.heap.size #[.int .i64 u.x] 3 ∧ Below wr.heap.size wr wy)
        case first =>
          have hcp := copy_run 1 wx wr.heap.size xb xo xcap _ [Value.int .i64 u.x] rfl hz rfl (fun j y hj => cell_below hb1 (HXC.out j y hj)) (by simp [Value.oneCell'])
          go_wp2
          go_meet
          refine ⟨?_, ?_⟩
          · exact setRow_heap wx _ _ _ 3 _ hz
          · exact below_setRow hb1 (Nat.le_refl _) _
        case rest =>
        rename World => wy
        obtain ⟨hvb, hb2⟩ := hcut
        have HK0 : Hid (Col 1 wy w.heap.size w.heap.size xs bs (rw3 S) wr.heap.size u) :=
          ⟨HA.out.below hb2, hvb, hB.size, by omega, fun c hc hx => by have := HA.out.lt hc hx; omega⟩
        have hB0 : Below w.heap.size w wy := hB.trans (hb2.mono hB.size)
        clear hvb hb2 hz hb1 hcx hcw hlb hkz hB HA HXC
        generalize wr.heap.size = vb0 at *
        go_wp2
        refine wp_loop_rounds 2 ?_

        rw [rounds_succ]
        go_upto_block 3 with fail
        go_cut [7] (fun s7 wz => ColEnd 1 0 w w.heap.size w.heap.size (rw3 S) u s7 wz)
        case first =>
          have kv : wy.cell? ⟨vb0, 0, none⟩ = some (.int .i64 u.x) := HK0.out.vblk.cell 0
          have HBB := hide hB0
          by_cases hz : u.x = 0
          · have hz' : (u.x == 0) = true := by simpa using hz
            have HZ := hide hz
            clear hz hB0
            go_wp2
            go_meet
            exact colIdle HK0.out (by omega) HZ.out HBB.out
          · have hz' : (u.x == 0) = false := by simpa using hz
            have HZ := hide hz
            have kg := HK0.out.cg (c := 0) (by omega)
            have fg := HK0.out.fg 0
            have HR := hide (HK0.out.ats.row 0 (by omega))
            clear hz hB0
            rcases HR.out with ⟨hx, hR⟩ | ⟨hx, hpos, hblk, hbase, hbg⟩
            · rw [hx] at kg
              unfold nilS at kg
              have hba := HK0.out.ats.blk.alloc (.cells #[.int .i64 0] 3)
              have kga : (wy.alloc (.cells #[.int .i64 0] 3)).cell? ⟨w.heap.size, 0, none⟩ = some (.slice none 0 0) := (hba.cell 0).trans (by have := hx; unfold nilS at this; simp [this])
              have kfa := hba.frozen 0
              have HX := hide hx
              have HRr := hide hR
              have HBA := hide hba
              clear hx hR hba kg fg
              have kg := HK0.out.cg (c := 0) (by omega)
              rw [HX.out] at kg
              unfold nilS at kg
              go_upto_region 12 with fail
              go_cut [] (fun wq => wq.heap = ((wy.alloc (.cells #[.int .i64 0] 3)).setCell ⟨w.heap.size, 0, none⟩ (.slice (some ⟨wy.heap.size, 0, none⟩) 1 1)).heap ∧ Below w.heap.size w wq)
              case first =>
                go_wp2
                go_meet
                exact ⟨rfl, (HBB.out.alloc HBB.out.size _).setCell (p := ⟨w.heap.size, 0, none⟩) (Nat.le_refl _) _⟩
              case rest =>
              rename World => wq
              obtain ⟨hq, hbq⟩ := hcut
              obtain ⟨n1, n2, n3, n4, n5, n6, n7, n8⟩ := colNew HK0.out (c := 0) (by omega) hq
              have kq : wq.cell? ⟨w.heap.size, 0, none⟩ = some (.slice (some ⟨wy.heap.size, 0, none⟩) 1 1) := (n2.cell 0).trans (by simp)
              have HF : Hid (Calls Tryz.prog 79 #[.slice (some ⟨wy.heap.size, 0, none⟩) 1 1, .slice (some ⟨vb0, 0, none⟩) 1 1, .int .i64 0] wq fun e w' => Fold10 ⟨0, 0, 0⟩ u wy.heap.size vb0 wq w' e) :=
                fold10 ⟨0, 0, 0⟩ u wy.heap.size vb0 wq n3 n4 n7 (by have t := (Lat.room0 HC.out HLE.out HL.out); have e : S.a = ⟨0, 0, 0⟩ := HRr.out; rw [e] at t; exact t)
              have HN := hide (And.intro n1 (And.intro n2 (And.intro n5 (And.intro n6 (And.intro n7 n8)))))
              have HQB := hide hbq
              clear n1 n2 n3 n4 n5 n6 n7 n8 hq hbq kg kga kfa
              go_wp2_with fail
              refine HF.out.mono ?_
              rintro e w1 ⟨p, q, a', b', hS, rfl, hpq, hU, hp, hq⟩
              have kb1 : Blk w1 w.heap.size ((List.range 1).map (fun d => if d = 0 then (.slice (some ⟨wy.heap.size, 0, none⟩) 1 1) else xs d)).toArray 23 := by
                unfold Blk; rw [hU.keep _ (fun e => HN.out.2.2.2.1 e.symm) (fun e => HK0.out.vg e.symm)]; exact HN.out.2.1
              have kc1 : w1.cell? ⟨w.heap.size, 0, none⟩ = some (.slice (some ⟨wy.heap.size, 0, none⟩) 1 1) := (kb1.cell 0).trans (by simp)
              have kf1 := kb1.frozen 0
              have HS := hide hS
              have HPQ := hide hpq
              have HUU := hide hU
              have HPP := hide hp
              have HQQ := hide hq
              have HB1 := hide (HQB.out.trans (hU.below HN.out.2.2.1 HK0.out.vbase))
              clear hS hpq hU hp hq kb1 kq
              go_wp2
              go_meet
              exact colFold (c := 0) HK0.out (by omega) HZ.out (HB1.out.setCell (p := ⟨w.heap.size, 0, none⟩) (Nat.le_refl _) _) (by have t := HS.out; have e : S.a = ⟨0, 0, 0⟩ := HRr.out; rw [← e] at t; exact t) HN.out.1 HN.out.2.1 HN.out.2.2.1 HN.out.2.2.2.1 HN.out.2.2.2.2.1 HN.out.2.2.2.2.2 HUU.out HPQ.out HPP.out HQQ.out rfl
            · rw [hx] at kg
              have HF : Hid (∀ w0, w0.heap = wy.heap → Calls Tryz.prog 79 #[.slice (some ⟨(bs 0), 0, none⟩) 1 1, .slice (some ⟨vb0, 0, none⟩) 1 1, .int .i64 0] w0 fun e w' => Fold10 S.a u (bs 0) vb0 w0 w' e) := fun w0 hw0 =>
                fold10 S.a u (bs 0) vb0 w0 (by unfold Blk; rw [hw0]; exact hblk) (by unfold Blk; rw [hw0]; exact HK0.out.vblk) (fun e => HK0.out.vrow 0 (by omega) (by rw [hx]; exact slice_ne_nil _ _) e.symm) (Lat.room0 HC.out HLE.out HL.out)
              have HBK := hide hblk
              have HBS := hide hbase
              have HBG := hide hbg
              have HX := hide hx
              have HP := hide hpos
              clear hblk hbase hbg hx hpos
              go_wp2_with fail
              refine (HF.out wy rfl).mono ?_
              rintro e w1 ⟨p, q, a', b', hS, rfl, hpq, hU, hp, hq⟩
              have kb1 : Blk w1 w.heap.size ((List.range 1).map xs).toArray 23 := by
                unfold Blk; rw [hU.keep _ (fun e => HBG.out e.symm) (fun e => HK0.out.vg e.symm)]; exact HK0.out.ats.blk
              have kc1 : w1.cell? ⟨w.heap.size, 0, none⟩ = some (.slice (some ⟨(bs 0), 0, none⟩) 1 1) := (kb1.cell 0).trans (by have := HX.out; simp [this])
              have kf1 := kb1.frozen 0
              have HS := hide hS
              have HPQ := hide hpq
              have HUU := hide hU
              have HPP := hide hp
              have HQQ := hide hq
              have HB1 := hide (HBB.out.trans (hU.below HBS.out HK0.out.vbase))
              have HNX : Hid (xs 0 ≠ nilS) := by show xs 0 ≠ nilS; rw [HX.out]; exact slice_ne_nil _ _
              clear hS hpq hU hp hq kb1 kg fg
              go_wp2
              go_meet
              exact colFold (c := 0) HK0.out (by omega) HZ.out (HB1.out.setCell (p := ⟨w.heap.size, 0, none⟩) (Nat.le_refl _) _) HS.out (x := xs 0) (fun m _ _ => rfl) (by rw [self_upd]; exact HK0.out.ats.blk) HBS.out HBG.out (fun e => HK0.out.vrow 0 (by omega) HNX.out e.symm) (fun d hd he hx => HK0.out.ats.apart 0 d (by omega) hd (fun e => he e.symm) HNX.out hx) HUU.out HPQ.out HPP.out HQQ.out rfl
        case rest =>
        rename World => wz0
        obtain ⟨xs1, bs1, vb1, a1, v1, hS0, hCol, rfl, hB1⟩ := hcut
        have HS0 := hide hS0
        have HK1 := hide hCol
        clear hS0 hCol hB0
        go_wp2

        rw [rounds_succ]
        have HOK := hide (oksR HC.out HLE.out HL.out HS0.out (swept_idle (swept_at HS0.out 1 (HF.out.y (by omega)).1 (HVF.out.2 (by omega))).2 (HC.out.shape.by0)) (swept_idle ((swept_at HS0.out 2 (HF.out.z (by omega)).1 (HVF.out.1 (by omega))).2) (HC.out.shape.cz)))
        have HT : Hid (∀ w0, w0.heap = wz0.heap → Calls Tryz.prog 80 #[.int .i64 1, .slice (some ⟨w.heap.size, 0, none⟩) 1 1] w0 fun e w' => e = .returned (.tuple #[]) ∧ AtS 1 w' w.heap.size w.heap.size xs1 bs1 (rw3 (Lat.red (⟨a1, S.b, S.c⟩ : Lat.St).a (⟨a1, S.b, S.c⟩ : Lat.St).b (⟨a1, S.b, S.c⟩ : Lat.St).c)) ∧ Below w.heap.size w0 w') := fun w0 hw0 =>
          tidy1 (⟨a1, S.b, S.c⟩ : Lat.St) w.heap.size w.heap.size xs1 bs1 w0 HOK.out.1 HOK.out.2.1 (Lat.V.same HC.out.shape.cx HC.out.shape.cy (HF.out.z (by omega)).2.2) (Lat.V.same HC.out.shape.bx (HF.out.y (by omega)).2 (HF.out.z (by omega)).2.1) ((HK1.out.ats.congr (fun c hc => by
            have hcs : c = 0 := by omega
            subst hcs <;> rfl)).heap hw0)
        have HCN : Hid (Lat.CanonOf (Lat.red (⟨a1, S.b, S.c⟩ : Lat.St).a (⟨a1, S.b, S.c⟩ : Lat.St).b (⟨a1, S.b, S.c⟩ : Lat.St).c) (vecs (zss.take (k + 1)))) := by
          show Lat.CanonOf _ (vecs (zss.take (k + 1)))
          rw [HE.out]; exact Lat.with_canon HC.out HS0.out (swept_idle (swept_at HS0.out 1 (HF.out.y (by omega)).1 (HVF.out.2 (by omega))).2 (HC.out.shape.by0)) (swept_idle ((swept_at HS0.out 2 (HF.out.z (by omega)).1 (HVF.out.1 (by omega))).2) (HC.out.shape.cz))
        have HBF := hide hB1
        clear hB1
        go_wp2_with fail
        refine (HT.out wz0 rfl).mono ?_
        rintro e w2 ⟨rfl, hA2, hb2⟩
        have HA2 := hide hA2
        have HB2 := hide (HBF.out.trans hb2)
        clear hA2 hb2
        go_wp2
        go_meet
        exact ⟨_, _, _, HCN.out, HA2.out, HB2.out⟩
      case rest =>
      rename World => wN
      obtain ⟨S', xs', bs', hC', hA', hB'⟩ := hcut
      have HC' := hide hC'
      have HA' := hide hA'
      have HB' := hide hB'
      clear hC' hA' hB' hB
      go_wp2
      go_roundg (gk - 1)
      case measure => have := HK.out; omega
      case rel => exact ⟨k + 1, S', xs', bs', by have := HK.out; omega, by have t : wrap64 ((k : Int) + 1) = (k : Int) + 1 := IntWalk.wrap64_in _ (by omega); simp [t], HC'.out, HA'.out, HB'.out⟩
    · have hk0 : k = zss.length := by omega
      subst hk0
      have HB' := hide hB
      clear hB
      go_wp2
      go_ret
      exact ⟨_, xs, bs, S, by have t := HC.out; rw [List.take_length] at t; exact t, rfl, HA.out, HB'.out⟩

theorem make26_2 (w : World) : (Instr.makeSlice 33 (.int .i64 2) (.int .i64 2)).run Tryz.prog w = .ok (.slice (some ⟨w.heap.size, 0, none⟩) 2 2) (w.alloc (.cells #[.slice none 0 0, .slice none 0 0] 23)) := by
  have h := run_make_row' (P := Tryz.prog) 33 23 (.slice none 0 0) 24 Tryz.underlying33 Tryz.info23 rfl .i64 .i64 2 (by omega) (by omega) w
  have e : madeCells #[Value.slice none 0 0] 2 = #[.slice none 0 0, .slice none 0 0] := by kernel_rfl
  rw [e] at h; exact h

set_option maxRecDepth 100000 in
set_option maxHeartbeats 4000000 in
theorem stairs2 (v : Value) (zss : List (List Int)) (w : World) (hv : RowsAt w v zss) (hl : zss.length ≤ 100) (hg : zss.all (goodB 2) = true) :
    Calls Tryz.prog 60 #[.int .i64 2, v] w fun e w' => StairsEnd 2 w zss e w' := by
  have HG : Hid (zss.all (goodB 2) = true) := hg
  have HV : Hid (RowsAt w v zss) := hv
  clear hg
  obtain ⟨a, cap, rfl⟩ := hv.slice
  clear hv
  have hmk := make2
  have hmk6 := make26_2
  have hq1 : ∀ (w : World) (a : Addr) (m c : Nat), (binOp .eql 23 (.slice (some a) m c) (.slice none 0 0)).run Tryz.prog w = .ok (.bool false) w := fun w a m c => eq22 w (some a) m c
  have hq2 : ∀ (w : World), (binOp .eql 23 (.slice none 0 0) (.slice none 0 0)).run Tryz.prog w = .ok (.bool true) w := fun w => eq22 w none 0 0
  go_enter Tryz.func60, Tryz.ntmps60
  go_wp2
  go_loopg [6] (zss.length) (fun m i wr => ∃ (k : Nat) (S : Lat.St) (xs : Nat → Value) (bs : Nat → Nat), k + m = zss.length ∧ i = .int .i64 k ∧ Lat.CanonOf S (vecs (zss.take k)) ∧ AtS 2 wr w.heap.size w.heap.size xs bs (rw3 S) ∧ Below w.heap.size w wr)
  case atStart =>
    refine ⟨0, ⟨⟨0, 0, 0⟩, ⟨0, 0, 0⟩, ⟨0, 0, 0⟩⟩, fun _ => nilS, fun _ => 0, by omega, rfl, Lat.CanonOf.nil, ⟨Blk.new w _ _ rfl, Nat.le_refl _, fun c hc => Or.inl ⟨rfl, ?_⟩, fun c d hc hd hne h1 => absurd rfl h1⟩, by go_grown⟩
    unfold rw3; split
    · rfl
    · split <;> rfl
  case round =>
    obtain ⟨k, S, xs, bs, hk, rfl, hC, hA, hB⟩ := hrel
    have HC := hide hC
    have HA := hide hA
    clear hC hA
    by_cases hlt : k < zss.length
    · have hgk : goodB 2 (zss.getD k []) = true := by
        have := HG.out; rw [List.all_eq_true] at this; exact this _ (getD_memR hlt)
      have hgl := good_le hgk
      rcases HV.out with ⟨e0, _⟩ | ⟨_, b, o, cap', e1, hc⟩
      · rw [e0] at hlt; simp at hlt
      injection e1 with e2 e3 e4
      subst e2
      obtain ⟨x, hcell, hx⟩ := hc k hlt
      have hlen : (zss.getD k []).length = 2 := by omega
      have hxw := hx.below hB
      have hcw := cell_below hB hcell
      rcases hxw with ⟨e0, _⟩ | ⟨_, xb, xo, xcap, e1, hxc⟩
      · rw [e0] at hlen; simp at hlen
      rw [hlen] at e1 hxc
      subst e1
      have HE : Hid (vecs (zss.take (k + 1)) = vecOf (zss.getD k []) :: vecs (zss.take k)) := by
        show vecs (zss.take (k + 1)) = _
        rw [take_snocR hlt, vecs_snoc]
      have HL := hide hgl.1
      have HF : Hid (Flat 2 S) := flat_of HC.out (fun zs hz => by
        have h1 := all_takeT HG.out k
        rw [List.all_eq_true] at h1
        have := (good_le (h1 zs hz)).2; omega)
      have HVF := hide (vecOf_flat hlen)
      have HLE := hide (vecs_le (all_takeT HG.out k))
      have HXC : Hid (∀ j y, [Value.int .i64 (vecOf (zss.getD k [])).x, Value.int .i64 (vecOf (zss.getD k [])).y][j]? = some y → wr.cell? ⟨xb, xo + j, none⟩ = some y) := fun j y hj => by
        have hj3 : j < 2 := by
          have := (List.getElem?_eq_some_iff.1 hj).1; simpa only [List.length_cons, List.length_nil] using this
        rw [hxc j hj3]
        have hcs : j = 0 ∨ j = 1 := by omega
        rcases hcs with rfl | rfl <;> exact hj
      clear hgk hgl hc hcell hx e3 e4 hxc hlen
      generalize vecOf (zss.getD k []) = u at *
      have hlb := HA.out.blk.lt
      have hkz := decide_eq_true (show (k : Int) < (zss.length : Int) by omega)
      have HK := hide hk
      clear hk
      go_upto_block 1 with fail
      go_cut [7] (fun s7 wx => ∃ (S' : Lat.St) (xs' : Nat → Value) (bs' : Nat → Nat), Lat.CanonOf S' (vecs (zss.take (k + 1))) ∧ AtS 2 wx w.heap.size w.heap.size xs' bs' (rw3 S') ∧ Below w.heap.size w wx)
      case first =>
        go_upto_region 5 with fail
        go_cut [7] (fun s7 wx => s7 = .slice (some ⟨wr.heap.size, 0, none⟩) 2 2 ∧ Blk wx wr.heap.size #[.int .i64 0, .int .i64 0] 3 ∧ Below wr.heap.size wr wx)
        case first =>
          go_wp2
          go_meet
          exact ⟨rfl, Blk.new wr _ _ rfl, by go_grown⟩
        case rest =>
        rename World => wx
        obtain ⟨rfl, hz, hb1⟩ := hcut
        have hcx := cell_below hb1 hcw
        go_upto_region 6 with fail
        go_cut [] (fun wy => Blk wy wr.heap.size #[.int .i64 u.x, .int .i64 u.y] 3 ∧ Below wr.heap.size wr wy)
        case first =>
          have hcp := copy_run 2 wx wr.heap.size xb xo xcap _ [Value.int .i64 u.x, Value.int .i64 u.y] rfl hz rfl (fun j y hj => cell_below hb1 (HXC.out j y hj)) (by simp [Value.oneCell'])
          go_wp2
          go_meet
          refine ⟨?_, ?_⟩
          · exact setRow_heap wx _ _ _ 3 _ hz
          · exact below_setRow hb1 (Nat.le_refl _) _
        case rest =>
        rename World => wy
        obtain ⟨hvb, hb2⟩ := hcut
        have HK0 : Hid (Col 2 wy w.heap.size w.heap.size xs bs (rw3 S) wr.heap.size u) :=
          ⟨HA.out.below hb2, hvb, hB.size, by omega, fun c hc hx => by have := HA.out.lt hc hx; omega⟩
        have hB0 : Below w.heap.size w wy := hB.trans (hb2.mono hB.size)
        clear hvb hb2 hz hb1 hcx hcw hlb hkz hB HA HXC
        generalize wr.heap.size = vb0 at *
        go_wp2
        refine wp_loop_rounds 3 ?_

        rw [rounds_succ]
        go_upto_block 3 with fail
        go_cut [7] (fun s7 wz => ColEnd 2 0 w w.heap.size w.heap.size (rw3 S) u s7 wz)
        case first =>
          have kv : wy.cell? ⟨vb0, 0, none⟩ = some (.int .i64 u.x) := HK0.out.vblk.cell 0
          have HBB := hide hB0
          by_cases hz : u.x = 0
          · have hz' : (u.x == 0) = true := by simpa using hz
            have HZ := hide hz
            clear hz hB0
            go_wp2
            go_meet
            exact colIdle HK0.out (by omega) HZ.out HBB.out
          · have hz' : (u.x == 0) = false := by simpa using hz
            have HZ := hide hz
            have kg := HK0.out.cg (c := 0) (by omega)
            have fg := HK0.out.fg 0
            have HR := hide (HK0.out.ats.row 0 (by omega))
            clear hz hB0
            rcases HR.out with ⟨hx, hR⟩ | ⟨hx, hpos, hblk, hbase, hbg⟩
            · rw [hx] at kg
              unfold nilS at kg
              have hba := HK0.out.ats.blk.alloc (.cells #[.int .i64 0, .int .i64 0] 3)
              have kga : (wy.alloc (.cells #[.int .i64 0, .int .i64 0] 3)).cell? ⟨w.heap.size, 0, none⟩ = some (.slice none 0 0) := (hba.cell 0).trans (by have := hx; unfold nilS at this; simp [this])
              have kfa := hba.frozen 0
              have HX := hide hx
              have HRr := hide hR
              have HBA := hide hba
              clear hx hR hba kg fg
              have kg := HK0.out.cg (c := 0) (by omega)
              rw [HX.out] at kg
              unfold nilS at kg
              go_upto_region 12 with fail
              go_cut [] (fun wq => wq.heap = ((wy.alloc (.cells #[.int .i64 0, .int .i64 0] 3)).setCell ⟨w.heap.size, 0, none⟩ (.slice (some ⟨wy.heap.size, 0, none⟩) 2 2)).heap ∧ Below w.heap.size w wq)
              case first =>
                go_wp2
                go_meet
                exact ⟨rfl, (HBB.out.alloc HBB.out.size _).setCell (p := ⟨w.heap.size, 0, none⟩) (Nat.le_refl _) _⟩
              case rest =>
              rename World => wq
              obtain ⟨hq, hbq⟩ := hcut
              obtain ⟨n1, n2, n3, n4, n5, n6, n7, n8⟩ := colNew HK0.out (c := 0) (by omega) hq
              have kq : wq.cell? ⟨w.heap.size, 0, none⟩ = some (.slice (some ⟨wy.heap.size, 0, none⟩) 2 2) := (n2.cell 0).trans (by simp)
              have HF : Hid (Calls Tryz.prog 79 #[.slice (some ⟨wy.heap.size, 0, none⟩) 2 2, .slice (some ⟨vb0, 0, none⟩) 2 2, .int .i64 0] wq fun e w' => Fold20 ⟨0, 0, 0⟩ u wy.heap.size vb0 wq w' e) :=
                fold20 ⟨0, 0, 0⟩ u wy.heap.size vb0 wq n3 n4 n7 (by have t := (Lat.room0 HC.out HLE.out HL.out); have e : S.a = ⟨0, 0, 0⟩ := HRr.out; rw [e] at t; exact t)
              have HN := hide (And.intro n1 (And.intro n2 (And.intro n5 (And.intro n6 (And.intro n7 n8)))))
              have HQB := hide hbq
              clear n1 n2 n3 n4 n5 n6 n7 n8 hq hbq kg kga kfa
              go_wp2_with fail
              refine HF.out.mono ?_
              rintro e w1 ⟨p, q, a', b', hS, rfl, hpq, hU, hp, hq⟩
              have kb1 : Blk w1 w.heap.size ((List.range 2).map (fun d => if d = 0 then (.slice (some ⟨wy.heap.size, 0, none⟩) 2 2) else xs d)).toArray 23 := by
                unfold Blk; rw [hU.keep _ (fun e => HN.out.2.2.2.1 e.symm) (fun e => HK0.out.vg e.symm)]; exact HN.out.2.1
              have kc1 : w1.cell? ⟨w.heap.size, 0, none⟩ = some (.slice (some ⟨wy.heap.size, 0, none⟩) 2 2) := (kb1.cell 0).trans (by simp)
              have kf1 := kb1.frozen 0
              have HS := hide hS
              have HPQ := hide hpq
              have HUU := hide hU
              have HPP := hide hp
              have HQQ := hide hq
              have HB1 := hide (HQB.out.trans (hU.below HN.out.2.2.1 HK0.out.vbase))
              clear hS hpq hU hp hq kb1 kq
              go_wp2
              go_meet
              exact colFold (c := 0) HK0.out (by omega) HZ.out (HB1.out.setCell (p := ⟨w.heap.size, 0, none⟩) (Nat.le_refl _) _) (by have t := HS.out; have e : S.a = ⟨0, 0, 0⟩ := HRr.out; rw [← e] at t; exact t) HN.out.1 HN.out.2.1 HN.out.2.2.1 HN.out.2.2.2.1 HN.out.2.2.2.2.1 HN.out.2.2.2.2.2 HUU.out HPQ.out HPP.out HQQ.out rfl
            · rw [hx] at kg
              have HF : Hid (∀ w0, w0.heap = wy.heap → Calls Tryz.prog 79 #[.slice (some ⟨(bs 0), 0, none⟩) 2 2, .slice (some ⟨vb0, 0, none⟩) 2 2, .int .i64 0] w0 fun e w' => Fold20 S.a u (bs 0) vb0 w0 w' e) := fun w0 hw0 =>
                fold20 S.a u (bs 0) vb0 w0 (by unfold Blk; rw [hw0]; exact hblk) (by unfold Blk; rw [hw0]; exact HK0.out.vblk) (fun e => HK0.out.vrow 0 (by omega) (by rw [hx]; exact slice_ne_nil _ _) e.symm) (Lat.room0 HC.out HLE.out HL.out)
              have HBK := hide hblk
              have HBS := hide hbase
              have HBG := hide hbg
              have HX := hide hx
              have HP := hide hpos
              clear hblk hbase hbg hx hpos
              go_wp2_with fail
              refine (HF.out wy rfl).mono ?_
              rintro e w1 ⟨p, q, a', b', hS, rfl, hpq, hU, hp, hq⟩
              have kb1 : Blk w1 w.heap.size ((List.range 2).map xs).toArray 23 := by
                unfold Blk; rw [hU.keep _ (fun e => HBG.out e.symm) (fun e => HK0.out.vg e.symm)]; exact HK0.out.ats.blk
              have kc1 : w1.cell? ⟨w.heap.size, 0, none⟩ = some (.slice (some ⟨(bs 0), 0, none⟩) 2 2) := (kb1.cell 0).trans (by have := HX.out; simp [this])
              have kf1 := kb1.frozen 0
              have HS := hide hS
              have HPQ := hide hpq
              have HUU := hide hU
              have HPP := hide hp
              have HQQ := hide hq
              have HB1 := hide (HBB.out.trans (hU.below HBS.out HK0.out.vbase))
              have HNX : Hid (xs 0 ≠ nilS) := by show xs 0 ≠ nilS; rw [HX.out]; exact slice_ne_nil _ _
              clear hS hpq hU hp hq kb1 kg fg
              go_wp2
              go_meet
              exact colFold (c := 0) HK0.out (by omega) HZ.out (HB1.out.setCell (p := ⟨w.heap.size, 0, none⟩) (Nat.le_refl _) _) HS.out (x := xs 0) (fun m _ _ => rfl) (by rw [self_upd]; exact HK0.out.ats.blk) HBS.out HBG.out (fun e => HK0.out.vrow 0 (by omega) HNX.out e.symm) (fun d hd he hx => HK0.out.ats.apart 0 d (by omega) hd (fun e => he e.symm) HNX.out hx) HUU.out HPQ.out HPP.out HQQ.out rfl
        case rest =>
        rename World => wz0
        obtain ⟨xs1, bs1, vb1, a1, v1, hS0, hCol, rfl, hB1⟩ := hcut
        have HS0 := hide hS0
        have HK1 := hide hCol
        clear hS0 hCol hB0
        go_wp2

        rw [rounds_succ]
        go_upto_block 3 with fail
        go_cut [7] (fun s7 wz => ColEnd 2 1 w w.heap.size w.heap.size (fun d => if d = 0 then a1 else (rw3 S) d) v1 s7 wz)
        case first =>
          have kv : wz0.cell? ⟨vb1, 1, none⟩ = some (.int .i64 v1.y) := HK1.out.vblk.cell 1
          have HBB := hide hB1
          by_cases hz : v1.y = 0
          · have hz' : (v1.y == 0) = true := by simpa using hz
            have HZ := hide hz
            clear hz hB1
            go_wp2
            go_meet
            exact colIdle HK1.out (by omega) HZ.out HBB.out
          · have hz' : (v1.y == 0) = false := by simpa using hz
            have HZ := hide hz
            have kg := HK1.out.cg (c := 1) (by omega)
            have fg := HK1.out.fg 1
            have HR := hide (HK1.out.ats.row 1 (by omega))
            clear hz hB1
            rcases HR.out with ⟨hx, hR⟩ | ⟨hx, hpos, hblk, hbase, hbg⟩
            · rw [hx] at kg
              unfold nilS at kg
              have hba := HK1.out.ats.blk.alloc (.cells #[.int .i64 0, .int .i64 0] 3)
              have kga : (wz0.alloc (.cells #[.int .i64 0, .int .i64 0] 3)).cell? ⟨w.heap.size, 1, none⟩ = some (.slice none 0 0) := (hba.cell 1).trans (by have := hx; unfold nilS at this; simp [this])
              have kfa := hba.frozen 1
              have HX := hide hx
              have HRr := hide hR
              have HBA := hide hba
              clear hx hR hba kg fg
              have kg := HK1.out.cg (c := 1) (by omega)
              rw [HX.out] at kg
              unfold nilS at kg
              go_upto_region 12 with fail
              go_cut [] (fun wq => wq.heap = ((wz0.alloc (.cells #[.int .i64 0, .int .i64 0] 3)).setCell ⟨w.heap.size, 1, none⟩ (.slice (some ⟨wz0.heap.size, 0, none⟩) 2 2)).heap ∧ Below w.heap.size w wq)
              case first =>
                go_wp2
                go_meet
                exact ⟨rfl, (HBB.out.alloc HBB.out.size _).setCell (p := ⟨w.heap.size, 1, none⟩) (Nat.le_refl _) _⟩
              case rest =>
              rename World => wq
              obtain ⟨hq, hbq⟩ := hcut
              obtain ⟨n1, n2, n3, n4, n5, n6, n7, n8⟩ := colNew HK1.out (c := 1) (by omega) hq
              have kq : wq.cell? ⟨w.heap.size, 1, none⟩ = some (.slice (some ⟨wz0.heap.size, 0, none⟩) 2 2) := (n2.cell 1).trans (by simp)
              have HF : Hid (Calls Tryz.prog 79 #[.slice (some ⟨wz0.heap.size, 0, none⟩) 2 2, .slice (some ⟨vb1, 0, none⟩) 2 2, .int .i64 1] wq fun e w' => Fold21 ⟨0, 0, 0⟩ v1 wz0.heap.size vb1 wq w' e) :=
                fold21 ⟨0, 0, 0⟩ v1 wz0.heap.size vb1 wq n3 n4 n7 (by have t := (Lat.room1 HC.out HLE.out HL.out HS0.out); have e : S.b = ⟨0, 0, 0⟩ := HRr.out; rw [e] at t; exact t)
              have HN := hide (And.intro n1 (And.intro n2 (And.intro n5 (And.intro n6 (And.intro n7 n8)))))
              have HQB := hide hbq
              clear n1 n2 n3 n4 n5 n6 n7 n8 hq hbq kg kga kfa
              go_wp2_with fail
              refine HF.out.mono ?_
              rintro e w1 ⟨p, q, a', b', hS, rfl, hpq, hU, hp, hq⟩
              have kb1 : Blk w1 w.heap.size ((List.range 2).map (fun d => if d = 1 then (.slice (some ⟨wz0.heap.size, 0, none⟩) 2 2) else xs1 d)).toArray 23 := by
                unfold Blk; rw [hU.keep _ (fun e => HN.out.2.2.2.1 e.symm) (fun e => HK1.out.vg e.symm)]; exact HN.out.2.1
              have kc1 : w1.cell? ⟨w.heap.size, 1, none⟩ = some (.slice (some ⟨wz0.heap.size, 0, none⟩) 2 2) := (kb1.cell 1).trans (by simp)
              have kf1 := kb1.frozen 1
              have HS := hide hS
              have HPQ := hide hpq
              have HUU := hide hU
              have HPP := hide hp
              have HQQ := hide hq
              have HB1 := hide (HQB.out.trans (hU.below HN.out.2.2.1 HK1.out.vbase))
              clear hS hpq hU hp hq kb1 kq
              go_wp2
              go_meet
              exact colFold (c := 1) HK1.out (by omega) HZ.out (HB1.out.setCell (p := ⟨w.heap.size, 1, none⟩) (Nat.le_refl _) _) (by have t := HS.out; have e : S.b = ⟨0, 0, 0⟩ := HRr.out; rw [← e] at t; exact t) HN.out.1 HN.out.2.1 HN.out.2.2.1 HN.out.2.2.2.1 HN.out.2.2.2.2.1 HN.out.2.2.2.2.2 HUU.out HPQ.out HPP.out HQQ.out rfl
            · rw [hx] at kg
              have HF : Hid (∀ w0, w0.heap = wz0.heap → Calls Tryz.prog 79 #[.slice (some ⟨(bs1 1), 0, none⟩) 2 2, .slice (some ⟨vb1, 0, none⟩) 2 2, .int .i64 1] w0 fun e w' => Fold21 S.b v1 (bs1 1) vb1 w0 w' e) := fun w0 hw0 =>
                fold21 S.b v1 (bs1 1) vb1 w0 (by unfold Blk; rw [hw0]; exact hblk) (by unfold Blk; rw [hw0]; exact HK1.out.vblk) (fun e => HK1.out.vrow 1 (by omega) (by rw [hx]; exact slice_ne_nil _ _) e.symm) (Lat.room1 HC.out HLE.out HL.out HS0.out)
              have HBK := hide hblk
              have HBS := hide hbase
              have HBG := hide hbg
              have HX := hide hx
              have HP := hide hpos
              clear hblk hbase hbg hx hpos
              go_wp2_with fail
              refine (HF.out wz0 rfl).mono ?_
              rintro e w1 ⟨p, q, a', b', hS, rfl, hpq, hU, hp, hq⟩
              have kb1 : Blk w1 w.heap.size ((List.range 2).map xs1).toArray 23 := by
                unfold Blk; rw [hU.keep _ (fun e => HBG.out e.symm) (fun e => HK1.out.vg e.symm)]; exact HK1.out.ats.blk
              have kc1 : w1.cell? ⟨w.heap.size, 1, none⟩ = some (.slice (some ⟨(bs1 1), 0, none⟩) 2 2) := (kb1.cell 1).trans (by have := HX.out; simp [this])
              have kf1 := kb1.frozen 1
              have HS := hide hS
              have HPQ := hide hpq
              have HUU := hide hU
              have HPP := hide hp
              have HQQ := hide hq
              have HB1 := hide (HBB.out.trans (hU.below HBS.out HK1.out.vbase))
              have HNX : Hid (xs1 1 ≠ nilS) := by show xs1 1 ≠ nilS; rw [HX.out]; exact slice_ne_nil _ _
              clear hS hpq hU hp hq kb1 kg fg
              go_wp2
              go_meet
              exact colFold (c := 1) HK1.out (by omega) HZ.out (HB1.out.setCell (p := ⟨w.heap.size, 1, none⟩) (Nat.le_refl _) _) HS.out (x := xs1 1) (fun m _ _ => rfl) (by rw [self_upd]; exact HK1.out.ats.blk) HBS.out HBG.out (fun e => HK1.out.vrow 1 (by omega) HNX.out e.symm) (fun d hd he hx => HK1.out.ats.apart 1 d (by omega) hd (fun e => he e.symm) HNX.out hx) HUU.out HPQ.out HPP.out HQQ.out rfl
        case rest =>
        rename World => wz1
        obtain ⟨xs2, bs2, vb2, a2, v2, hS1, hCol, rfl, hB2⟩ := hcut
        have HS1 := hide hS1
        have HK2 := hide hCol
        clear hS1 hCol hB1
        go_wp2

        rw [rounds_succ]
        have HOK := hide (oksR HC.out HLE.out HL.out HS0.out HS1.out (swept_idle ((swept_at HS1.out 2 (HF.out.z (by omega)).2.1 (swept_at HS0.out 2 (HF.out.z (by omega)).1 (HVF.out.1 (by omega))).2).2) (HC.out.shape.cz)))
        have HT : Hid (∀ w0, w0.heap = wz1.heap → Calls Tryz.prog 80 #[.int .i64 2, .slice (some ⟨w.heap.size, 0, none⟩) 2 2] w0 fun e w' => e = .returned (.tuple #[]) ∧ AtS 2 w' w.heap.size w.heap.size xs2 bs2 (rw3 (Lat.red (⟨a1, a2, S.c⟩ : Lat.St).a (⟨a1, a2, S.c⟩ : Lat.St).b (⟨a1, a2, S.c⟩ : Lat.St).c)) ∧ Below w.heap.size w0 w') := fun w0 hw0 =>
          tidy2 (⟨a1, a2, S.c⟩ : Lat.St) w.heap.size w.heap.size xs2 bs2 w0 HOK.out.1 HOK.out.2.1 (Lat.V.same HC.out.shape.cx HC.out.shape.cy (HF.out.z (by omega)).2.2) (fun h => by have t := HOK.out.2.2.2.1 h; have e : S.c = ⟨0, 0, 0⟩ := (Lat.V.same HC.out.shape.cx HC.out.shape.cy (HF.out.z (by omega)).2.2); rw [e, tid_r0] at t; exact t) ((HK2.out.ats.congr (fun c hc => by
            have hcs : c = 0 ∨ c = 1 := by omega
            rcases hcs with rfl | rfl <;> rfl)).heap hw0)
        have HCN : Hid (Lat.CanonOf (Lat.red (⟨a1, a2, S.c⟩ : Lat.St).a (⟨a1, a2, S.c⟩ : Lat.St).b (⟨a1, a2, S.c⟩ : Lat.St).c) (vecs (zss.take (k + 1)))) := by
          show Lat.CanonOf _ (vecs (zss.take (k + 1)))
          rw [HE.out]; exact Lat.with_canon HC.out HS0.out HS1.out (swept_idle ((swept_at HS1.out 2 (HF.out.z (by omega)).2.1 (swept_at HS0.out 2 (HF.out.z (by omega)).1 (HVF.out.1 (by omega))).2).2) (HC.out.shape.cz))
        have HBF := hide hB2
        clear hB2
        go_wp2_with fail
        refine (HT.out wz1 rfl).mono ?_
        rintro e w2 ⟨rfl, hA2, hb2⟩
        have HA2 := hide hA2
        have HB2 := hide (HBF.out.trans hb2)
        clear hA2 hb2
        go_wp2
        go_meet
        exact ⟨_, _, _, HCN.out, HA2.out, HB2.out⟩
      case rest =>
      rename World => wN
      obtain ⟨S', xs', bs', hC', hA', hB'⟩ := hcut
      have HC' := hide hC'
      have HA' := hide hA'
      have HB' := hide hB'
      clear hC' hA' hB' hB
      go_wp2
      go_roundg (gk - 1)
      case measure => have := HK.out; omega
      case rel => exact ⟨k + 1, S', xs', bs', by have := HK.out; omega, by have t : wrap64 ((k : Int) + 1) = (k : Int) + 1 := IntWalk.wrap64_in _ (by omega); simp [t], HC'.out, HA'.out, HB'.out⟩
    · have hk0 : k = zss.length := by omega
      subst hk0
      have HB' := hide hB
      clear hB
      go_wp2
      go_ret
      exact ⟨_, xs, bs, S, by have t := HC.out; rw [List.take_length] at t; exact t, rfl, HA.out, HB'.out⟩

theorem make26_3 (w : World) : (Instr.makeSlice 33 (.int .i64 3) (.int .i64 3)).run Tryz.prog w = .ok (.slice (some ⟨w.heap.size, 0, none⟩) 3 3) (w.alloc (.cells #[.slice none 0 0, .slice none 0 0, .slice none 0 0] 23)) := by
  have h := run_make_row' (P := Tryz.prog) 33 23 (.slice none 0 0) 24 Tryz.underlying33 Tryz.info23 rfl .i64 .i64 3 (by omega) (by omega) w
  have e : madeCells #[Value.slice none 0 0] 3 = #[.slice none 0 0, .slice none 0 0, .slice none 0 0] := by kernel_rfl
  rw [e] at h; exact h

set_option maxRecDepth 100000 in
set_option maxHeartbeats 4000000 in
theorem stairs3 (v : Value) (zss : List (List Int)) (w : World) (hv : RowsAt w v zss) (hl : zss.length ≤ 100) (hg : zss.all (goodB 3) = true) :
    Calls Tryz.prog 60 #[.int .i64 3, v] w fun e w' => StairsEnd 3 w zss e w' := by
  have HG : Hid (zss.all (goodB 3) = true) := hg
  have HV : Hid (RowsAt w v zss) := hv
  clear hg
  obtain ⟨a, cap, rfl⟩ := hv.slice
  clear hv
  have hmk := make3
  have hmk6 := make26_3
  have hq1 : ∀ (w : World) (a : Addr) (m c : Nat), (binOp .eql 23 (.slice (some a) m c) (.slice none 0 0)).run Tryz.prog w = .ok (.bool false) w := fun w a m c => eq22 w (some a) m c
  have hq2 : ∀ (w : World), (binOp .eql 23 (.slice none 0 0) (.slice none 0 0)).run Tryz.prog w = .ok (.bool true) w := fun w => eq22 w none 0 0
  go_enter Tryz.func60, Tryz.ntmps60
  go_wp2
  go_loopg [6] (zss.length) (fun m i wr => ∃ (k : Nat) (S : Lat.St) (xs : Nat → Value) (bs : Nat → Nat), k + m = zss.length ∧ i = .int .i64 k ∧ Lat.CanonOf S (vecs (zss.take k)) ∧ AtS 3 wr w.heap.size w.heap.size xs bs (rw3 S) ∧ Below w.heap.size w wr)
  case atStart =>
    refine ⟨0, ⟨⟨0, 0, 0⟩, ⟨0, 0, 0⟩, ⟨0, 0, 0⟩⟩, fun _ => nilS, fun _ => 0, by omega, rfl, Lat.CanonOf.nil, ⟨Blk.new w _ _ rfl, Nat.le_refl _, fun c hc => Or.inl ⟨rfl, ?_⟩, fun c d hc hd hne h1 => absurd rfl h1⟩, by go_grown⟩
    unfold rw3; split
    · rfl
    · split <;> rfl
  case round =>
    obtain ⟨k, S, xs, bs, hk, rfl, hC, hA, hB⟩ := hrel
    have HC := hide hC
    have HA := hide hA
    clear hC hA
    by_cases hlt : k < zss.length
    · have hgk : goodB 3 (zss.getD k []) = true := by
        have := HG.out; rw [List.all_eq_true] at this; exact this _ (getD_memR hlt)
      have hgl := good_le hgk
      rcases HV.out with ⟨e0, _⟩ | ⟨_, b, o, cap', e1, hc⟩
      · rw [e0] at hlt; simp at hlt
      injection e1 with e2 e3 e4
      subst e2
      obtain ⟨x, hcell, hx⟩ := hc k hlt
      have hlen : (zss.getD k []).length = 3 := by omega
      have hxw := hx.below hB
      have hcw := cell_below hB hcell
      rcases hxw with ⟨e0, _⟩ | ⟨_, xb, xo, xcap, e1, hxc⟩
      · rw [e0] at hlen; simp at hlen
      rw [hlen] at e1 hxc
      subst e1
      have HE : Hid (vecs (zss.take (k + 1)) = vecOf (zss.getD k []) :: vecs (zss.take k)) := by
        show vecs (zss.take (k + 1)) = _
        rw [take_snocR hlt, vecs_snoc]
      have HL := hide hgl.1
      have HF : Hid (Flat 3 S) := flat_of HC.out (fun zs hz => by
        have h1 := all_takeT HG.out k
        rw [List.all_eq_true] at h1
        have := (good_le (h1 zs hz)).2; omega)
      have HVF := hide (vecOf_flat hlen)
      have HLE := hide (vecs_le (all_takeT HG.out k))
      have HXC : Hid (∀ j y, [Value.int .i64 (vecOf (zss.getD k [])).x, Value.int .i64 (vecOf (zss.getD k [])).y, Value.int .i64 (vecOf (zss.getD k [])).z][j]? = some y → wr.cell? ⟨xb, xo + j, none⟩ = some y) := fun j y hj => by
        have hj3 : j < 3 := by
          have := (List.getElem?_eq_some_iff.1 hj).1; simpa only [List.length_cons, List.length_nil] using this
        rw [hxc j hj3]
        have hcs : j = 0 ∨ j = 1 ∨ j = 2 := by omega
        rcases hcs with rfl | rfl | rfl <;> exact hj
      clear hgk hgl hc hcell hx e3 e4 hxc hlen
      generalize vecOf (zss.getD k []) = u at *
      have hlb := HA.out.blk.lt
      have hkz := decide_eq_true (show (k : Int) < (zss.length : Int) by omega)
      have HK := hide hk
      clear hk
      go_upto_block 1 with fail
      go_cut [7] (fun s7 wx => ∃ (S' : Lat.St) (xs' : Nat → Value) (bs' : Nat → Nat), Lat.CanonOf S' (vecs (zss.take (k + 1))) ∧ AtS 3 wx w.heap.size w.heap.size xs' bs' (rw3 S') ∧ Below w.heap.size w wx)
      case first =>
        go_upto_region 5 with fail
        go_cut [7] (fun s7 wx => s7 = .slice (some ⟨wr.heap.size, 0, none⟩) 3 3 ∧ Blk wx wr.heap.size #[.int .i64 0, .int .i64 0, .int .i64 0] 3 ∧ Below wr.heap.size wr wx)
        case first =>
          go_wp2
          go_meet
          exact ⟨rfl, Blk.new wr _ _ rfl, by go_grown⟩
        case rest =>
        rename World => wx
        obtain ⟨rfl, hz, hb1⟩ := hcut
        have hcx := cell_below hb1 hcw
        go_upto_region 6 with fail
        go_cut [] (fun wy => Blk wy wr.heap.size #[.int .i64 u.x, .int .i64 u.y, .int .i64 u.z] 3 ∧ Below wr.heap.size wr wy)
        case first =>
          have hcp := copy_run 3 wx wr.heap.size xb xo xcap _ [Value.int .i64 u.x, Value.int .i64 u.y, Value.int .i64 u.z] rfl hz rfl (fun j y hj => cell_below hb1 (HXC.out j y hj)) (by simp [Value.oneCell'])
          go_wp2
          go_meet
          refine ⟨?_, ?_⟩
          · exact setRow_heap wx _ _ _ 3 _ hz
          · exact below_setRow hb1 (Nat.le_refl _) _
        case rest =>
        rename World => wy
        obtain ⟨hvb, hb2⟩ := hcut
        have HK0 : Hid (Col 3 wy w.heap.size w.heap.size xs bs (rw3 S) wr.heap.size u) :=
          ⟨HA.out.below hb2, hvb, hB.size, by omega, fun c hc hx => by have := HA.out.lt hc hx; omega⟩
        have hB0 : Below w.heap.size w wy := hB.trans (hb2.mono hB.size)
        clear hvb hb2 hz hb1 hcx hcw hlb hkz hB HA HXC
        generalize wr.heap.size = vb0 at *
        go_wp2
        refine wp_loop_rounds 4 ?_

        rw [rounds_succ]
        go_upto_block 3 with fail
        go_cut [7] (fun s7 wz => ColEnd 3 0 w w.heap.size w.heap.size (rw3 S) u s7 wz)
        case first =>
          have kv : wy.cell? ⟨vb0, 0, none⟩ = some (.int .i64 u.x) := HK0.out.vblk.cell 0
          have HBB := hide hB0
          by_cases hz : u.x = 0
          · have hz' : (u.x == 0) = true := by simpa using hz
            have HZ := hide hz
            clear hz hB0
            go_wp2
            go_meet
            exact colIdle HK0.out (by omega) HZ.out HBB.out
          · have hz' : (u.x == 0) = false := by simpa using hz
            have HZ := hide hz
            have kg := HK0.out.cg (c := 0) (by omega)
            have fg := HK0.out.fg 0
            have HR := hide (HK0.out.ats.row 0 (by omega))
            clear hz hB0
            rcases HR.out with ⟨hx, hR⟩ | ⟨hx, hpos, hblk, hbase, hbg⟩
            · rw [hx] at kg
              unfold nilS at kg
              have hba := HK0.out.ats.blk.alloc (.cells #[.int .i64 0, .int .i64 0, .int .i64 0] 3)
              have kga : (wy.alloc (.cells #[.int .i64 0, .int .i64 0, .int .i64 0] 3)).cell? ⟨w.heap.size, 0, none⟩ = some (.slice none 0 0) := (hba.cell 0).trans (by have := hx; unfold nilS at this; simp [this])
              have kfa := hba.frozen 0
              have HX := hide hx
              have HRr := hide hR
              have HBA := hide hba
              clear hx hR hba kg fg
              have kg := HK0.out.cg (c := 0) (by omega)
              rw [HX.out] at kg
              unfold nilS at kg
              go_upto_region 12 with fail
              go_cut [] (fun wq => wq.heap = ((wy.alloc (.cells #[.int .i64 0, .int .i64 0, .int .i64 0] 3)).setCell ⟨w.heap.size, 0, none⟩ (.slice (some ⟨wy.heap.size, 0, none⟩) 3 3)).heap ∧ Below w.heap.size w wq)
              case first =>
                go_wp2
                go_meet
                exact ⟨rfl, (HBB.out.alloc HBB.out.size _).setCell (p := ⟨w.heap.size, 0, none⟩) (Nat.le_refl _) _⟩
              case rest =>
              rename World => wq
              obtain ⟨hq, hbq⟩ := hcut
              obtain ⟨n1, n2, n3, n4, n5, n6, n7, n8⟩ := colNew HK0.out (c := 0) (by omega) hq
              have kq : wq.cell? ⟨w.heap.size, 0, none⟩ = some (.slice (some ⟨wy.heap.size, 0, none⟩) 3 3) := (n2.cell 0).trans (by simp)
              have HF : Hid (Calls Tryz.prog 79 #[.slice (some ⟨wy.heap.size, 0, none⟩) 3 3, .slice (some ⟨vb0, 0, none⟩) 3 3, .int .i64 0] wq fun e w' => Fold30 ⟨0, 0, 0⟩ u wy.heap.size vb0 wq w' e) :=
                fold30 ⟨0, 0, 0⟩ u wy.heap.size vb0 wq n3 n4 n7 (by have t := (Lat.room0 HC.out HLE.out HL.out); have e : S.a = ⟨0, 0, 0⟩ := HRr.out; rw [e] at t; exact t)
              have HN := hide (And.intro n1 (And.intro n2 (And.intro n5 (And.intro n6 (And.intro n7 n8)))))
              have HQB := hide hbq
              clear n1 n2 n3 n4 n5 n6 n7 n8 hq hbq kg kga kfa
              go_wp2_with fail
              refine HF.out.mono ?_
              rintro e w1 ⟨p, q, a', b', hS, rfl, hpq, hU, hp, hq⟩
              have kb1 : Blk w1 w.heap.size ((List.range 3).map (fun d => if d = 0 then (.slice (some ⟨wy.heap.size, 0, none⟩) 3 3) else xs d)).toArray 23 := by
                unfold Blk; rw [hU.keep _ (fun e => HN.out.2.2.2.1 e.symm) (fun e => HK0.out.vg e.symm)]; exact HN.out.2.1
              have kc1 : w1.cell? ⟨w.heap.size, 0, none⟩ = some (.slice (some ⟨wy.heap.size, 0, none⟩) 3 3) := (kb1.cell 0).trans (by simp)
              have kf1 := kb1.frozen 0
              have HS := hide hS
              have HPQ := hide hpq
              have HUU := hide hU
              have HPP := hide hp
              have HQQ := hide hq
              have HB1 := hide (HQB.out.trans (hU.below HN.out.2.2.1 HK0.out.vbase))
              clear hS hpq hU hp hq kb1 kq
              go_wp2
              go_meet
              exact colFold (c := 0) HK0.out (by omega) HZ.out (HB1.out.setCell (p := ⟨w.heap.size, 0, none⟩) (Nat.le_refl _) _) (by have t := HS.out; have e : S.a = ⟨0, 0, 0⟩ := HRr.out; rw [← e] at t; exact t) HN.out.1 HN.out.2.1 HN.out.2.2.1 HN.out.2.2.2.1 HN.out.2.2.2.2.1 HN.out.2.2.2.2.2 HUU.out HPQ.out HPP.out HQQ.out rfl
            · rw [hx] at kg
              have HF : Hid (∀ w0, w0.heap = wy.heap → Calls Tryz.prog 79 #[.slice (some ⟨(bs 0), 0, none⟩) 3 3, .slice (some ⟨vb0, 0, none⟩) 3 3, .int .i64 0] w0 fun e w' => Fold30 S.a u (bs 0) vb0 w0 w' e) := fun w0 hw0 =>
                fold30 S.a u (bs 0) vb0 w0 (by unfold Blk; rw [hw0]; exact hblk) (by unfold Blk; rw [hw0]; exact HK0.out.vblk) (fun e => HK0.out.vrow 0 (by omega) (by rw [hx]; exact slice_ne_nil _ _) e.symm) (Lat.room0 HC.out HLE.out HL.out)
              have HBK := hide hblk
              have HBS := hide hbase
              have HBG := hide hbg
              have HX := hide hx
              have HP := hide hpos
              clear hblk hbase hbg hx hpos
              go_wp2_with fail
              refine (HF.out wy rfl).mono ?_
              rintro e w1 ⟨p, q, a', b', hS, rfl, hpq, hU, hp, hq⟩
              have kb1 : Blk w1 w.heap.size ((List.range 3).map xs).toArray 23 := by
                unfold Blk; rw [hU.keep _ (fun e => HBG.out e.symm) (fun e => HK0.out.vg e.symm)]; exact HK0.out.ats.blk
              have kc1 : w1.cell? ⟨w.heap.size, 0, none⟩ = some (.slice (some ⟨(bs 0), 0, none⟩) 3 3) := (kb1.cell 0).trans (by have := HX.out; simp [this])
              have kf1 := kb1.frozen 0
              have HS := hide hS
              have HPQ := hide hpq
              have HUU := hide hU
              have HPP := hide hp
              have HQQ := hide hq
              have HB1 := hide (HBB.out.trans (hU.below HBS.out HK0.out.vbase))
              have HNX : Hid (xs 0 ≠ nilS) := by show xs 0 ≠ nilS; rw [HX.out]; exact slice_ne_nil _ _
              clear hS hpq hU hp hq kb1 kg fg
              go_wp2
              go_meet
              exact colFold (c := 0) HK0.out (by omega) HZ.out (HB1.out.setCell (p := ⟨w.heap.size, 0, none⟩) (Nat.le_refl _) _) HS.out (x := xs 0) (fun m _ _ => rfl) (by rw [self_upd]; exact HK0.out.ats.blk) HBS.out HBG.out (fun e => HK0.out.vrow 0 (by omega) HNX.out e.symm) (fun d hd he hx => HK0.out.ats.apart 0 d (by omega) hd (fun e => he e.symm) HNX.out hx) HUU.out HPQ.out HPP.out HQQ.out rfl
        case rest =>
        rename World => wz0
        obtain ⟨xs1, bs1, vb1, a1, v1, hS0, hCol, rfl, hB1⟩ := hcut
        have HS0 := hide hS0
        have HK1 := hide hCol
        clear hS0 hCol hB0
        go_wp2

        rw [rounds_succ]
        go_upto_block 3 with fail
        go_cut [7] (fun s7 wz => ColEnd 3 1 w w.heap.size w.heap.size (fun d => if d = 0 then a1 else (rw3 S) d) v1 s7 wz)
        case first =>
          have kv : wz0.cell? ⟨vb1, 1, none⟩ = some (.int .i64 v1.y) := HK1.out.vblk.cell 1
          have HBB := hide hB1
          by_cases hz : v1.y = 0
          · have hz' : (v1.y == 0) = true := by simpa using hz
            have HZ := hide hz
            clear hz hB1
            go_wp2
            go_meet
            exact colIdle HK1.out (by omega) HZ.out HBB.out
          · have hz' : (v1.y == 0) = false := by simpa using hz
            have HZ := hide hz
            have kg := HK1.out.cg (c := 1) (by omega)
            have fg := HK1.out.fg 1
            have HR := hide (HK1.out.ats.row 1 (by omega))
            clear hz hB1
            rcases HR.out with ⟨hx, hR⟩ | ⟨hx, hpos, hblk, hbase, hbg⟩
            · rw [hx] at kg
              unfold nilS at kg
              have hba := HK1.out.ats.blk.alloc (.cells #[.int .i64 0, .int .i64 0, .int .i64 0] 3)
              have kga : (wz0.alloc (.cells #[.int .i64 0, .int .i64 0, .int .i64 0] 3)).cell? ⟨w.heap.size, 1, none⟩ = some (.slice none 0 0) := (hba.cell 1).trans (by have := hx; unfold nilS at this; simp [this])
              have kfa := hba.frozen 1
              have HX := hide hx
              have HRr := hide hR
              have HBA := hide hba
              clear hx hR hba kg fg
              have kg := HK1.out.cg (c := 1) (by omega)
              rw [HX.out] at kg
              unfold nilS at kg
              go_upto_region 12 with fail
              go_cut [] (fun wq => wq.heap = ((wz0.alloc (.cells #[.int .i64 0, .int .i64 0, .int .i64 0] 3)).setCell ⟨w.heap.size, 1, none⟩ (.slice (some ⟨wz0.heap.size, 0, none⟩) 3 3)).heap ∧ Below w.heap.size w wq)
              case first =>
                go_wp2
                go_meet
                exact ⟨rfl, (HBB.out.alloc HBB.out.size _).setCell (p := ⟨w.heap.size, 1, none⟩) (Nat.le_refl _) _⟩
              case rest =>
              rename World => wq
              obtain ⟨hq, hbq⟩ := hcut
              obtain ⟨n1, n2, n3, n4, n5, n6, n7, n8⟩ := colNew HK1.out (c := 1) (by omega) hq
              have kq : wq.cell? ⟨w.heap.size, 1, none⟩ = some (.slice (some ⟨wz0.heap.size, 0, none⟩) 3 3) := (n2.cell 1).trans (by simp)
              have HF : Hid (Calls Tryz.prog 79 #[.slice (some ⟨wz0.heap.size, 0, none⟩) 3 3, .slice (some ⟨vb1, 0, none⟩) 3 3, .int .i64 1] wq fun e w' => Fold31 ⟨0, 0, 0⟩ v1 wz0.heap.size vb1 wq w' e) :=
                fold31 ⟨0, 0, 0⟩ v1 wz0.heap.size vb1 wq n3 n4 n7 (by have t := (Lat.room1 HC.out HLE.out HL.out HS0.out); have e : S.b = ⟨0, 0, 0⟩ := HRr.out; rw [e] at t; exact t)
              have HN := hide (And.intro n1 (And.intro n2 (And.intro n5 (And.intro n6 (And.intro n7 n8)))))
              have HQB := hide hbq
              clear n1 n2 n3 n4 n5 n6 n7 n8 hq hbq kg kga kfa
              go_wp2_with fail
              refine HF.out.mono ?_
              rintro e w1 ⟨p, q, a', b', hS, rfl, hpq, hU, hp, hq⟩
              have kb1 : Blk w1 w.heap.size ((List.range 3).map (fun d => if d = 1 then (.slice (some ⟨wz0.heap.size, 0, none⟩) 3 3) else xs1 d)).toArray 23 := by
                unfold Blk; rw [hU.keep _ (fun e => HN.out.2.2.2.1 e.symm) (fun e => HK1.out.vg e.symm)]; exact HN.out.2.1
              have kc1 : w1.cell? ⟨w.heap.size, 1, none⟩ = some (.slice (some ⟨wz0.heap.size, 0, none⟩) 3 3) := (kb1.cell 1).trans (by simp)
              have kf1 := kb1.frozen 1
              have HS := hide hS
              have HPQ := hide hpq
              have HUU := hide hU
              have HPP := hide hp
              have HQQ := hide hq
              have HB1 := hide (HQB.out.trans (hU.below HN.out.2.2.1 HK1.out.vbase))
              clear hS hpq hU hp hq kb1 kq
              go_wp2
              go_meet
              exact colFold (c := 1) HK1.out (by omega) HZ.out (HB1.out.setCell (p := ⟨w.heap.size, 1, none⟩) (Nat.le_refl _) _) (by have t := HS.out; have e : S.b = ⟨0, 0, 0⟩ := HRr.out; rw [← e] at t; exact t) HN.out.1 HN.out.2.1 HN.out.2.2.1 HN.out.2.2.2.1 HN.out.2.2.2.2.1 HN.out.2.2.2.2.2 HUU.out HPQ.out HPP.out HQQ.out rfl
            · rw [hx] at kg
              have HF : Hid (∀ w0, w0.heap = wz0.heap → Calls Tryz.prog 79 #[.slice (some ⟨(bs1 1), 0, none⟩) 3 3, .slice (some ⟨vb1, 0, none⟩) 3 3, .int .i64 1] w0 fun e w' => Fold31 S.b v1 (bs1 1) vb1 w0 w' e) := fun w0 hw0 =>
                fold31 S.b v1 (bs1 1) vb1 w0 (by unfold Blk; rw [hw0]; exact hblk) (by unfold Blk; rw [hw0]; exact HK1.out.vblk) (fun e => HK1.out.vrow 1 (by omega) (by rw [hx]; exact slice_ne_nil _ _) e.symm) (Lat.room1 HC.out HLE.out HL.out HS0.out)
              have HBK := hide hblk
              have HBS := hide hbase
              have HBG := hide hbg
              have HX := hide hx
              have HP := hide hpos
              clear hblk hbase hbg hx hpos
              go_wp2_with fail
              refine (HF.out wz0 rfl).mono ?_
              rintro e w1 ⟨p, q, a', b', hS, rfl, hpq, hU, hp, hq⟩
              have kb1 : Blk w1 w.heap.size ((List.range 3).map xs1).toArray 23 := by
                unfold Blk; rw [hU.keep _ (fun e => HBG.out e.symm) (fun e => HK1.out.vg e.symm)]; exact HK1.out.ats.blk
              have kc1 : w1.cell? ⟨w.heap.size, 1, none⟩ = some (.slice (some ⟨(bs1 1), 0, none⟩) 3 3) := (kb1.cell 1).trans (by have := HX.out; simp [this])
              have kf1 := kb1.frozen 1
              have HS := hide hS
              have HPQ := hide hpq
              have HUU := hide hU
              have HPP := hide hp
              have HQQ := hide hq
              have HB1 := hide (HBB.out.trans (hU.below HBS.out HK1.out.vbase))
              have HNX : Hid (xs1 1 ≠ nilS) := by show xs1 1 ≠ nilS; rw [HX.out]; exact slice_ne_nil _ _
              clear hS hpq hU hp hq kb1 kg fg
              go_wp2
              go_meet
              exact colFold (c := 1) HK1.out (by omega) HZ.out (HB1.out.setCell (p := ⟨w.heap.size, 1, none⟩) (Nat.le_refl _) _) HS.out (x := xs1 1) (fun m _ _ => rfl) (by rw [self_upd]; exact HK1.out.ats.blk) HBS.out HBG.out (fun e => HK1.out.vrow 1 (by omega) HNX.out e.symm) (fun d hd he hx => HK1.out.ats.apart 1 d (by omega) hd (fun e => he e.symm) HNX.out hx) HUU.out HPQ.out HPP.out HQQ.out rfl
        case rest =>
        rename World => wz1
        obtain ⟨xs2, bs2, vb2, a2, v2, hS1, hCol, rfl, hB2⟩ := hcut
        have HS1 := hide hS1
        have HK2 := hide hCol
        clear hS1 hCol hB1
        go_wp2

        rw [rounds_succ]
        go_upto_block 3 with fail
        go_cut [7] (fun s7 wz => ColEnd 3 2 w w.heap.size w.heap.size (fun d => if d = 1 then a2 else (fun d => if d = 0 then a1 else (rw3 S) d) d) v2 s7 wz)
        case first =>
          have kv : wz1.cell? ⟨vb2, 2, none⟩ = some (.int .i64 v2.z) := HK2.out.vblk.cell 2
          have HBB := hide hB2
          by_cases hz : v2.z = 0
          · have hz' : (v2.z == 0) = true := by simpa using hz
            have HZ := hide hz
            clear hz hB2
            go_wp2
            go_meet
            exact colIdle HK2.out (by omega) HZ.out HBB.out
          · have hz' : (v2.z == 0) = false := by simpa using hz
            have HZ := hide hz
            have kg := HK2.out.cg (c := 2) (by omega)
            have fg := HK2.out.fg 2
            have HR := hide (HK2.out.ats.row 2 (by omega))
            clear hz hB2
            rcases HR.out with ⟨hx, hR⟩ | ⟨hx, hpos, hblk, hbase, hbg⟩
            · rw [hx] at kg
              unfold nilS at kg
              have hba := HK2.out.ats.blk.alloc (.cells #[.int .i64 0, .int .i64 0, .int .i64 0] 3)
              have kga : (wz1.alloc (.cells #[.int .i64 0, .int .i64 0, .int .i64 0] 3)).cell? ⟨w.heap.size, 2, none⟩ = some (.slice none 0 0) := (hba.cell 2).trans (by have := hx; unfold nilS at this; simp [this])
              have kfa := hba.frozen 2
              have HX := hide hx
              have HRr := hide hR
              have HBA := hide hba
              clear hx hR hba kg fg
              have kg := HK2.out.cg (c := 2) (by omega)
              rw [HX.out] at kg
              unfold nilS at kg
              go_upto_region 12 with fail
              go_cut [] (fun wq => wq.heap = ((wz1.alloc (.cells #[.int .i64 0, .int .i64 0, .int .i64 0] 3)).setCell ⟨w.heap.size, 2, none⟩ (.slice (some ⟨wz1.heap.size, 0, none⟩) 3 3)).heap ∧ Below w.heap.size w wq)
              case first =>
                go_wp2
                go_meet
                exact ⟨rfl, (HBB.out.alloc HBB.out.size _).setCell (p := ⟨w.heap.size, 2, none⟩) (Nat.le_refl _) _⟩
              case rest =>
              rename World => wq
              obtain ⟨hq, hbq⟩ := hcut
              obtain ⟨n1, n2, n3, n4, n5, n6, n7, n8⟩ := colNew HK2.out (c := 2) (by omega) hq
              have kq : wq.cell? ⟨w.heap.size, 2, none⟩ = some (.slice (some ⟨wz1.heap.size, 0, none⟩) 3 3) := (n2.cell 2).trans (by simp)
              have HF : Hid (Calls Tryz.prog 79 #[.slice (some ⟨wz1.heap.size, 0, none⟩) 3 3, .slice (some ⟨vb2, 0, none⟩) 3 3, .int .i64 2] wq fun e w' => Fold32 ⟨0, 0, 0⟩ v2 wz1.heap.size vb2 wq w' e) :=
                fold32 ⟨0, 0, 0⟩ v2 wz1.heap.size vb2 wq n3 n4 n7 (by have t := (Lat.room2 HC.out HLE.out HL.out HS0.out HS1.out); have e : S.c = ⟨0, 0, 0⟩ := HRr.out; rw [e] at t; exact t)
              have HN := hide (And.intro n1 (And.intro n2 (And.intro n5 (And.intro n6 (And.intro n7 n8)))))
              have HQB := hide hbq
              clear n1 n2 n3 n4 n5 n6 n7 n8 hq hbq kg kga kfa
              go_wp2_with fail
              refine HF.out.mono ?_
              rintro e w1 ⟨p, q, a', b', hS, rfl, hpq, hU, hp, hq⟩
              have kb1 : Blk w1 w.heap.size ((List.range 3).map (fun d => if d = 2 then (.slice (some ⟨wz1.heap.size, 0, none⟩) 3 3) else xs2 d)).toArray 23 := by
                unfold Blk; rw [hU.keep _ (fun e => HN.out.2.2.2.1 e.symm) (fun e => HK2.out.vg e.symm)]; exact HN.out.2.1
              have kc1 : w1.cell? ⟨w.heap.size, 2, none⟩ = some (.slice (some ⟨wz1.heap.size, 0, none⟩) 3 3) := (kb1.cell 2).trans (by simp)
              have kf1 := kb1.frozen 2
              have HS := hide hS
              have HPQ := hide hpq
              have HUU := hide hU
              have HPP := hide hp
              have HQQ := hide hq
              have HB1 := hide (HQB.out.trans (hU.below HN.out.2.2.1 HK2.out.vbase))
              clear hS hpq hU hp hq kb1 kq
              go_wp2
              go_meet
              exact colFold (c := 2) HK2.out (by omega) HZ.out (HB1.out.setCell (p := ⟨w.heap.size, 2, none⟩) (Nat.le_refl _) _) (by have t := HS.out; have e : S.c = ⟨0, 0, 0⟩ := HRr.out; rw [← e] at t; exact t) HN.out.1 HN.out.2.1 HN.out.2.2.1 HN.out.2.2.2.1 HN.out.2.2.2.2.1 HN.out.2.2.2.2.2 HUU.out HPQ.out HPP.out HQQ.out rfl
            · rw [hx] at kg
              have HF : Hid (∀ w0, w0.heap = wz1.heap → Calls Tryz.prog 79 #[.slice (some ⟨(bs2 2), 0, none⟩) 3 3, .slice (some ⟨vb2, 0, none⟩) 3 3, .int .i64 2] w0 fun e w' => Fold32 S.c v2 (bs2 2) vb2 w0 w' e) := fun w0 hw0 =>
                fold32 S.c v2 (bs2 2) vb2 w0 (by unfold Blk; rw [hw0]; exact hblk) (by unfold Blk; rw [hw0]; exact HK2.out.vblk) (fun e => HK2.out.vrow 2 (by omega) (by rw [hx]; exact slice_ne_nil _ _) e.symm) (Lat.room2 HC.out HLE.out HL.out HS0.out HS1.out)
              have HBK := hide hblk
              have HBS := hide hbase
              have HBG := hide hbg
              have HX := hide hx
              have HP := hide hpos
              clear hblk hbase hbg hx hpos
              go_wp2_with fail
              refine (HF.out wz1 rfl).mono ?_
              rintro e w1 ⟨p, q, a', b', hS, rfl, hpq, hU, hp, hq⟩
              have kb1 : Blk w1 w.heap.size ((List.range 3).map xs2).toArray 23 := by
                unfold Blk; rw [hU.keep _ (fun e => HBG.out e.symm) (fun e => HK2.out.vg e.symm)]; exact HK2.out.ats.blk
              have kc1 : w1.cell? ⟨w.heap.size, 2, none⟩ = some (.slice (some ⟨(bs2 2), 0, none⟩) 3 3) := (kb1.cell 2).trans (by have := HX.out; simp [this])
              have kf1 := kb1.frozen 2
              have HS := hide hS
              have HPQ := hide hpq
              have HUU := hide hU
              have HPP := hide hp
              have HQQ := hide hq
              have HB1 := hide (HBB.out.trans (hU.below HBS.out HK2.out.vbase))
              have HNX : Hid (xs2 2 ≠ nilS) := by show xs2 2 ≠ nilS; rw [HX.out]; exact slice_ne_nil _ _
              clear hS hpq hU hp hq kb1 kg fg
              go_wp2
              go_meet
              exact colFold (c := 2) HK2.out (by omega) HZ.out (HB1.out.setCell (p := ⟨w.heap.size, 2, none⟩) (Nat.le_refl _) _) HS.out (x := xs2 2) (fun m _ _ => rfl) (by rw [self_upd]; exact HK2.out.ats.blk) HBS.out HBG.out (fun e => HK2.out.vrow 2 (by omega) HNX.out e.symm) (fun d hd he hx => HK2.out.ats.apart 2 d (by omega) hd (fun e => he e.symm) HNX.out hx) HUU.out HPQ.out HPP.out HQQ.out rfl
        case rest =>
        rename World => wz2
        obtain ⟨xs3, bs3, vb3, a3, v3, hS2, hCol, rfl, hB3⟩ := hcut
        have HS2 := hide hS2
        have HK3 := hide hCol
        clear hS2 hCol hB2
        go_wp2

        rw [rounds_succ]
        have HOK := hide (oksR HC.out HLE.out HL.out HS0.out HS1.out HS2.out)
        have HT : Hid (∀ w0, w0.heap = wz2.heap → Calls Tryz.prog 80 #[.int .i64 3, .slice (some ⟨w.heap.size, 0, none⟩) 3 3] w0 fun e w' => e = .returned (.tuple #[]) ∧ AtS 3 w' w.heap.size w.heap.size xs3 bs3 (rw3 (Lat.red (⟨a1, a2, a3⟩ : Lat.St).a (⟨a1, a2, a3⟩ : Lat.St).b (⟨a1, a2, a3⟩ : Lat.St).c)) ∧ Below w.heap.size w0 w') := fun w0 hw0 =>
          tidy3 (⟨a1, a2, a3⟩ : Lat.St) w.heap.size w.heap.size xs3 bs3 w0 HOK.out.1 HOK.out.2.1 HOK.out.2.2.1 HOK.out.2.2.2.1 HOK.out.2.2.2.2 ((HK3.out.ats.congr (fun c hc => by
            have hcs : c = 0 ∨ c = 1 ∨ c = 2 := by omega
            rcases hcs with rfl | rfl | rfl <;> rfl)).heap hw0)
        have HCN : Hid (Lat.CanonOf (Lat.red (⟨a1, a2, a3⟩ : Lat.St).a (⟨a1, a2, a3⟩ : Lat.St).b (⟨a1, a2, a3⟩ : Lat.St).c) (vecs (zss.take (k + 1)))) := by
          show Lat.CanonOf _ (vecs (zss.take (k + 1)))
          rw [HE.out]; exact Lat.with_canon HC.out HS0.out HS1.out HS2.out
        have HBF := hide hB3
        clear hB3
        go_wp2_with fail
        refine (HT.out wz2 rfl).mono ?_
        rintro e w2 ⟨rfl, hA2, hb2⟩
        have HA2 := hide hA2
        have HB2 := hide (HBF.out.trans hb2)
        clear hA2 hb2
        go_wp2
        go_meet
        exact ⟨_, _, _, HCN.out, HA2.out, HB2.out⟩
      case rest =>
      rename World => wN
      obtain ⟨S', xs', bs', hC', hA', hB'⟩ := hcut
      have HC' := hide hC'
      have HA' := hide hA'
      have HB' := hide hB'
      clear hC' hA' hB' hB
      go_wp2
      go_roundg (gk - 1)
      case measure => have := HK.out; omega
      case rel => exact ⟨k + 1, S', xs', bs', by have := HK.out; omega, by have t : wrap64 ((k : Int) + 1) = (k : Int) + 1 := IntWalk.wrap64_in _ (by omega); simp [t], HC'.out, HA'.out, HB'.out⟩
    · have hk0 : k = zss.length := by omega
      subst hk0
      have HB' := hide hB
      clear hB
      go_wp2
      go_ret
      exact ⟨_, xs, bs, S, by have t := HC.out; rw [List.take_length] at t; exact t, rfl, HA.out, HB'.out⟩

end Go.Proofs.YtmlcblnndihjoaaGreat
