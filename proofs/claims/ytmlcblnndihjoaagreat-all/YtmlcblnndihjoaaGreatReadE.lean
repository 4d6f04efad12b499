import Derived.Test.YtmlcblnndihjoaaGreatReadD
set_option linter.unusedSimpArgs false
set_option linter.unusedVariables false
namespace Go.Proofs.YtmlcblnndihjoaaGreat
open Go.RowKit

/-- a row while it is read: the first q entries stand -/
def rowQ (xs : List Int) (n k q : Nat) : Array Value := ((List.range n).map (fun x => if x < q then Value.int .i64 (rdE xs (2 + 2 * (n * k + x))) else .int .i64 0)).toArray

theorem rowQ_size (xs : List Int) (n k q : Nat) : (rowQ xs n k q).size = n := by simp [rowQ]

theorem rowQ_set (xs : List Int) (n k q : Nat) : (rowQ xs n k q).setIfInBounds q (.int .i64 (rdE xs (2 + 2 * (n * k + q)))) = rowQ xs n k (q + 1) := by
  unfold rowQ
  rw [map_put, map_same (fun j hj => ?_)]
  by_cases e : j = q
  · subst e; simp
  · rw [if_neg e]
    by_cases e2 : j < q
    · rw [if_pos e2, if_pos (by omega)]
    · rw [if_neg e2, if_neg (by omega)]

theorem rowQ_zero (xs : List Int) (n k : Nat) : madeCells #[Value.int .i64 0] n = rowQ xs n k 0 := by
  rw [made_map]; unfold rowQ
  exact map_same (fun j hj => by simp)

theorem rowQ_all (xs : List Int) (n k : Nat) : rowQ xs n k n = ((rdRow xs n k).map (Value.int .i64)).toArray := by
  unfold rowQ rdRow
  rw [List.map_map]
  exact map_same (fun j hj => by simp [hj])

theorem rowsOwn_nil (w : World) (B n : Nat) : RowsOwn w B (.slice none 0 0) [] [] n :=
  ⟨World.ownsRow_nil w B 23 1, rfl, fun i hi => by simp at hi, fun i j _ hj => by simp at hj, fun g m cap e => by cases e⟩

theorem owns_row {w : World} {B p n : Nat} {zs : List Int} (h : Blk w p ((zs.map (Value.int .i64)).toArray) 3) (hp : B ≤ p) (hl : zs.length = n) (hm : n ≤ maxLen) : w.ownsRow B 3 1 (.slice (some ⟨p, 0, none⟩) n n) n (zs.map (Value.int .i64)) :=
  ⟨by simp [hl], Or.inr ⟨p, n, _, rfl, hp, h, Nat.le_refl _, hm, by simp [hl], by rw [Nat.mul_one]; exact List.take_of_length_le (by simp [hl])⟩⟩

set_option maxRecDepth 100000 in
set_option maxHeartbeats 4000000 in
theorem rdecode_yes (s : ByteArray) (n r : Nat) (w : World) (hS : Shp (nums s) n r) :
    Calls Tryz.prog 28 #[.string s] w fun e w' => RDecodeEnd s w' e ∧ Below w.heap.size w w' := by
  have HS := hide0 hS
  have hsz := hS.len
  rw [nums_length] at hsz
  have hx0 := index_lit s 0 (by omega) 0 rfl
  have hx1 := index_lit s 1 (by omega) 1 rfl
  rw [hS.w] at hx0
  rw [hS.c] at hx1
  have hn1 := hS.n1
  have hn3 := hS.n3
  have hrn := hS.rn
  have hnr : n * r ≤ 9 := Nat.le_trans (Nat.mul_le_mul hn3 (show r ≤ 3 by omega)) (by decide)
  obtain ⟨i0, hi, hz0, hz1, hz2⟩ := info_parts Tryz.info23
  have HI : Hid (Tryz.prog.info? 23 = some i0 ∧ i0.zero = some (.slice none 0 0) ∧ i0.size = 1 ∧ i0.bytes = 24) := ⟨hi, hz0, hz1, hz2⟩
  clear hi hz0 hz1 hz2
  have mk3 := run_make_row' (P := Tryz.prog) 23 3 (.int .i64 0) 8 Tryz.underlying23 tinfo3 rfl .i64 .i64 n (by omega) (by omega)
  have HX := hide0 (fun k hk => index_str s k hk)
  have HZ := hide0 (fun k hk => nums_getD s k hk)
  have hm1 : 2 * (n : Int) * (r : Int) = 2 * ((n * r : Nat) : Int) := by rw [Int.natCast_mul, Int.mul_assoc]
  have hsL : ((s.size : Nat) : Int) = 3 + 2 * ((n * r : Nat) : Int) := by omega
  have hne : (((s.size : Nat) : Int) != 3 + 2 * ((n * r : Nat) : Int)) = false := by rw [hsL]; simp
  have h3' : ¬ ((s.size : Nat) : Int) < 3 := by omega
  clear hS
  generalize hNR : n * r = NR at *
  have HNR := hide0 hNR
  clear hNR
  clear hsL
  go_enter Tryz.func28, Tryz.ntmps28
  go_wp2
  go_loopg [7, 8, 9, 10, 11] (r) (fun mm rows i u9 u10 u11 wr => ∃ (k : Nat) (vs : List Value), i = .int .i64 k ∧ k + mm = r ∧ vs.length = k ∧ RowsOwn wr w.heap.size rows vs ((rdRows (nums s) n r).take k) n ∧ Below w.heap.size w wr)
  case atStart => exact ⟨0, [], rfl, by omega, rfl, rowsOwn_nil _ _ _, Below.refl _ _⟩
  case round =>
    rename World => wO
    obtain ⟨k, vs, rfl, hk, hvl, hO, hB⟩ := hrel
    have HO := hide0 hO
    have HB := hide0 hB
    have HVL := hide0 hvl
    have hsB := hB.size
    clear hO hB hvl
    by_cases hlt : k < r
    · have hlt' : (k : Int) < (r : Int) := by omega
      obtain ⟨g0, hg0⟩ : ∃ g0, g0 = gk := ⟨_, rfl⟩
      have hnk : n * k + n ≤ NR := by rw [← Nat.mul_succ, ← HNR.out]; exact Nat.mul_le_mul_left n hlt
      have hmk : (n : Int) * (k : Int) = ((n * k : Nat) : Int) := by simp
      generalize hM : n * k = M at *
      have HM := hide0 hM
      clear hM
      have hzq := rowQ_zero (nums s) n k
      rw [hzq] at mk3
      clear hzq
      go_wp2
      go_loopg [10, 11] (n) (fun mm j u11 wy => ∃ q : Nat, j = .int .i64 q ∧ q + mm = n ∧ Blk wy wO.heap.size (rowQ (nums s) n k q) 3 ∧ Below wO.heap.size wO wy)
      case atStart => exact ⟨0, rfl, by omega, Blk.new _ _ _ rfl, by go_grown⟩
      case round =>
      rename World => wy
      obtain ⟨q, rfl, hq, hBk, hB2⟩ := hrel
      have HBK := hide0 hBk
      have HB2 := hide0 hB2
      have hs2 := hB2.size
      have hbl := hBk.lt
      by_cases hql : q < n
      · have hql' : (q : Int) < (n : Int) := by omega
        have hfr := hBk.frozen q
        obtain ⟨old, hold⟩ : ∃ old, wy.cell? ⟨wO.heap.size, q, none⟩ = some old := ⟨(rowQ (nums s) n k q)[q]'(by rw [rowQ_size]; exact hql), by rw [hBk.cell q]; simp [rowQ_size, hql]⟩
        have hi2 := index_lit s (2 + 2 * (M + q)) (by omega) (2 + 2 * ((M : Int) + (q : Int))) (by omega)
        have hi3 := index_lit s (2 + 2 * (M + q) + 1) (by omega) (2 + 2 * ((M : Int) + (q : Int)) + 1) (by omega)
        have hz2 := HZ.out (2 + 2 * (M + q)) (by omega)
        have hz3 := HZ.out (2 + 2 * (M + q) + 1) (by omega)
        have HE : Hid (rdE (nums s) (2 + 2 * (n * k + q)) = 256 * (nums s).getD (2 + 2 * (M + q)) 0 + (nums s).getD (2 + 2 * (M + q) + 1) 0 - 512) := by
          show rdE (nums s) (2 + 2 * (n * k + q)) = _
          rw [HM.out]; rfl
        generalize (nums s).getD (2 + 2 * (M + q)) 0 = x2 at *
        generalize (nums s).getD (2 + 2 * (M + q) + 1) 0 = x3 at *
        obtain ⟨hz20, hz21⟩ := hz2
        obtain ⟨hz30, hz31⟩ := hz3
        clear hBk hB2 mk3
        go_wp2
        go_region
        go_wp2
        go_roundg (gk - 1)
        case measure => omega
        case rel =>
          refine ⟨q + 1, by go_num, by omega, ?_, ((HB2.out.setCell (p := ⟨wO.heap.size, q, none⟩) (Nat.le_refl _) _)).drew⟩
          have := HBK.out.set q (.int .i64 (rdE (nums s) (2 + 2 * (n * k + q))))
          rw [rowQ_set, HE.out] at this
          have e5 : 256 * x2 + x3 - 511 - 1 = 256 * x2 + x3 - 512 := by omega
          rw [e5]
          exact this.drew
      · have hd2 : decide ((q : Int) < (n : Int)) = false := by simp; omega
        have hqe : q = n := by omega
        have HQ := hide0 hqe
        have hOy := HO.out.below hB2 (Nat.le_refl _)
        have HOY := hide0 hOy
        have hown := hOy.own
        have hspy := hOy.spare
        have hBK2 := hBk
        rw [hqe, rowQ_all] at hBK2
        have HBK2 := hide0 hBK2
        have hvl6 : vs.length + 1 ≤ 6 := by rw [HVL.out]; omega
        obtain ⟨hi, hz0, hz1, hz2⟩ := HI.out
        clear hBk hB2 mk3 hqe hOy hBK2
        go_wp2_with (at_builtin; refine wpList_append_z _ rfl (.tmp 79) (.tmp 81) 33 rfl w.heap.size 23 i0 (.slice none 0 0) 24 Tryz.underlying33 hi hz0 hz1 hz2 rfl _ _ _ rfl (hown.alloc _) (hspy.below (by go_grown)) ⟨wy.heap.size, 0, none⟩ 1 1 [.slice (some ⟨wO.heap.size, 0, none⟩) n n] rfl rfl (World.news_of_block (cs := #[.slice (some ⟨wO.heap.size, 0, none⟩) n n]) (t := 23) (fr := (0, 0)) (Blk.new _ _ _ rfl)) (by intro u hu; simp at hu; subst hu; rfl) (by omega) (by unfold maxLen; omega) (by omega) (by simp; omega) _ rfl ?_; intro g cap1 w2 hown1 hgrow hat hglt hspn)
        go_roundg (g0 - 1)
        case measure => omega
        case rel =>
          have hlr : (rdRow (nums s) n k).length = n := by simp [rdRow]
          have hrl : (rdRows (nums s) n r).length = r := by simp [rdRows]
          have hOb := HOY.out.below (((Below.refl wy.heap.size wy).alloc (Nat.le_refl _) (.cells #[.slice (some ⟨wO.heap.size, 0, none⟩) n n] 23))) (Nat.le_refl _)
          have hx := owns_row (B := w.heap.size) (HBK2.out.alloc (.cells #[.slice (some ⟨wO.heap.size, 0, none⟩) n n] 23)) hsB hlr (by unfold maxLen; omega)
          have hnp : ∀ i, i < vs.length → (vs.getD i .nilIface).ownBlock ≠ some wO.heap.size := fun i hi e => by
            have := ((HO.out.row i hi).1.lt _ e).2; omega
          have hvp : u7.ownBlock ≠ some wO.heap.size := fun e => by have := (HO.out.own.lt _ e).2; omega
          have HRK : (rdRows (nums s) n r).getD k [] = rdRow (nums s) n k := by
            simp [rdRows, List.getD_eq_getElem?_getD, hlt]
          refine ⟨k + 1, vs ++ [.slice (some ⟨wO.heap.size, 0, none⟩) n n], by go_num, by omega, by rw [List.length_append, HVL.out]; rfl, ?_, ?_⟩
          · rw [take_snocR (by rw [hrl]; exact hlt), HRK]
            exact RowsOwn.snoc hOb hlr hx rfl hnp hvp rfl hown1 hgrow hat hspn
          · exact ((HB.out.trans (HB2.out.mono hsB)).alloc (by omega) _).grown hgrow (by simp; omega) (fun j hj => by have := (hown.lt j hj).1; omega)
    · have hd : decide ((k : Int) < (r : Int)) = false := by simp; omega
      have hke : k = r := by omega
      have hrl : (rdRows (nums s) n r).length = r := by simp [rdRows]
      have hO := HO.out
      rw [hke, List.take_of_length_le (by rw [hrl]; exact Nat.le_refl _)] at hO
      have hra := hO.rowsAt hn1
      have HRA := hide0 hra
      have HEN := hide0 (rencode_any n _ _ _ hra)
      have hnn : ((n : Int).toNat) = n := Int.toNat_natCast n
      clear hO hke hk mk3 hra HO
      go_wp2_with fail
      refine HEN.out.mono ?_
      rintro e w1 ⟨⟨T, c, hG, rfl⟩, hb1⟩
      have HB1 := hide0 (HB.out.trans (hb1.mono hsB))
      have hra1 := HRA.out.below hb1
      clear hb1 HRA HEN
      by_cases hc : c = 0
      · subst hc
        obtain ⟨hf, _, _⟩ := gen_fits hG
        have hcan : Lat.CanonOf T (vecs (rdRows (nums s) n r)) := by
          rcases hG with ⟨_, h⟩ | ⟨h0, T', hT, ⟨h, _⟩ | ⟨_, rfl, _⟩⟩
          · exact absurd rfl h
          · exact absurd h (by decide)
          · exact hT
        rw [if_pos rfl]
        by_cases hst : s = txt n T
        · have hD := dec_mk HS.out hcan hf hst
          have hrows := (dec_rd HS.out hD).2.1
          rw [hrows] at hra1
          have HD := hide0 hD
          have HRA1 := hide0 hra1
          rw [← hst]
          have hee := eqlStr s
          clear hst hD hrows hra1 hcan hf hG
          go_wp2
          go_ret3
          exact ⟨Or.inl ⟨n, T, _, HD.out, rfl, HRA1.out⟩, HB1.out⟩
        · have HN : Hid (∀ n T, ¬ DecOK s n T) := fun n' T' hd => by
            obtain ⟨rfl, rfl⟩ := dec_same HS.out hd hcan
            exact hst hd.str
          have hee : ((txt n T).toList == s.toList) = false := str_ne (fun e => hst e.symm)
          clear hst hcan hf hG hra1
          generalize txt n T = tt at *
          go_wp2
          go_ret3
          exact ⟨Or.inr ⟨HN.out, rfl⟩, HB1.out⟩
      · have HN : Hid (∀ n T, ¬ DecOK s n T) := fun n' T' hd => by
          obtain ⟨rfl, e, hall⟩ := dec_rd HS.out hd
          rw [e] at hG
          exact hc (basis_again hd.n1 hd.n3 hd.shape hd.flat hd.fits hG).1
        have hcb : (c != 0) = true := by simpa using hc
        rw [if_neg hc]
        clear hG hc hra1
        go_wp2
        go_ret3
        exact ⟨Or.inr ⟨HN.out, rfl⟩, HB1.out⟩

theorem rdecode_any (s : ByteArray) (w : World) :
    Calls Tryz.prog 28 #[.string s] w fun e w' => RDecodeEnd s w' e ∧ Below w.heap.size w w' := by
  by_cases h : ∃ n r, Shp (nums s) n r
  · obtain ⟨n, r, hS⟩ := h
    exact rdecode_yes s n r w hS
  · refine (rdecode_no s w (fun n r hS => h ⟨n, r, hS⟩)).mono fun e w' ⟨h1, h2⟩ => ?_
    subst h2
    exact ⟨Or.inr ⟨fun n T hd => h ⟨_, _, hd.shp⟩, h1⟩, Below.refl _ _⟩

end Go.Proofs.YtmlcblnndihjoaaGreat
