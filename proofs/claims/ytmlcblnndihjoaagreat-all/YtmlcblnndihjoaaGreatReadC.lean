import Derived.Test.YtmlcblnndihjoaaGreatReadB
set_option linter.unusedSimpArgs false
set_option linter.unusedVariables false
namespace Go.Proofs.YtmlcblnndihjoaaGreat
open Go.RowKit

theorem vectorIn_any (t : ByteArray) (n : Nat) (w : World) (h1 : 1 ≤ n) (h3 : n ≤ 3) (h : t.size = 2 * n) :
    Calls Tryz.prog 77 #[.string t] w fun e w' => VecEnd ((List.range n).map fun j => rdE (nums t) (2 * j)) e ∧ Below w.heap.size w w' := by
  have : n = 1 ∨ n = 2 ∨ n = 3 := by omega
  rcases this with rfl | rfl | rfl
  · exact vectorIn1 t w h
  · exact vectorIn2 t w h
  · exact vectorIn3 t w h

theorem nums_extract (s : ByteArray) (a b : Nat) (h : b ≤ s.size) : nums (s.extract a b) = ((nums s).drop a).take (b - a) := by
  unfold nums
  rw [ByteArray.data_extract, Array.toList_extract, List.map_drop.symm, List.map_take.symm]

theorem rd_extract {s : ByteArray} {a b k : Nat} (h : b ≤ s.size) (hk : a + k + 1 < b) : rdE (nums (s.extract a b)) k = rdE (nums s) (a + k) := by
  unfold rdE
  rw [nums_extract s a b h]
  have e : ∀ j, a + j < b → (((nums s).drop a).take (b - a)).getD j 0 = (nums s).getD (a + j) 0 := fun j hj => by
    rw [List.getD_eq_getElem?_getD, List.getElem?_take, if_pos (by omega), List.getElem?_drop, List.getD_eq_getElem?_getD]
  rw [e k (by omega), e (k + 1) (by omega)]
  rfl

theorem row_extract {s : ByteArray} {n k : Nat} (h : 2 + 2 * (n * k) + 2 * n < s.size) : ((List.range n).map fun j => rdE (nums (s.extract (2 + 2 * (n * k)) (2 + 2 * (n * k) + 2 * n))) (2 * j)) = rdRow (nums s) n k := by
  unfold rdRow
  apply List.map_congr_left
  intro j hj
  simp at hj
  rw [rd_extract (by omega) (by omega)]
  congr 1
  omega

theorem retRD {R : Ending → World → Prop} {a : Act} {W : World} {p : Nat} {x0 x1 x2 x3 x4 x5 x6 x7 x8 : Value} {c d : Value}
    (h : a.tmps[3]?.getD undef = .pointer (some ⟨p, 0, none⟩)) (h2 : a.tmps[2]?.getD undef = d) (h5 : a.tmps[4]?.getD undef = c) (k : Blk W p #[x0, x1, x2, x3, x4, x5, x6, x7, x8] 58) (hd : a.defers = [])
    (hR : R (.returned (.tuple #[d, .agg #[x0, x1, x2, x3, x4, x5, x6, x7, x8], c])) W) : bodyPost Tryz.prog Tryz.f51 R .ret a W := by
  obtain ⟨c0, c1, c2, c3, c4, c5, c6, c7, c8⟩ := k.nine
  refine bodyPost_ret (v := .tuple #[d, .agg #[x0, x1, x2, x3, x4, x5, x6, x7, x8], c]) ?_ hd hR
  simp [results, Tryz.results51, go_sem, h, h2, h5, c0, c1, c2, c3, c4, c5, c6, c7, c8]

/-- the lattice T as a value -/
def aggS (T : Lat.St) : Value := .agg #[.int .i64 T.a.x, .int .i64 T.a.y, .int .i64 T.a.z, .int .i64 T.b.x, .int .i64 T.b.y, .int .i64 T.b.z, .int .i64 T.c.x, .int .i64 T.c.y, .int .i64 T.c.z]

/-- the answer of Read -/
def ReadEnd (s : ByteArray) (e : Ending) : Prop :=
  (∃ n T, DecOK s n T ∧ e = .returned (.tuple #[.int .i64 (n : Nat), aggS T, .bool true])) ∨
  ((∀ n T, ¬ DecOK s n T) ∧ e = .returned (.tuple #[.int .i64 0, aggS zeroS, .bool false]))

theorem str_ne {a b : ByteArray} (h : a ≠ b) : (a.toList == b.toList) = false := by
  rw [beq_eq_false_iff_ne]
  intro e
  apply h
  rw [ByteArray.toList_eq, ByteArray.toList_eq] at e
  exact ByteArray.ext (Array.toList_inj.1 e)

theorem len_row {n k r : Nat} (h : k < r) : 2 + 2 * (n * k) + 2 * n + 1 ≤ 3 + 2 * (n * r) := by
  have : n * k + n ≤ n * r := by rw [← Nat.mul_succ]; exact Nat.mul_le_mul_left n h
  omega

theorem slice_str (s : ByteArray) (a b : Nat) (h1 : a ≤ b) (h2 : b ≤ s.size) (w : World) : (Instr.slice 9 (.string s) (some (.int .i64 a)) (some (.int .i64 b)) none).run Tryz.prog w = .ok (.string (s.extract a b)) w := by
  have := run_slice_string (P := Tryz.prog) w 9 s .i64 .i64 a b (by kernel_rfl) (by omega) (by omega) (by omega)
  simpa using this

set_option maxRecDepth 100000 in
set_option maxHeartbeats 4000000 in
theorem read_any (s : ByteArray) (w : World) :
    Calls Tryz.prog 51 #[.string s] w fun e w' => ReadEnd s e ∧ Below w.heap.size w w' := by
  have HH := hide0 (fun w0 => hasShape_any s w0)
  go_enter Tryz.func51, Tryz.ntmps51
  go_wp2_with fail
  refine (HH.out _).mono ?_
  rintro e w' ⟨⟨b, rfl, hb⟩, hq'⟩; subst hq'
  cases b
  · have HN : Hid (∀ n T, ¬ DecOK s n T) := fun n T hd => hb.2 rfl _ _ hd.shp
    clear hb
    go_wp2
    exact retRD rfl rfl rfl (Blk.new w _ _ rfl) rfl ⟨Or.inr ⟨HN.out, rfl⟩, by go_grown⟩
  · obtain ⟨n, r, hS⟩ : ∃ n r, Shp (nums s) n r := ⟨_, _, hb.1 rfl⟩
    have HS := hide0 hS
    have hsz := hS.len
    rw [nums_length] at hsz
    have hx0 := index_lit s 0 (by omega) 0 rfl
    rw [hS.w] at hx0
    have hn1 := hS.n1
    have hn3 := hS.n3
    have hrn := hS.rn
    have hnr : n * r ≤ 9 := Nat.le_trans (Nat.mul_le_mul hn3 (show r ≤ 3 by omega)) (by decide)
    have hsL : ((s.size : Nat) : Int) = 3 + 2 * ((n * r : Nat) : Int) := by omega
    clear hb hS
    generalize hNR : n * r = NR at *
    have HNR := hide0 hNR
    clear hNR
    go_wp2
    go_loopg [7] (r) (fun mm at' wr => ∃ (k p : Nat) (T : Lat.St), k + mm = r ∧ at' = .int .i64 p ∧ p = 2 + 2 * (n * k) ∧ Lat.CanonOf T (vecs ((rdRows (nums s) n r).take k)) ∧ ((rdRows (nums s) n r).take k).all (goodB n) = true ∧ Blk wr w.heap.size #[.int .i64 0, .int .i64 0, .int .i64 0, .int .i64 0, .int .i64 0, .int .i64 0, .int .i64 0, .int .i64 0, .int .i64 0] 58 ∧ Blk wr (w.heap.size + 1) #[.int .i64 T.a.x, .int .i64 T.a.y, .int .i64 T.a.z, .int .i64 T.b.x, .int .i64 T.b.y, .int .i64 T.b.z, .int .i64 T.c.x, .int .i64 T.c.y, .int .i64 T.c.z] 58 ∧ Below w.heap.size w wr)
    case atStart =>
      exact ⟨0, 2, ⟨⟨0, 0, 0⟩, ⟨0, 0, 0⟩, ⟨0, 0, 0⟩⟩, by omega, rfl, by omega, Lat.CanonOf.nil, rfl, (Blk.new w _ _ rfl).alloc _, Blk.new (w.alloc _) _ _ (by simp), by go_grown⟩
    case round =>
    obtain ⟨k, p, T, hk, rfl, hp, hC, hA, b2, b3, hB⟩ := hrel
    have HC := hide0 hC
    have HA := hide0 hA
    have HP := hide0 hp
    have hl2 := b2.lt
    have hl3 := b3.lt
    have hrl : (rdRows (nums s) n r).length = r := by simp [rdRows]
    clear hC hA
    by_cases hlt : k < r
    · have hfit : p + 2 * n + 1 ≤ s.size := by
        have := len_row (n := n) hlt
        rw [HNR.out] at this
        omega
      have hfit' : (p : Int) + (n : Int) * 2 + 1 ≤ ((s.size : Nat) : Int) := by omega
      have hsl := slice_str s p (p + 2 * n) (by omega) (by omega)
      have ec : ((p + 2 * n : Nat) : Int) = (p : Int) + (n : Int) * 2 := by omega
      rw [ec] at hsl
      have hrow : ((List.range n).map fun j => rdE (nums (s.extract p (p + 2 * n))) (2 * j)) = rdRow (nums s) n k := by
        rw [hp]; exact row_extract (by rw [← hp]; omega)
      have hts : (s.extract p (p + 2 * n)).size = 2 * n := by rw [ByteArray.size_extract]; omega
      have hve := fun w0 => vectorIn_any (s.extract p (p + 2 * n)) n w0 hn1 hn3 hts
      rw [hrow] at hve
      have HVE := hide0 hve
      have HRK : Hid ((rdRows (nums s) n r).getD k [] = rdRow (nums s) n k) := by
        show (rdRows (nums s) n r).getD k [] = _
        simp [rdRows, List.getD_eq_getElem?_getD, hlt]
      have HTK : Hid ((rdRows (nums s) n r).take (k + 1) = (rdRows (nums s) n r).take k ++ [rdRow (nums s) n k]) := by
        show (rdRows (nums s) n r).take (k + 1) = _
        rw [take_snocR (by rw [hrl]; exact hlt), HRK.out]
      clear hve hrow hts hp
      generalize s.extract p (p + 2 * n) = t at *
      obtain ⟨s0, s1, s2, s3, s4, s5, s6, s7, s8⟩ := b3.nine
      go_wp2_with fail
      refine (HVE.out _).mono ?_
      rintro e w1 ⟨hV, hb1⟩
      have k2 := b2.below hb1 hl2
      have k3 := b3.below hb1 hl3
      have hB1 := hB.trans (hb1.mono hB.size)
      have hlr : (rdRow (nums s) n k).length = n := by simp [rdRow]
      have hlw := k3.lt
      have hlw2 := k2.lt
      clear s0 s1 s2 s3 s4 s5 s6 s7 s8
      obtain ⟨s0, s1, s2, s3, s4, s5, s6, s7, s8⟩ := k3.nine
      obtain ⟨f0, f1, f2, f3, f4, f5, f6, f7, f8⟩ := k3.frozen9
      obtain ⟨z0, z1, z2, z3, z4, z5, z6, z7, z8⟩ := k2.nine
      obtain ⟨y0, y1, y2, y3, y4, y5, y6, y7, y8⟩ := k2.frozen9
      rcases hV with ⟨hg, rfl⟩ | ⟨hg, rfl⟩
      · rw [hlr] at hg
        have HW := hide0 (fun w0 => with_any T _ _ w0 HC.out (vecs_le HA.out) (good_le hg).1)
        have HG := hide0 hg
        generalize hvr : vecOf (rdRow (nums s) n k) = u at *
        have HVR := hide0 hvr
        clear hg hvr
        go_wp2_with fail
        refine (HW.out _).mono ?_
        rintro e w2 ⟨T', hT', rfl, hb2⟩
        have HT := hide0 hT'
        have m2 := (k2.alloc (.cells #[.int .i64 u.x, .int .i64 u.y, .int .i64 u.z] 55)).below hb2 (by simp; omega)
        have m3 := (k3.alloc (.cells #[.int .i64 u.x, .int .i64 u.y, .int .i64 u.z] 55)).below hb2 (by simp; omega)
        have hs1 := hB1.size
        have hB2 : Below w.heap.size w w2 := (hB1.alloc hs1 _).trans (hb2.mono (by simp; omega))
        clear s0 s1 s2 s3 s4 s5 s6 s7 s8 f0 f1 f2 f3 f4 f5 f6 f7 f8 z0 z1 z2 z3 z4 z5 z6 z7 z8 y0 y1 y2 y3 y4 y5 y6 y7 y8 hT'
        obtain ⟨s0, s1, s2, s3, s4, s5, s6, s7, s8⟩ := m3.nine
        obtain ⟨f0, f1, f2, f3, f4, f5, f6, f7, f8⟩ := m3.frozen9
        go_wp2
        go_roundg (gk - 1)
        case measure => omega
        case rel =>
          refine ⟨k + 1, p + 2 * n, T', by omega, ?_, ?_, ?_, ?_, m2.other9 (by omega) _ _ _ _ _ _ _ _ _, m3.set9 _ _ _ _ _ _ _ _ _, below_set9 hB2 (by omega) _ _ _ _ _ _ _ _ _⟩
          · refine congrArg (Value.int IntKind.i64) ?_
            omega
          · rw [HP.out, Nat.mul_succ]; omega
          · rw [HTK.out, vecs_snoc, HVR.out]; exact HT.out
          · rw [HTK.out, List.all_append, HA.out]; simp [HG.out]
      · rw [hlr] at hg
        have HN : Hid (∀ n T, ¬ DecOK s n T) := fun n' T' hd => by
          obtain ⟨rfl, _, hall⟩ := dec_rd HS.out hd
          rw [List.all_eq_true] at hall
          have := hall _ (getD_memR (show k < (rdRows (nums s) n' r).length by rw [hrl]; exact hlt))
          rw [HRK.out, hg] at this
          cases this
        clear hg s0 s1 s2 s3 s4 s5 s6 s7 s8 f0 f1 f2 f3 f4 f5 f6 f7 f8 z0 z1 z2 z3 z4 z5 z6 z7 z8 y0 y1 y2 y3 y4 y5 y6 y7 y8 hsl hfit hfit' ec hlw hx0 HVE HRK HTK
        have j2 := k2.alloc (.cells #[.int .i64 0, .int .i64 0, .int .i64 0] 55)
        have hjb : Below w.heap.size w (w1.alloc (.cells #[.int .i64 0, .int .i64 0, .int .i64 0] 55)) := hB1.alloc hB1.size _
        go_upto_region 10 with fail
        generalize hwj : w1.alloc (.cells #[.int .i64 0, .int .i64 0, .int .i64 0] 55) = wj at *
        obtain ⟨z0, z1, z2, z3, z4, z5, z6, z7, z8⟩ := j2.nine
        obtain ⟨y0, y1, y2, y3, y4, y5, y6, y7, y8⟩ := j2.frozen9
        clear hwj
        go_wp2
        exact retRD rfl rfl rfl (j2.set9 _ _ _ _ _ _ _ _ _) rfl ⟨Or.inr ⟨HN.out, rfl⟩, below_set9 hjb (Nat.le_refl _) _ _ _ _ _ _ _ _ _⟩
    · have hkr : k = r := by omega
      have hC := HC.out
      rw [hkr, List.take_of_length_le (by rw [hrl]; exact Nat.le_refl _)] at hC
      have HCC := hide0 hC
      have hnot : (3 : Int) + 2 * (NR : Int) < (p : Int) + (n : Int) * 2 + 1 := by
        rw [hp, hkr, HNR.out]; omega
      have hpb : p ≤ 20 := by rw [hp, hkr, HNR.out]; omega
      clear hC hp hk HC HA hkr
      obtain ⟨s0, s1, s2, s3, s4, s5, s6, s7, s8⟩ := b3.nine
      have HFI := hide0 (fun w0 => fits_any T w0)
      go_wp2_with fail
      refine (HFI.out _).mono ?_
      rintro e w1 ⟨⟨ok, rfl, hok⟩, hb1⟩
      have k2 := b2.below hb1 hl2
      have k3 := b3.below hb1 hl3
      have hB1 := hB.trans (hb1.mono hB.size)
      clear s0 s1 s2 s3 s4 s5 s6 s7 s8
      obtain ⟨s0, s1, s2, s3, s4, s5, s6, s7, s8⟩ := k3.nine
      obtain ⟨z0, z1, z2, z3, z4, z5, z6, z7, z8⟩ := k2.nine
      obtain ⟨y0, y1, y2, y3, y4, y5, y6, y7, y8⟩ := k2.frozen9
      cases ok
      · have HN : Hid (∀ n T, ¬ DecOK s n T) := fun n' T' hd => by
          obtain ⟨rfl, rfl⟩ := dec_same HS.out hd HCC.out
          have := hok.2 hd.fits
          cases this
        clear hok
        go_wp2
        exact retRD rfl rfl rfl (k2.set9 _ _ _ _ _ _ _ _ _) rfl ⟨Or.inr ⟨HN.out, rfl⟩, below_set9 hB1 (Nat.le_refl _) _ _ _ _ _ _ _ _ _⟩
      · have hfit := hok.1 rfl
        have HFT := hide0 hfit
        have HOF := hide0 (fun w0 => textOf_any T n w0 hn1 hn3 hfit)
        clear hok hfit
        go_wp2_with fail
        refine (HOF.out _).mono ?_
        rintro e w2 ⟨rfl, hb2⟩
        have m2 := k2.below hb2 k2.lt
        have m3 := k3.below hb2 k3.lt
        have hB2 := hB1.trans (hb2.mono hB1.size)
        clear s0 s1 s2 s3 s4 s5 s6 s7 s8 z0 z1 z2 z3 z4 z5 z6 z7 z8 y0 y1 y2 y3 y4 y5 y6 y7 y8
        obtain ⟨s0, s1, s2, s3, s4, s5, s6, s7, s8⟩ := m3.nine
        obtain ⟨z0, z1, z2, z3, z4, z5, z6, z7, z8⟩ := m2.nine
        obtain ⟨y0, y1, y2, y3, y4, y5, y6, y7, y8⟩ := m2.frozen9
        have het : strOfNums (textN n (basisRows n T)) = txt n T := by unfold txt; rw [Int.toNat_natCast]
        rw [het]
        by_cases hst : s = txt n T
        · have HD := hide0 (dec_mk HS.out HCC.out HFT.out hst)
          rw [← hst]
          have hee := eqlStr s
          clear hst het
          go_wp2
          go_region
          go_wp2
          exact retRD rfl rfl rfl ((m2.set9 _ _ _ _ _ _ _ _ _).drew) rfl ⟨Or.inl ⟨n, T, HD.out, rfl⟩, (below_set9 hB2 (Nat.le_refl _) _ _ _ _ _ _ _ _ _).drew⟩
        · have HN : Hid (∀ n T, ¬ DecOK s n T) := fun n' T' hd => by
            obtain ⟨rfl, rfl⟩ := dec_same HS.out hd HCC.out
            exact hst hd.str
          have hee : ((txt n T).toList == s.toList) = false := str_ne (fun e => hst e.symm)
          clear hst het
          generalize txt n T = tt at *
          go_wp2
          exact retRD rfl rfl rfl (m2.set9 _ _ _ _ _ _ _ _ _) rfl ⟨Or.inr ⟨HN.out, rfl⟩, below_set9 hB2 (Nat.le_refl _) _ _ _ _ _ _ _ _ _⟩
end Go.Proofs.YtmlcblnndihjoaaGreat
