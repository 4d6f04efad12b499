import Derived.Test.YtmlcblnndihjoaaGreatJoinC
set_option linter.unusedSimpArgs false
set_option linter.unusedVariables false
namespace Go.Proofs.YtmlcblnndihjoaaGreat
open Go.RowKit

theorem pair_given {n : Nat} {T1 T2 : Lat.St} (h1 : 1 ≤ n) (h3 : n ≤ 3) (f1 : FitsS T1) (f2 : FitsS T2) : givenE (n : Int) (basisRows n T1 ++ basisRows n T2) = 0 := by
  have g1 := (given_ok (basis_given (by omega) h3 f1)).2.2.2
  have g2 := (given_ok (basis_given (by omega) h3 f2)).2.2.2
  have l1 := basis_len n T1
  have l2 := basis_len n T2
  unfold givenE
  have hw : (decide (1 ≤ (n : Int)) && decide ((n : Int) ≤ 3)) = true := by simp; omega
  rw [if_pos hw, if_pos]
  unfold givenB
  rw [Bool.and_eq_true, decide_eq_true_eq, List.all_append, g1, g2, List.length_append]
  exact ⟨by omega, rfl⟩

theorem join_canon {s t : ByteArray} {n : Nat} {T1 T2 R : Lat.St} (h1 : DecOK s n T1) (h2 : DecOK t n T2) (hR : Lat.CanonOf R (T2.c :: T2.b :: T2.a :: vecs (basisRows n T1))) : Lat.CanonOf R (vecs (basisRows n T1 ++ basisRows n T2)) :=
  ⟨hR.shape, fun v => (hR.span v).trans (sum_span h1.n1 h1.n3 h1.shape h1.flat h2.shape h2.flat v)⟩

theorem join_gen0 {s t : ByteArray} {n : Nat} {T1 T2 R : Lat.St} (h1 : DecOK s n T1) (h2 : DecOK t n T2) (hR : Lat.CanonOf R (T2.c :: T2.b :: T2.a :: vecs (basisRows n T1))) (hf : FitsS R) : Gen n (basisRows n T1 ++ basisRows n T2) R 0 :=
  Or.inr ⟨pair_given h1.n1 h1.n3 h1.fits h2.fits, R, join_canon h1 h2 hR, Or.inr ⟨rfl, rfl, hf⟩⟩
theorem join_gen3 {s t : ByteArray} {n : Nat} {T1 T2 R : Lat.St} (h1 : DecOK s n T1) (h2 : DecOK t n T2) (hR : Lat.CanonOf R (T2.c :: T2.b :: T2.a :: vecs (basisRows n T1))) (hf : ¬ FitsS R) : Gen n (basisRows n T1 ++ basisRows n T2) R 3 :=
  Or.inr ⟨pair_given h1.n1 h1.n3 h1.fits h2.fits, R, join_canon h1 h2 hR, Or.inl ⟨rfl, hf⟩⟩

/-- the answer of Join -/
def JoinEnd (s t : ByteArray) (e : Ending) : Prop :=
  (∃ n T1 T2, DecOK s n T1 ∧ DecOK t n T2 ∧ EncEnd n (basisRows n T1 ++ basisRows n T2) e) ∨ (∃ c, PairNo s t c ∧ e = .returned (.tuple #[.string ⟨#[]⟩, .int .i64 c]))

theorem join_one {s t : ByteArray} {e e' : Ending} (h : JoinEnd s t e) (h' : JoinEnd s t e') : ∃ x c, e = .returned (.tuple #[.string x, .int .i64 c]) ∧ e' = .returned (.tuple #[.string x, .int .i64 c]) := by
  rcases h with ⟨n, T1, T2, a, b, hE⟩ | ⟨c, hN, rfl⟩
  · rcases h' with ⟨n', U1, U2, a', b', hE'⟩ | ⟨c, hN, rfl⟩
    · obtain ⟨rfl, rfl⟩ := a.one a'
      obtain ⟨_, rfl⟩ := b.one b'
      exact enc_one hE hE'
    · exact (hN.not a b).elim
  · rcases h' with ⟨n', U1, U2, a', b', hE'⟩ | ⟨c', hN', rfl⟩
    · exact (hN.not a' b').elim
    · obtain rfl := hN.one hN'
      exact ⟨_, _, rfl, rfl⟩

set_option maxRecDepth 100000 in
set_option maxHeartbeats 4000000 in
theorem join_any (s t : ByteArray) (w : World) :
    Calls Tryz.prog 29 #[.string s, .string t] w fun e w' => JoinEnd s t e ∧ Below w.heap.size w w' := by
  have HP := hide0 (fun w0 => readPair_any s t w0)
  have hi80 : (Tryz.prog.info? 83).map (·.size) = some 19 := by kernel_rfl
  go_enter Tryz.func29, Tryz.ntmps29
  go_wp2_with fail
  refine (HP.out _).mono ?_
  rintro e w1 ⟨hR, hb1⟩
  have hs1 := hb1.size
  rcases hR with ⟨n, T1, T2, h1, h2, rfl⟩ | ⟨c, hN, rfl⟩
  · have H1 := hide0 h1
    have H2 := hide0 h2
    have HJ := hide0 (fun w0 => spanJoin_any T1 T2 _ w0 h1.canon (le_vecs h1.n1 h1.n3 h1.fits) h2.fits)
    have hn1 := h1.n1
    have hn3 := h1.n3
    have k1 := (Blk.new w1 #[.int .i64 0, .int .i64 0, .int .i64 0, .int .i64 0, .int .i64 0, .int .i64 0, .int .i64 0, .int .i64 0, .int .i64 0, .int .i64 0, .int .i64 0, .int .i64 0, .int .i64 0, .int .i64 0, .int .i64 0, .int .i64 0, .int .i64 0, .int .i64 0, .int .i64 0] 83 rfl).setRow #[.int .i64 (n : Int), .int .i64 T1.a.x, .int .i64 T1.a.y, .int .i64 T1.a.z, .int .i64 T1.b.x, .int .i64 T1.b.y, .int .i64 T1.b.z, .int .i64 T1.c.x, .int .i64 T1.c.y, .int .i64 T1.c.z, .int .i64 T2.a.x, .int .i64 T2.a.y, .int .i64 T2.a.z, .int .i64 T2.b.x, .int .i64 T2.b.y, .int .i64 T2.b.z, .int .i64 T2.c.x, .int .i64 T2.c.y, .int .i64 T2.c.z]
    have k0 := Blk.new w1 #[.int .i64 0, .int .i64 0, .int .i64 0, .int .i64 0, .int .i64 0, .int .i64 0, .int .i64 0, .int .i64 0, .int .i64 0, .int .i64 0, .int .i64 0, .int .i64 0, .int .i64 0, .int .i64 0, .int .i64 0, .int .i64 0, .int .i64 0, .int .i64 0, .int .i64 0] 83 rfl
    have hall : (#[.int .i64 (n : Int), .int .i64 T1.a.x, .int .i64 T1.a.y, .int .i64 T1.a.z, .int .i64 T1.b.x, .int .i64 T1.b.y, .int .i64 T1.b.z, .int .i64 T1.c.x, .int .i64 T1.c.y, .int .i64 T1.c.z, .int .i64 T2.a.x, .int .i64 T2.a.y, .int .i64 T2.a.z, .int .i64 T2.b.x, .int .i64 T2.b.y, .int .i64 T2.b.z, .int .i64 T2.c.x, .int .i64 T2.c.y, .int .i64 T2.c.z] : Array Value).all (·.oneCell') = true := by simp [Value.oneCell']
    have hB1 : Below w.heap.size w ((w1.alloc (.cells #[.int .i64 0, .int .i64 0, .int .i64 0, .int .i64 0, .int .i64 0, .int .i64 0, .int .i64 0, .int .i64 0, .int .i64 0, .int .i64 0, .int .i64 0, .int .i64 0, .int .i64 0, .int .i64 0, .int .i64 0, .int .i64 0, .int .i64 0, .int .i64 0, .int .i64 0] 83)).setRow w1.heap.size #[.int .i64 (n : Int), .int .i64 T1.a.x, .int .i64 T1.a.y, .int .i64 T1.a.z, .int .i64 T1.b.x, .int .i64 T1.b.y, .int .i64 T1.b.z, .int .i64 T1.c.x, .int .i64 T1.c.y, .int .i64 T1.c.z, .int .i64 T2.a.x, .int .i64 T2.a.y, .int .i64 T2.a.z, .int .i64 T2.b.x, .int .i64 T2.b.y, .int .i64 T2.b.z, .int .i64 T2.c.x, .int .i64 T2.c.y, .int .i64 T2.c.z]) := below_setRow (hb1.alloc hb1.size _) hs1 _
    have c0 := k1.cell 0
    have c1 := k1.cell 1
    have c2 := k1.cell 2
    have c3 := k1.cell 3
    have c4 := k1.cell 4
    have c5 := k1.cell 5
    have c6 := k1.cell 6
    have c7 := k1.cell 7
    have c8 := k1.cell 8
    have c9 := k1.cell 9
    have c10 := k1.cell 10
    have c11 := k1.cell 11
    have c12 := k1.cell 12
    have c13 := k1.cell 13
    have c14 := k1.cell 14
    have c15 := k1.cell 15
    have c16 := k1.cell 16
    have c17 := k1.cell 17
    have c18 := k1.cell 18
    simp at c0 c1 c2 c3 c4 c5 c6 c7 c8 c9 c10 c11 c12 c13 c14 c15 c16 c17 c18
    clear h1 h2
    go_wp2_with (refine wpList_store_row rfl 83 (.tmp 6) (.tmp 13) rfl w1.heap.size #[.int .i64 (n : Int), .int .i64 T1.a.x, .int .i64 T1.a.y, .int .i64 T1.a.z, .int .i64 T1.b.x, .int .i64 T1.b.y, .int .i64 T1.b.z, .int .i64 T1.c.x, .int .i64 T1.c.y, .int .i64 T1.c.z, .int .i64 T2.a.x, .int .i64 T2.a.y, .int .i64 T2.a.z, .int .i64 T2.b.x, .int .i64 T2.b.y, .int .i64 T2.b.z, .int .i64 T2.c.x, .int .i64 T2.c.y, .int .i64 T2.c.z] rfl rfl 83 #[.int .i64 0, .int .i64 0, .int .i64 0, .int .i64 0, .int .i64 0, .int .i64 0, .int .i64 0, .int .i64 0, .int .i64 0, .int .i64 0, .int .i64 0, .int .i64 0, .int .i64 0, .int .i64 0, .int .i64 0, .int .i64 0, .int .i64 0, .int .i64 0, .int .i64 0] k0 hi80 rfl hall ?_)
    refine (HJ.out _).mono ?_
    rintro e w2 ⟨R, hR, rfl, hb2⟩
    have hlk := k1.lt
    have k2 := k1.below hb2 hlk
    have hB2 := hB1.trans (hb2.mono hB1.size)
    have HRC := hide0 hR
    have HFI := hide0 (fun w0 => fits_any R w0)
    have d0 := k2.cell 0
    simp at d0
    have hlk2 := k2.lt
    clear hb2 hB1 k1 k0 hall hlk c0 c1 c2 c3 c4 c5 c6 c7 c8 c9 c10 c11 c12 c13 c14 c15 c16 c17 c18 hR
    go_wp2_with fail
    refine (HFI.out _).mono ?_
    rintro e w3 ⟨⟨ok, rfl, hok⟩, hb3⟩
    have k3 := (k2.alloc (.cells #[.int .i64 R.a.x, .int .i64 R.a.y, .int .i64 R.a.z, .int .i64 R.b.x, .int .i64 R.b.y, .int .i64 R.b.z, .int .i64 R.c.x, .int .i64 R.c.y, .int .i64 R.c.z] 58)).below hb3 (by simp; omega)
    have kR3 := (Blk.new w2 #[.int .i64 R.a.x, .int .i64 R.a.y, .int .i64 R.a.z, .int .i64 R.b.x, .int .i64 R.b.y, .int .i64 R.b.z, .int .i64 R.c.x, .int .i64 R.c.y, .int .i64 R.c.z] 58 rfl).below hb3 (by simp)
    have hB3 : Below w.heap.size w w3 := (hB2.alloc hB2.size _).trans (hb3.mono (by have := hB2.size; simp; omega))
    obtain ⟨s0, s1, s2, s3, s4, s5, s6, s7, s8⟩ := kR3.nine
    clear d0
    have d0 := k3.cell 0
    simp at d0
    cases ok
    · have HG := hide0 (join_gen3 H1.out H2.out HRC.out (fun hf => by have := hok.2 hf; cases this))
      clear hok hb3
      go_wp2
      go_ret2
      exact ⟨Or.inl ⟨n, T1, T2, H1.out, H2.out, enc_endc HG.out (by decide)⟩, hB3⟩
    · have hfit := hok.1 rfl
      have HG := hide0 (join_gen0 H1.out H2.out HRC.out hfit)
      have HOF := hide0 (fun w0 => textOf_any R n w0 hn1 hn3 hfit)
      clear hok hb3 hfit
      go_wp2_with fail
      refine (HOF.out _).mono ?_
      rintro e w4 ⟨rfl, hb4⟩
      have hB4 := hB3.trans (hb4.mono hB3.size)
      clear hb4
      go_wp2
      go_ret2
      exact ⟨Or.inl ⟨n, T1, T2, H1.out, H2.out, enc_end0 HG.out (by unfold txt; rw [Int.toNat_natCast])⟩, hB4⟩
  · have HN := hide0 hN
    have hc := hN.ne
    have k0 := Blk.new w1 #[.int .i64 0, .int .i64 0, .int .i64 0, .int .i64 0, .int .i64 0, .int .i64 0, .int .i64 0, .int .i64 0, .int .i64 0, .int .i64 0, .int .i64 0, .int .i64 0, .int .i64 0, .int .i64 0, .int .i64 0, .int .i64 0, .int .i64 0, .int .i64 0, .int .i64 0] 83 rfl
    have hall : (#[.int .i64 0, .int .i64 0, .int .i64 0, .int .i64 0, .int .i64 0, .int .i64 0, .int .i64 0, .int .i64 0, .int .i64 0, .int .i64 0, .int .i64 0, .int .i64 0, .int .i64 0, .int .i64 0, .int .i64 0, .int .i64 0, .int .i64 0, .int .i64 0, .int .i64 0] : Array Value).all (·.oneCell') = true := by simp [Value.oneCell']
    clear hN
    go_wp2_with (refine wpList_store_row rfl 83 (.tmp 6) (.tmp 13) rfl w1.heap.size #[.int .i64 0, .int .i64 0, .int .i64 0, .int .i64 0, .int .i64 0, .int .i64 0, .int .i64 0, .int .i64 0, .int .i64 0, .int .i64 0, .int .i64 0, .int .i64 0, .int .i64 0, .int .i64 0, .int .i64 0, .int .i64 0, .int .i64 0, .int .i64 0, .int .i64 0] rfl rfl 83 #[.int .i64 0, .int .i64 0, .int .i64 0, .int .i64 0, .int .i64 0, .int .i64 0, .int .i64 0, .int .i64 0, .int .i64 0, .int .i64 0, .int .i64 0, .int .i64 0, .int .i64 0, .int .i64 0, .int .i64 0, .int .i64 0, .int .i64 0, .int .i64 0, .int .i64 0] k0 hi80 rfl hall ?_)
    go_ret2
    exact ⟨Or.inr ⟨c, HN.out, rfl⟩, below_setRow (hb1.alloc hb1.size _) hs1 _⟩
end Go.Proofs.YtmlcblnndihjoaaGreat
