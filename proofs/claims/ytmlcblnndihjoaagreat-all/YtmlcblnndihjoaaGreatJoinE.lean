import Derived.Test.YtmlcblnndihjoaaGreatJoinD
set_option linter.unusedSimpArgs false
set_option linter.unusedVariables false
namespace Go.Proofs.YtmlcblnndihjoaaGreat
open Go.RowKit

/-- does the one lattice lie in the other? -/
def SubL (T1 T2 : Lat.St) : Prop := ∀ v, Lat.Mem T1 v → Lat.Mem T2 v

theorem sub_rows {T1 T2 : Lat.St} : SubL T1 T2 ↔ (Lat.Mem T2 T1.a ∧ Lat.Mem T2 T1.b ∧ Lat.Mem T2 T1.c) := by
  constructor
  · intro h; exact ⟨h _ (Lat.Mem.ra T1), h _ (Lat.Mem.rb T1), h _ (Lat.Mem.rc T1)⟩
  · rintro ⟨a, b, c⟩ v hv
    exact Lat.InSpan.lift (P := fun v => Lat.Mem T2 v) (Lat.Mem.zero T2) (fun _ _ x y p q => x.comb y p q) (fun g hg => by
      simp only [List.mem_cons, List.not_mem_nil, or_false] at hg
      rcases hg with rfl | rfl | rfl
      · exact a
      · exact b
      · exact c) ((Lat.Mem.iff_span T1 v).1 hv)

/-- the sum of a lattice and one more is that lattice just if the other lies in it -/
theorem sum_same {s t : ByteArray} {n : Nat} {T1 T2 R : Lat.St} (h1 : DecOK s n T1) (h2 : DecOK t n T2) (hR : Lat.CanonOf R (vecs (basisRows n T2 ++ basisRows n T1))) (hf : Flat n R) :
    basisRows n R = basisRows n T2 ↔ SubL T1 T2 := by
  rw [vecs_append] at hR
  constructor
  · intro e v hv
    have m : Lat.Mem R v := (hR.span v).2 (Lat.InSpan.sub_list (fun g hg => Lat.InSpan.of_mem (by simp [hg])) ((basis_span h1.n1 h1.n3 h1.shape h1.flat v).2 hv))
    rw [← basis_span h1.n1 h1.n3 hR.shape hf, e, basis_span h2.n1 h2.n3 h2.shape h2.flat] at m
    exact m
  · intro h
    have : R = T2 := Lat.one_basis hR.shape h2.shape (fun u => by
      rw [hR.span u]
      constructor
      · intro hu
        refine Lat.InSpan.lift (P := fun v => Lat.Mem T2 v) (Lat.Mem.zero T2) (fun _ _ x y p q => x.comb y p q) (fun g hg => ?_) hu
        rw [List.mem_append] at hg
        rcases hg with hg | hg
        · exact h _ ((basis_span h1.n1 h1.n3 h1.shape h1.flat g).1 (Lat.InSpan.of_mem hg))
        · exact (basis_span h2.n1 h2.n3 h2.shape h2.flat g).1 (Lat.InSpan.of_mem hg)
      · intro hu
        exact Lat.InSpan.sub_list (fun g hg => Lat.InSpan.of_mem (by simp [hg])) ((basis_span h2.n1 h2.n3 h2.shape h2.flat u).2 hu))
    rw [this]

/-- the answer of Within -/
def WithinEnd (s t : ByteArray) (e : Ending) : Prop :=
  (∃ (n : Nat) (T1 T2 : Lat.St) (r : Bool), DecOK s n T1 ∧ DecOK t n T2 ∧ e = .returned (.tuple #[.bool r, .int .i64 0]) ∧ (r = true ↔ SubL T1 T2)) ∨ (∃ c, PairNo s t c ∧ e = .returned (.tuple #[.bool false, .int .i64 c]))

theorem within_one {s t : ByteArray} {e e' : Ending} (h : WithinEnd s t e) (h' : WithinEnd s t e') : ∃ x c, e = .returned (.tuple #[.bool x, .int .i64 c]) ∧ e' = .returned (.tuple #[.bool x, .int .i64 c]) := by
  rcases h with ⟨n, T1, T2, r, a, b, rfl, hr⟩ | ⟨c, hN, rfl⟩
  · rcases h' with ⟨n', U1, U2, r', a', b', rfl, hr'⟩ | ⟨c, hN, rfl⟩
    · obtain ⟨rfl, rfl⟩ := a.one a'
      obtain ⟨_, rfl⟩ := b.one b'
      have : r = r' := by rw [Bool.eq_iff_iff, hr, hr']
      subst this
      exact ⟨_, _, rfl, rfl⟩
    · exact (hN.not a b).elim
  · rcases h' with ⟨n', U1, U2, r', a', b', _⟩ | ⟨c', hN', rfl⟩
    · exact (hN.not a' b').elim
    · obtain rfl := hN.one hN'
      exact ⟨_, _, rfl, rfl⟩

set_option maxRecDepth 100000 in
set_option maxHeartbeats 4000000 in
theorem latWithin_any (s t : ByteArray) (w : World) :
    Calls Tryz.prog 31 #[.string s, .string t] w fun e w' => WithinEnd s t e ∧ Below w.heap.size w w' := by
  have HP := hide0 (fun w0 => readPair_any s t w0)
  have hi80 : (Tryz.prog.info? 83).map (·.size) = some 19 := by kernel_rfl
  go_enter Tryz.func31, Tryz.ntmps31
  go_wp2_with fail
  refine (HP.out _).mono ?_
  rintro e w1 ⟨hR, hb1⟩
  have hs1 := hb1.size
  rcases hR with ⟨n, T1, T2, h1, h2, rfl⟩ | ⟨c, hN, rfl⟩
  · have H1 := hide0 h1
    have H2 := hide0 h2
    have HI := hide0 (fun w0 => spanWithin_any T1 T2 w0 h1.fits h2.shape h2.fits)
    have k1 := (Blk.new w1 #[.int .i64 0, .int .i64 0, .int .i64 0, .int .i64 0, .int .i64 0, .int .i64 0, .int .i64 0, .int .i64 0, .int .i64 0, .int .i64 0, .int .i64 0, .int .i64 0, .int .i64 0, .int .i64 0, .int .i64 0, .int .i64 0, .int .i64 0, .int .i64 0, .int .i64 0] 83 rfl).setRow #[.int .i64 (n : Int), .int .i64 T1.a.x, .int .i64 T1.a.y, .int .i64 T1.a.z, .int .i64 T1.b.x, .int .i64 T1.b.y, .int .i64 T1.b.z, .int .i64 T1.c.x, .int .i64 T1.c.y, .int .i64 T1.c.z, .int .i64 T2.a.x, .int .i64 T2.a.y, .int .i64 T2.a.z, .int .i64 T2.b.x, .int .i64 T2.b.y, .int .i64 T2.b.z, .int .i64 T2.c.x, .int .i64 T2.c.y, .int .i64 T2.c.z]
    have k0 := Blk.new w1 #[.int .i64 0, .int .i64 0, .int .i64 0, .int .i64 0, .int .i64 0, .int .i64 0, .int .i64 0, .int .i64 0, .int .i64 0, .int .i64 0, .int .i64 0, .int .i64 0, .int .i64 0, .int .i64 0, .int .i64 0, .int .i64 0, .int .i64 0, .int .i64 0, .int .i64 0] 83 rfl
    have hall : (#[.int .i64 (n : Int), .int .i64 T1.a.x, .int .i64 T1.a.y, .int .i64 T1.a.z, .int .i64 T1.b.x, .int .i64 T1.b.y, .int .i64 T1.b.z, .int .i64 T1.c.x, .int .i64 T1.c.y, .int .i64 T1.c.z, .int .i64 T2.a.x, .int .i64 T2.a.y, .int .i64 T2.a.z, .int .i64 T2.b.x, .int .i64 T2.b.y, .int .i64 T2.b.z, .int .i64 T2.c.x, .int .i64 T2.c.y, .int .i64 T2.c.z] : Array Value).all (·.oneCell') = true := by simp [Value.oneCell']
    have hB1 : Below w.heap.size w ((w1.alloc (.cells #[.int .i64 0, .int .i64 0, .int .i64 0, .int .i64 0, .int .i64 0, .int .i64 0, .int .i64 0, .int .i64 0, .int .i64 0, .int .i64 0, .int .i64 0, .int .i64 0, .int .i64 0, .int .i64 0, .int .i64 0, .int .i64 0, .int .i64 0, .int .i64 0, .int .i64 0] 83)).setRow w1.heap.size #[.int .i64 (n : Int), .int .i64 T1.a.x, .int .i64 T1.a.y, .int .i64 T1.a.z, .int .i64 T1.b.x, .int .i64 T1.b.y, .int .i64 T1.b.z, .int .i64 T1.c.x, .int .i64 T1.c.y, .int .i64 T1.c.z, .int .i64 T2.a.x, .int .i64 T2.a.y, .int .i64 T2.a.z, .int .i64 T2.b.x, .int .i64 T2.b.y, .int .i64 T2.b.z, .int .i64 T2.c.x, .int .i64 T2.c.y, .int .i64 T2.c.z]) := below_setRow (hb1.alloc hb1.size _) hs1 _
    have c0 := k1.cell 0
    have c1 := k1.cell 1
    have c2 := k1.cell 2
    have c3 := k1.cell 3
    have c4 := k1.cell 4
    have c5 := k1.cell 5
    have c6 := k1.cell 6
    have c7 := k1.cell 7
    have c8 := k1.cell 8
    have c9 := k1.cell 9
    have c10 := k1.cell 10
    have c11 := k1.cell 11
    have c12 := k1.cell 12
    have c13 := k1.cell 13
    have c14 := k1.cell 14
    have c15 := k1.cell 15
    have c16 := k1.cell 16
    have c17 := k1.cell 17
    have c18 := k1.cell 18
    simp at c0 c1 c2 c3 c4 c5 c6 c7 c8 c9 c10 c11 c12 c13 c14 c15 c16 c17 c18
    clear h1 h2
    go_wp2_with (refine wpList_store_row rfl 83 (.tmp 6) (.tmp 12) rfl w1.heap.size #[.int .i64 (n : Int), .int .i64 T1.a.x, .int .i64 T1.a.y, .int .i64 T1.a.z, .int .i64 T1.b.x, .int .i64 T1.b.y, .int .i64 T1.b.z, .int .i64 T1.c.x, .int .i64 T1.c.y, .int .i64 T1.c.z, .int .i64 T2.a.x, .int .i64 T2.a.y, .int .i64 T2.a.z, .int .i64 T2.b.x, .int .i64 T2.b.y, .int .i64 T2.b.z, .int .i64 T2.c.x, .int .i64 T2.c.y, .int .i64 T2.c.z] rfl rfl 83 #[.int .i64 0, .int .i64 0, .int .i64 0, .int .i64 0, .int .i64 0, .int .i64 0, .int .i64 0, .int .i64 0, .int .i64 0, .int .i64 0, .int .i64 0, .int .i64 0, .int .i64 0, .int .i64 0, .int .i64 0, .int .i64 0, .int .i64 0, .int .i64 0, .int .i64 0] k0 hi80 rfl hall ?_)
    refine (HI.out _).mono ?_
    rintro e w2 ⟨⟨r, rfl, hr⟩, hb2⟩
    have HRR := hide0 hr
    clear hr c0 c1 c2 c3 c4 c5 c6 c7 c8 c9 c10 c11 c12 c13 c14 c15 c16 c17 c18
    go_wp2
    go_ret2
    exact ⟨Or.inl ⟨n, T1, T2, r, H1.out, H2.out, rfl, HRR.out.trans sub_rows.symm⟩, hB1.trans (hb2.mono hB1.size)⟩
  · have HN := hide0 hN
    have hc := hN.ne
    have k0 := Blk.new w1 #[.int .i64 0, .int .i64 0, .int .i64 0, .int .i64 0, .int .i64 0, .int .i64 0, .int .i64 0, .int .i64 0, .int .i64 0, .int .i64 0, .int .i64 0, .int .i64 0, .int .i64 0, .int .i64 0, .int .i64 0, .int .i64 0, .int .i64 0, .int .i64 0, .int .i64 0] 83 rfl
    have hall : (#[.int .i64 0, .int .i64 0, .int .i64 0, .int .i64 0, .int .i64 0, .int .i64 0, .int .i64 0, .int .i64 0, .int .i64 0, .int .i64 0, .int .i64 0, .int .i64 0, .int .i64 0, .int .i64 0, .int .i64 0, .int .i64 0, .int .i64 0, .int .i64 0, .int .i64 0] : Array Value).all (·.oneCell') = true := by simp [Value.oneCell']
    clear hN
    go_wp2_with (refine wpList_store_row rfl 83 (.tmp 6) (.tmp 12) rfl w1.heap.size #[.int .i64 0, .int .i64 0, .int .i64 0, .int .i64 0, .int .i64 0, .int .i64 0, .int .i64 0, .int .i64 0, .int .i64 0, .int .i64 0, .int .i64 0, .int .i64 0, .int .i64 0, .int .i64 0, .int .i64 0, .int .i64 0, .int .i64 0, .int .i64 0, .int .i64 0] rfl rfl 83 #[.int .i64 0, .int .i64 0, .int .i64 0, .int .i64 0, .int .i64 0, .int .i64 0, .int .i64 0, .int .i64 0, .int .i64 0, .int .i64 0, .int .i64 0, .int .i64 0, .int .i64 0, .int .i64 0, .int .i64 0, .int .i64 0, .int .i64 0, .int .i64 0, .int .i64 0] k0 hi80 rfl hall ?_)
    go_ret2
    exact ⟨Or.inr ⟨c, HN.out, rfl⟩, below_setRow (hb1.alloc hb1.size _) hs1 _⟩

/-- the reference's answer of both -/
def BothEnd (s t : ByteArray) (w' : World) (e : Ending) : Prop :=
  (∃ n T1 T2 a b, DecOK s n T1 ∧ DecOK t n T2 ∧ e = .returned (.tuple #[.int .i64 (n : Nat), a, b, .int .i64 0]) ∧ RowsAt w' a (basisRows n T1) ∧ RowsAt w' b (basisRows n T2)) ∨
  (∃ c, PairNo s t c ∧ e = .returned (.tuple #[.int .i64 0, .slice none 0 0, .slice none 0 0, .int .i64 c]))

theorem results_tmp4 {fn : Func} {t u v x : Tmp} (h : fn.results = #[.tmp t, .tmp u, .tmp v, .tmp x]) (tmps : Array Value) (P : Program) (w : World) :
    (results fn tmps).run P w = .ok (.tuple #[tmps.getD t undef, tmps.getD u undef, tmps.getD v undef, tmps.getD x undef]) w := by
  simp [results, h]

set_option maxRecDepth 100000 in
set_option maxHeartbeats 4000000 in
theorem both_any (s t : ByteArray) (w : World) :
    Calls Tryz.prog 55 #[.string s, .string t] w fun e w' => BothEnd s t w' e ∧ Below w.heap.size w w' := by
  have HS := hide0 (fun w0 => rdecode_any s w0)
  have HT := hide0 (fun w0 => rdecode_any t w0)
  go_enter Tryz.func55, Tryz.ntmps55
  go_wp2_with fail
  refine (HS.out _).mono ?_
  rintro e w1 ⟨hR, hb1⟩
  have hs1 := hb1.size
  rcases hR with ⟨n, T1, a, hd, rfl, hA⟩ | ⟨hd, rfl⟩
  · have HD1 := hide0 hd
    have HA := hide0 hA
    clear hd hA
    go_wp2_with fail
    refine (HT.out _).mono ?_
    rintro e w2 ⟨hR2, hb2⟩
    have HB2 := hide0 (hb1.trans (hb2.mono hs1))
    rcases hR2 with ⟨m, T2, b, hd2, rfl, hB⟩ | ⟨hd2, rfl⟩
    · have HD2 := hide0 hd2
      have HA2 := hide0 (HA.out.below hb2)
      have HBB := hide0 hB
      clear hd2 hB hb2 HA
      by_cases hnm : n = m
      · subst hnm
        have hnn : ((n : Int) != (n : Int)) = false := by simp
        go_wp2
        refine bodyPost_ret (results_tmp4 rfl _ _ _) rfl ?_
        exact ⟨Or.inl ⟨n, T1, T2, a, b, HD1.out, HD2.out, rfl, HA2.out, HBB.out⟩, HB2.out⟩
      · have HN : Hid (PairNo s t 1) := Or.inr ⟨rfl, n, m, T1, T2, HD1.out, HD2.out, hnm⟩
        have hnn : ((n : Int) != (m : Int)) = true := by rw [bne_iff_ne]; omega
        clear hnm
        go_wp2
        refine bodyPost_ret (results_tmp4 rfl _ _ _) rfl ?_
        exact ⟨Or.inr ⟨1, HN.out, rfl⟩, HB2.out⟩
    · have HN : Hid (PairNo s t 4) := Or.inl ⟨rfl, Or.inr hd2⟩
      clear hd2 hb2
      go_wp2
      refine bodyPost_ret (results_tmp4 rfl _ _ _) rfl ?_
      exact ⟨Or.inr ⟨4, HN.out, rfl⟩, HB2.out⟩
  · have HN : Hid (PairNo s t 4) := Or.inl ⟨rfl, Or.inl hd⟩
    clear hd
    go_wp2
    refine bodyPost_ret (results_tmp4 rfl _ _ _) rfl ?_
    exact ⟨Or.inr ⟨4, HN.out, rfl⟩, hb1⟩

set_option maxRecDepth 100000 in
set_option maxHeartbeats 4000000 in
theorem rjoin_any (s t : ByteArray) (w : World) :
    Calls Tryz.prog 30 #[.string s, .string t] w fun e w' => JoinEnd s t e ∧ Below w.heap.size w w' := by
  have HP := hide0 (fun w0 => both_any s t w0)
  go_enter Tryz.func30, Tryz.ntmps30
  go_wp2_with fail
  refine (HP.out _).mono ?_
  rintro e w1 ⟨hR, hb1⟩
  have hs1 := hb1.size
  rcases hR with ⟨n, T1, T2, a, b, h1, h2, rfl, hA, hB⟩ | ⟨c, hN, rfl⟩
  · have H1 := hide0 h1
    have H2 := hide0 h2
    have HW := hide0 (rwith_any a b _ _ w1 hA hB (Nat.le_trans (basis_len _ _) (by decide)) (Nat.le_trans (basis_len _ _) (by decide)))
    clear h1 h2 hA hB
    go_wp2_with fail
    refine HW.out.mono ?_
    rintro e w2 ⟨out, rfl, hO, hb2⟩
    have hs2 := hb2.size
    have HE := hide0 (rencode_any n _ _ _ hO)
    have HB2 := hide0 (hb1.trans (hb2.mono hs1))
    clear hO hb2
    go_wp2_with fail
    refine HE.out.mono ?_
    rintro e w3 ⟨hE, hb3⟩
    have HE3 := hide0 hE
    have HB3 := hide0 (HB2.out.trans (hb3.mono (by omega)))
    obtain ⟨TT, c3, _, he3⟩ := hE
    subst he3
    generalize (if c3 = 0 then txt (n : Int) TT else ⟨#[]⟩) = s3 at *
    clear hb3
    go_wp2
    go_ret2
    exact ⟨Or.inl ⟨n, T1, T2, H1.out, H2.out, HE3.out⟩, HB3.out⟩
  · have HN := hide0 hN
    have hc := hN.ne
    clear hN
    go_wp2
    go_ret2
    exact ⟨Or.inr ⟨c, HN.out, rfl⟩, hb1⟩

set_option maxRecDepth 100000 in
set_option maxHeartbeats 4000000 in
theorem rwithin_any (s t : ByteArray) (w : World) :
    Calls Tryz.prog 32 #[.string s, .string t] w fun e w' => WithinEnd s t e ∧ Below w.heap.size w w' := by
  have HP := hide0 (fun w0 => both_any s t w0)
  go_enter Tryz.func32, Tryz.ntmps32
  go_wp2_with fail
  refine (HP.out _).mono ?_
  rintro e w1 ⟨hR, hb1⟩
  have hs1 := hb1.size
  rcases hR with ⟨n, T1, T2, a, b, h1, h2, rfl, hA, hB⟩ | ⟨c, hN, rfl⟩
  · have H1 := hide0 h1
    have H2 := hide0 h2
    have HBb := hide0 hB
    have hn1 := h1.n1
    have hn3 := h1.n3
    have HG := hide0 (given_ok (pair_given h2.n1 h2.n3 h2.fits h1.fits)).2.2.2
    have HW := hide0 (rwith_any b a _ _ w1 hB hA (Nat.le_trans (basis_len _ _) (by decide)) (Nat.le_trans (basis_len _ _) (by decide)))
    clear h1 h2 hA hB
    go_wp2_with fail
    refine HW.out.mono ?_
    rintro e w2 ⟨out, rfl, hO, hb2⟩
    have hs2 := hb2.size
    have hCA := rcanon_any n out _ w2 hO (by omega) (by omega) (by have := basis_len n T1; have := basis_len n T2; rw [List.length_append]; omega) HG.out
    rw [Int.toNat_natCast] at hCA
    have HCA := hide0 hCA
    have HB2 := hide0 (hb1.trans (hb2.mono hs1))
    have HBb2 := hide0 (HBb.out.below hb2)
    clear hO hb2 hCA HBb
    go_wp2_with fail
    refine HCA.out.mono ?_
    rintro e w3 ⟨R, cc, hC, rfl, hRo, hb3⟩
    replace hRo := hRo.now
    have hs3 := hb3.size
    have hfl : Flat n R := flat_of hC (fun zs hz => by
      rw [List.mem_append] at hz
      rcases hz with hz | hz <;> exact basisRows_each hn3 zs hz)
    have HSS := hide0 (sum_same H1.out H2.out hC hfl)
    have hSM := rsame_any cc b _ _ w3 hRo (HBb2.out.below hb3) (Nat.le_trans (basis_len _ _) (by decide)) (fun zs hz => by rw [basisRows_each hn3 zs hz]; omega) (fun zs hz => by rw [basisRows_each hn3 zs hz]; omega)
    have HSM := hide0 hSM
    have HB3 := hide0 (HB2.out.trans (hb3.mono (by omega)))
    clear hC hRo hb3 hfl hSM
    go_wp2_with fail
    refine HSM.out.mono ?_
    rintro e w4 ⟨⟨r, rfl, hr⟩, hb4⟩
    have HRR := hide0 hr
    have HB4 := hide0 (HB3.out.trans (hb4.mono (by omega)))
    clear hr hb4
    go_wp2
    go_ret2
    exact ⟨Or.inl ⟨n, T1, T2, r, H1.out, H2.out, rfl, HRR.out.trans HSS.out⟩, HB4.out⟩
  · have HN := hide0 hN
    have hc := hN.ne
    clear hN
    go_wp2
    go_ret2
    exact ⟨Or.inr ⟨c, HN.out, rfl⟩, hb1⟩

set_option maxRecDepth 100000 in
set_option maxHeartbeats 4000000 in
theorem joins_walk (s t : ByteArray) (w : World) :
    Calls Tryz.prog 9 #[.string s, .string t] w fun e w' => e = .returned (.bool true) ∧ Below w.heap.size w w' := by
  have HJ := hide0 (fun w0 => join_any s t w0)
  have HRJ := hide0 (fun w0 => rjoin_any s t w0)
  have HI := hide0 (fun w0 => latWithin_any s t w0)
  have HRI := hide0 (fun w0 => rwithin_any s t w0)
  go_enter Tryz.func9, Tryz.ntmps9
  go_wp2_with fail
  refine (HJ.out _).mono ?_
  rintro e w1 ⟨hE1, hb1⟩
  have hs1 := hb1.size
  have HE1 := hide0 hE1
  obtain ⟨x, c, e1, _⟩ := join_one hE1 hE1
  subst e1
  clear hE1
  go_wp2_with fail
  refine (HRJ.out _).mono ?_
  rintro e w2 ⟨hE2, hb2⟩
  have hs2 := hb2.size
  have HB2 := hide0 (hb1.trans (hb2.mono hs1))
  obtain ⟨x', c', e1, e2⟩ := join_one HE1.out hE2
  injection e1 with e1; injection e1 with e1
  simp at e1
  obtain ⟨rfl, rfl⟩ := e1
  subst e2
  have hss := eqlStr x
  have hcc : (c != c) = false := by simp
  clear hE2 hb2
  go_wp2_with fail
  refine (HI.out _).mono ?_
  rintro e w3 ⟨hE3, hb3⟩
  have hs3 := hb3.size
  have HB3 := hide0 (HB2.out.trans (hb3.mono (by omega)))
  have HE3 := hide0 hE3
  obtain ⟨y, g, e1, _⟩ := within_one hE3 hE3
  subst e1
  clear hE3 hb3
  go_wp2_with fail
  refine (HRI.out _).mono ?_
  rintro e w4 ⟨hE4, hb4⟩
  have HB4 := hide0 (HB3.out.trans (hb4.mono (by omega)))
  obtain ⟨y', g', e1, e2⟩ := within_one HE3.out hE4
  injection e1 with e1; injection e1 with e1
  simp at e1
  obtain ⟨rfl, rfl⟩ := e1
  subst e2
  have hyy : (y == y) = true := by simp
  have hgg : (g == g) = true := by simp
  clear hE4 hb4
  go_wp2
  go_ret
  exact ⟨rfl, HB4.out⟩

end Go.Proofs.YtmlcblnndihjoaaGreat
