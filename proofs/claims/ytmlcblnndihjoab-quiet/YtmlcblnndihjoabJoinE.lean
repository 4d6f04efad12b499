import Derived.Test.YtmlcblnndihjoabJoinD
set_option linter.unusedSimpArgs false
set_option linter.unusedVariables false
namespace Go.Proofs.Ytmlcblnndihjoab
open Go.RowKit

/-- does the one lattice lie in the other? -/
def SubL (T1 T2 : Lat.St) : Prop := ∀ v, Lat.Mem T1 v → Lat.Mem T2 v

theorem sub_rows {T1 T2 : Lat.St} : SubL T1 T2 ↔ (Lat.Mem T2 T1.a ∧ Lat.Mem T2 T1.b ∧ Lat.Mem T2 T1.c) := by
  constructor
  · intro h; exact ⟨h _ (Lat.Mem.ra T1), h _ (Lat.Mem.rb T1), h _ (Lat.Mem.rc T1)⟩
  · rintro ⟨a, b, c⟩ v hv
    exact Lat.InSpan.lift (P := fun v => Lat.Mem T2 v) (Lat.Mem.zero T2) (fun _ _ x y p q => x.comb y p q) (fun g hg => by
      simp only [List.mem_cons, List.not_mem_nil, or_false] at hg
      rcases hg with rfl | rfl | rfl
      · exact a
      · exact b
      · exact c) ((Lat.Mem.iff_span T1 v).1 hv)

/-- the sum of a lattice and one more is that lattice just if the other lies in it -/
theorem sum_same {s t : ByteArray} {n : Nat} {T1 T2 R : Lat.St} (h1 : DecOK s n T1) (h2 : DecOK t n T2) (hR : Lat.CanonOf R (vecs (basisRows n T2 ++ basisRows n T1))) (hf : Flat n R) :
    basisRows n R = basisRows n T2 ↔ SubL T1 T2 := by
  rw [vecs_append] at hR
  constructor
  · intro e v hv
    have m : Lat.Mem R v := (hR.span v).2 (Lat.InSpan.sub_list (fun g hg => Lat.InSpan.of_mem (by simp [hg])) ((basis_span h1.n1 h1.n3 h1.shape h1.flat v).2 hv))
    rw [← basis_span h1.n1 h1.n3 hR.shape hf, e, basis_span h2.n1 h2.n3 h2.shape h2.flat] at m
    exact m
  · intro h
    have : R = T2 := Lat.one_basis hR.shape h2.shape (fun u => by
      rw [hR.span u]
      constructor
      · intro hu
        refine Lat.InSpan.lift (P := fun v => Lat.Mem T2 v) (Lat.Mem.zero T2) (fun _ _ x y p q => x.comb y p q) (fun g hg => ?_) hu
        rw [List.mem_append] at hg
        rcases hg with hg | hg
        · exact h _ ((basis_span h1.n1 h1.n3 h1.shape h1.flat g).1 (Lat.InSpan.of_mem hg))
        · exact (basis_span h2.n1 h2.n3 h2.shape h2.flat g).1 (Lat.InSpan.of_mem hg)
      · intro hu
        exact Lat.InSpan.sub_list (fun g hg => Lat.InSpan.of_mem (by simp [hg])) ((basis_span h2.n1 h2.n3 h2.shape h2.flat u).2 hu))
    rw [this]

/-- the answer of Within -/
def WithinEnd (s t : ByteArray) (e : Ending) : Prop :=
  (∃ (n : Nat) (T1 T2 : Lat.St) (r : Bool), DecOK s n T1 ∧ DecOK t n T2 ∧ e = .returned (.tuple #[.bool r, .int .i64 0]) ∧ (r = true ↔ SubL T1 T2)) ∨ (∃ c, PairNo s t c ∧ e = .returned (.tuple #[.bool false, .int .i64 c]))

theorem within_one {s t : ByteArray} {e e' : Ending} (h : WithinEnd s t e) (h' : WithinEnd s t e') : ∃ x c, e = .returned (.tuple #[.bool x, .int .i64 c]) ∧ e' = .returned (.tuple #[.bool x, .int .i64 c]) := by
  rcases h with ⟨n, T1, T2, r, a, b, rfl, hr⟩ | ⟨c, hN, rfl⟩
  · rcases h' with ⟨n', U1, U2, r', a', b', rfl, hr'⟩ | ⟨c, hN, rfl⟩
    · obtain ⟨rfl, rfl⟩ := a.one a'
      obtain ⟨_, rfl⟩ := b.one b'
      have : r = r' := by rw [Bool.eq_iff_iff, hr, hr']
      subst this
      exact ⟨_, _, rfl, rfl⟩
    · exact (hN.not a b).elim
  · rcases h' with ⟨n', U1, U2, r', a', b', _⟩ | ⟨c', hN', rfl⟩
    · exact (hN.not a' b').elim
    · obtain rfl := hN.one hN'
      exact ⟨_, _, rfl, rfl⟩

set_option maxRecDepth 100000 in
set_option maxHeartbeats 4000000 in
theorem latWithin_any (s t : ByteArray) (w : World) :
    Calls Try.prog 26 #[.string s, .string t] w fun e w' => WithinEnd s t e ∧ Below w.heap.size w w' := by
  have HP := hide0 (fun w0 => readPair_any s t w0)
  have hi80 : (Try.prog.info? 91).map (·.size) = some 19 := by kernel_rfl
  go_enter Try.func26, Try.ntmps26
  go_wp2_with fail
  refine (HP.out _).mono ?_
  rintro e w1 ⟨hR, hb1⟩
  have hs1 := hb1.size
  rcases hR with ⟨n, T1, T2, h1, h2, rfl⟩ | ⟨c, hN, rfl⟩
  · have H1 := hide0 h1
    have H2 := hide0 h2
    have HI := hide0 (fun w0 => spanWithin_any T1 T2 w0 h1.fits h2.shape h2.fits)
    have k1 := (Blk.new w1 #[.int .i64 0, .int .i64 0, .int .i64 0, .int .i64 0, .int .i64 0, .int .i64 0, .int .i64 0, .int .i64 0, .int .i64 0, .int .i64 0, .int .i64 0, .int .i64 0, .int .i64 0, .int .i64 0, .int .i64 0, .int .i64 0, .int .i64 0, .int .i64 0, .int .i64 0] 91 rfl).setRow #[.int .i64 (n : Int), .int .i64 T1.a.x, .int .i64 T1.a.y, .int .i64 T1.a.z, .int .i64 T1.b.x, .int .i64 T1.b.y, .int .i64 T1.b.z, .int .i64 T1.c.x, .int .i64 T1.c.y, .int .i64 T1.c.z, .int .i64 T2.a.x, .int .i64 T2.a.y, .int .i64 T2.a.z, .int .i64 T2.b.x, .int .i64 T2.b.y, .int .i64 T2.b.z, .int .i64 T2.c.x, .int .i64 T2.c.y, .int .i64 T2.c.z]
    have k0 := Blk.new w1 #[.int .i64 0, .int .i64 0, .int .i64 0, .int .i64 0, .int .i64 0, .int .i64 0, .int .i64 0, .int .i64 0, .int .i64 0, .int .i64 0, .int .i64 0, .int .i64 0, .int .i64 0, .int .i64 0, .int .i64 0, .int .i64 0, .int .i64 0, .int .i64 0, .int .i64 0] 91 rfl
    have hall : (#[.int .i64 (n : Int), .int .i64 T1.a.x, .int .i64 T1.a.y, .int .i64 T1.a.z, .int .i64 T1.b.x, .int .i64 T1.b.y, .int .i64 T1.b.z, .int .i64 T1.c.x, .int .i64 T1.c.y, .int .i64 T1.c.z, .int .i64 T2.a.x, .int .i64 T2.a.y, .int .i64 T2.a.z, .int .i64 T2.b.x, .int .i64 T2.b.y, .int .i64 T2.b.z, .int .i64 T2.c.x, .int .i64 T2.c.y, .int .i64 T2.c.z] : Array Value).all (·.oneCell') = true := by simp [Value.oneCell']
    have hB1 : Below w.heap.size w ((w1.alloc (.cells #[.int .i64 0, .int .i64 0, .int .i64 0, .int .i64 0, .int .i64 0, .int .i64 0, .int .i64 0, .int .i64 0, .int .i64 0, .int .i64 0, .int .i64 0, .int .i64 0, .int .i64 0, .int .i64 0, .int .i64 0, .int .i64 0, .int .i64 0, .int .i64 0, .int .i64 0] 91)).setRow w1.heap.size #[.int .i64 (n : Int), .int .i64 T1.a.x, .int .i64 T1.a.y, .int .i64 T1.a.z, .int .i64 T1.b.x, .int .i64 T1.b.y, .int .i64 T1.b.z, .int .i64 T1.c.x, .int .i64 T1.c.y, .int .i64 T1.c.z, .int .i64 T2.a.x, .int .i64 T2.a.y, .int .i64 T2.a.z, .int .i64 T2.b.x, .int .i64 T2.b.y, .int .i64 T2.b.z, .int .i64 T2.c.x, .int .i64 T2.c.y, .int .i64 T2.c.z]) := below_setRow (hb1.alloc hb1.size _) hs1 _
    have c0 := k1.cell 0
    have c1 := k1.cell 1
    have c2 := k1.cell 2
    have c3 := k1.cell 3
    have c4 := k1.cell 4
    have c5 := k1.cell 5
    have c6 := k1.cell 6
    have c7 := k1.cell 7
    have c8 := k1.cell 8
    have c9 := k1.cell 9
    have c10 := k1.cell 10
    have c11 := k1.cell 11
    have c12 := k1.cell 12
    have c13 := k1.cell 13
    have c14 := k1.cell 14
    have c15 := k1.cell 15
    have c16 := k1.cell 16
    have c17 := k1.cell 17
    have c18 := k1.cell 18
    simp at c0 c1 c2 c3 c4 c5 c6 c7 c8 c9 c10 c11 c12 c13 c14 c15 c16 c17 c18
    clear h1 h2
    go_wp2_with (refine wpList_store_row rfl 91 (.tmp 6) (.tmp 12) rfl w1.heap.size #[.int .i64 (n : Int), .int .i64 T1.a.x, .int .i64 T1.a.y, .int .i64 T1.a.z, .int .i64 T1.b.x, .int .i64 T1.b.y, .int .i64 T1.b.z, .int .i64 T1.c.x, .int .i64 T1.c.y, .int .i64 T1.c.z, .int .i64 T2.a.x, .int .i64 T2.a.y, .int .i64 T2.a.z, .int .i64 T2.b.x, .int .i64 T2.b.y, .int .i64 T2.b.z, .int .i64 T2.c.x, .int .i64 T2.c.y, .int .i64 T2.c.z] rfl rfl 91 #[.int .i64 0, .int .i64 0, .int .i64 0, .int .i64 0, .int .i64 0, .int .i64 0, .int .i64 0, .int .i64 0, .int .i64 0, .int .i64 0, .int .i64 0, .int .i64 0, .int .i64 0, .int .i64 0, .int .i64 0, .int .i64 0, .int .i64 0, .int .i64 0, .int .i64 0] k0 hi80 rfl hall ?_)
    refine (HI.out _).mono ?_
    rintro e w2 ⟨⟨r, rfl, hr⟩, hb2⟩
    have HRR := hide0 hr
    clear hr c0 c1 c2 c3 c4 c5 c6 c7 c8 c9 c10 c11 c12 c13 c14 c15 c16 c17 c18
    go_wp2
    go_ret2
    exact ⟨Or.inl ⟨n, T1, T2, r, H1.out, H2.out, rfl, HRR.out.trans sub_rows.symm⟩, hB1.trans (hb2.mono hB1.size)⟩
  · have HN := hide0 hN
    have hc := hN.ne
    have k0 := Blk.new w1 #[.int .i64 0, .int .i64 0, .int .i64 0, .int .i64 0, .int .i64 0, .int .i64 0, .int .i64 0, .int .i64 0, .int .i64 0, .int .i64 0, .int .i64 0, .int .i64 0, .int .i64 0, .int .i64 0, .int .i64 0, .int .i64 0, .int .i64 0, .int .i64 0, .int .i64 0] 91 rfl
    have hall : (#[.int .i64 0, .int .i64 0, .int .i64 0, .int .i64 0, .int .i64 0, .int .i64 0, .int .i64 0, .int .i64 0, .int .i64 0, .int .i64 0, .int .i64 0, .int .i64 0, .int .i64 0, .int .i64 0, .int .i64 0, .int .i64 0, .int .i64 0, .int .i64 0, .int .i64 0] : Array Value).all (·.oneCell') = true := by simp [Value.oneCell']
    clear hN
    go_wp2_with (refine wpList_store_row rfl 91 (.tmp 6) (.tmp 12) rfl w1.heap.size #[.int .i64 0, .int .i64 0, .int .i64 0, .int .i64 0, .int .i64 0, .int .i64 0, .int .i64 0, .int .i64 0, .int .i64 0, .int .i64 0, .int .i64 0, .int .i64 0, .int .i64 0, .int .i64 0, .int .i64 0, .int .i64 0, .int .i64 0, .int .i64 0, .int .i64 0] rfl rfl 91 #[.int .i64 0, .int .i64 0, .int .i64 0, .int .i64 0, .int .i64 0, .int .i64 0, .int .i64 0, .int .i64 0, .int .i64 0, .int .i64 0, .int .i64 0, .int .i64 0, .int .i64 0, .int .i64 0, .int .i64 0, .int .i64 0, .int .i64 0, .int .i64 0, .int .i64 0] k0 hi80 rfl hall ?_)
    go_ret2
    exact ⟨Or.inr ⟨c, HN.out, rfl⟩, below_setRow (hb1.alloc hb1.size _) hs1 _⟩

/-- the reference's answer of both -/
def BothEnd (s t : ByteArray) (w' : World) (e : Ending) : Prop :=
  (∃ n T1 T2 a b, DecOK s n T1 ∧ DecOK t n T2 ∧ e = .returned (.tuple #[.int .i64 (n : Nat), a, b, .int .i64 0]) ∧ RowsAt w' a (basisRows n T1) ∧ RowsAt w' b (basisRows n T2)) ∨
  (∃ c, PairNo s t c ∧ e = .returned (.tuple #[.int .i64 0, .slice none 0 0, .slice none 0 0, .int .i64 c]))

theorem results_tmp4 {fn : Func} {t u v x : Tmp} (h : fn.results = #[.tmp t, .tmp u, .tmp v, .tmp x]) (tmps : Array Value) (P : Program) (w : World) :
    (results fn tmps).run P w = .ok (.tuple #[tmps.getD t undef, tmps.getD u undef, tmps.getD v undef, tmps.getD x undef]) w := by
  simp [results, h]

end Go.Proofs.Ytmlcblnndihjoab
