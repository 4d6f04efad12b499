import Derived.Test.YtmlcblnndihjoaaGreatJoinA
import Derived.Laws.Rows
import Derived.Laws.CopyOwn
set_option linter.unusedSimpArgs false
set_option linter.unusedVariables false
namespace Go.Proofs.YtmlcblnndihjoaaGreat
open Go.RowKit

theorem retRP {R : Ending → World → Prop} {a : Act} {W : World} {p : Nat} {cs : Array Value} {c : Value}
    (h : a.tmps[4]?.getD undef = .pointer (some ⟨p, 0, none⟩)) (h5 : a.tmps[5]?.getD undef = c) (k : Blk W p cs 83) (hs : cs.size = 19) (hd : a.defers = [])
    (hR : R (.returned (.tuple #[.agg cs, c])) W) : bodyPost Tryz.prog Tryz.f52 R .ret a W := by
  have hl := run_loadVar_row (P := Tryz.prog) W p 83 83 cs (0, 0) _ k Tryz.underlying83 rfl (by rw [hs]; kernel_rfl)
  refine bodyPost_ret (v := .tuple #[.agg cs, c]) ?_ hd hR
  simp [results, Tryz.results52, asAddr, h, h5, hl]

theorem Blk.setRow {w : World} {b : Nat} {cs : Array Value} {T : TypeId} (h : Blk w b cs T) (cs' : Array Value) : Blk (w.setRow b cs') b cs' T := setRow_heap _ _ _ _ _ _ h

/-- two texts that make no pair, and the error -/
def PairNo (s t : ByteArray) (c : Int) : Prop :=
  (c = 4 ∧ ((∀ n T, ¬ DecOK s n T) ∨ (∀ n T, ¬ DecOK t n T))) ∨ (c = 1 ∧ ∃ n m T1 T2, DecOK s n T1 ∧ DecOK t m T2 ∧ n ≠ m)

theorem PairNo.one {s t : ByteArray} {c c' : Int} (h : PairNo s t c) (h' : PairNo s t c') : c = c' := by
  rcases h with ⟨rfl, h⟩ | ⟨rfl, n, m, T1, T2, a, b, e⟩
  · rcases h' with ⟨rfl, _⟩ | ⟨rfl, n, m, T1, T2, a, b, e⟩
    · rfl
    · rcases h with h | h
      · exact absurd a (h _ _)
      · exact absurd b (h _ _)
  · rcases h' with ⟨rfl, h⟩ | ⟨rfl, _⟩
    · rcases h with h | h
      · exact absurd a (h _ _)
      · exact absurd b (h _ _)
    · rfl

theorem PairNo.not {s t : ByteArray} {c : Int} {n : Nat} {T1 T2 : Lat.St} (h : PairNo s t c) (h1 : DecOK s n T1) (h2 : DecOK t n T2) : False := by
  rcases h with ⟨_, h | h⟩ | ⟨_, n', m', U1, U2, a, b, e⟩
  · exact h _ _ h1
  · exact h _ _ h2
  · exact e ((a.one h1).1.trans (b.one h2).1.symm)

theorem PairNo.ne {s t : ByteArray} {c : Int} (h : PairNo s t c) : (c != 0) = true := by
  rcases h with ⟨rfl, _⟩ | ⟨rfl, _⟩ <;> rfl

/-- the answer of readPair -/
def PairEnd (s t : ByteArray) (e : Ending) : Prop :=
  (∃ (n : Nat) (T1 T2 : Lat.St), DecOK s n T1 ∧ DecOK t n T2 ∧ e = .returned (.tuple #[.agg #[.int .i64 (n : Int), .int .i64 T1.a.x, .int .i64 T1.a.y, .int .i64 T1.a.z, .int .i64 T1.b.x, .int .i64 T1.b.y, .int .i64 T1.b.z, .int .i64 T1.c.x, .int .i64 T1.c.y, .int .i64 T1.c.z, .int .i64 T2.a.x, .int .i64 T2.a.y, .int .i64 T2.a.z, .int .i64 T2.b.x, .int .i64 T2.b.y, .int .i64 T2.b.z, .int .i64 T2.c.x, .int .i64 T2.c.y, .int .i64 T2.c.z], .int .i64 0])) ∨
  (∃ c, PairNo s t c ∧ e = .returned (.tuple #[.agg #[.int .i64 0, .int .i64 0, .int .i64 0, .int .i64 0, .int .i64 0, .int .i64 0, .int .i64 0, .int .i64 0, .int .i64 0, .int .i64 0, .int .i64 0, .int .i64 0, .int .i64 0, .int .i64 0, .int .i64 0, .int .i64 0, .int .i64 0, .int .i64 0, .int .i64 0], .int .i64 c]))

set_option maxRecDepth 100000 in
set_option maxHeartbeats 4000000 in
theorem readPair_any (s t : ByteArray) (w : World) :
    Calls Tryz.prog 52 #[.string s, .string t] w fun e w' => PairEnd s t e ∧ Below w.heap.size w w' := by
  have hi80 : (Tryz.prog.info? 83).map (·.size) = some 19 := by kernel_rfl
  have hi62 : (Tryz.prog.info? 58).map (·.size) = some 9 := by kernel_rfl
  have HS := hide0 (fun w0 => read_any s w0)
  have HT := hide0 (fun w0 => read_any t w0)
  go_enter Tryz.func52, Tryz.ntmps52
  go_wp2_with fail
  refine (HS.out _).mono ?_
  rintro e w1 ⟨hR, hb1⟩
  have k1 := (Blk.new w #[.int .i64 0, .int .i64 0, .int .i64 0, .int .i64 0, .int .i64 0, .int .i64 0, .int .i64 0, .int .i64 0, .int .i64 0, .int .i64 0, .int .i64 0, .int .i64 0, .int .i64 0, .int .i64 0, .int .i64 0, .int .i64 0, .int .i64 0, .int .i64 0, .int .i64 0] 83 rfl).below hb1 (by simp)
  have hB1 : Below w.heap.size w w1 := (Below.alloc (Below.refl _ _) (Nat.le_refl _) _).trans (hb1.mono (by simp))
  have hl1 := k1.lt
  unfold ReadEnd aggS zeroS at hR
  rcases hR with ⟨n, T1, hd, rfl⟩ | ⟨hd, rfl⟩
  · have HD1 := hide0 hd
    clear hd hb1
    go_wp2_with fail
    refine (HT.out _).mono ?_
    rintro e w2 ⟨hR2, hb2⟩
    have hs1 := hB1.size
    have k2 := (k1.alloc (.cells #[.int .i64 T1.a.x, .int .i64 T1.a.y, .int .i64 T1.a.z, .int .i64 T1.b.x, .int .i64 T1.b.y, .int .i64 T1.b.z, .int .i64 T1.c.x, .int .i64 T1.c.y, .int .i64 T1.c.z] 58)).below hb2 (by simp; omega)
    have kF := (Blk.new w1 #[.int .i64 T1.a.x, .int .i64 T1.a.y, .int .i64 T1.a.z, .int .i64 T1.b.x, .int .i64 T1.b.y, .int .i64 T1.b.z, .int .i64 T1.c.x, .int .i64 T1.c.y, .int .i64 T1.c.z] 58 rfl).below hb2 (by simp)
    have hB2 : Below w.heap.size w w2 := (hB1.alloc hs1 _).trans (hb2.mono (by simp; omega))
    have hl2 := k2.lt
    have hlF := kF.lt
    unfold ReadEnd aggS zeroS at hR2
    rcases hR2 with ⟨m, T2, hd2, rfl⟩ | ⟨hd2, rfl⟩
    · have HD2 := hide0 hd2
      have hB3 : Below w.heap.size w (w2.alloc (.cells #[.int .i64 T2.a.x, .int .i64 T2.a.y, .int .i64 T2.a.z, .int .i64 T2.b.x, .int .i64 T2.b.y, .int .i64 T2.b.z, .int .i64 T2.c.x, .int .i64 T2.c.y, .int .i64 T2.c.z] 58)) := hB2.alloc hB2.size _
      have k3 := k2.alloc (.cells #[.int .i64 T2.a.x, .int .i64 T2.a.y, .int .i64 T2.a.z, .int .i64 T2.b.x, .int .i64 T2.b.y, .int .i64 T2.b.z, .int .i64 T2.c.x, .int .i64 T2.c.y, .int .i64 T2.c.z] 58)
      have kF3 := kF.alloc (.cells #[.int .i64 T2.a.x, .int .i64 T2.a.y, .int .i64 T2.a.z, .int .i64 T2.b.x, .int .i64 T2.b.y, .int .i64 T2.b.z, .int .i64 T2.c.x, .int .i64 T2.c.y, .int .i64 T2.c.z] 58)
      have kG3 := Blk.new w2 #[.int .i64 T2.a.x, .int .i64 T2.a.y, .int .i64 T2.a.z, .int .i64 T2.b.x, .int .i64 T2.b.y, .int .i64 T2.b.z, .int .i64 T2.c.x, .int .i64 T2.c.y, .int .i64 T2.c.z] 58 rfl
      clear hd2 hb2
      by_cases hnm : n = m
      · subst hnm
        have hnn : ((n : Int) != (n : Int)) = false := by simp
        have hall : (#[.int .i64 (n : Int), .int .i64 T1.a.x, .int .i64 T1.a.y, .int .i64 T1.a.z, .int .i64 T1.b.x, .int .i64 T1.b.y, .int .i64 T1.b.z, .int .i64 T1.c.x, .int .i64 T1.c.y, .int .i64 T1.c.z, .int .i64 T2.a.x, .int .i64 T2.a.y, .int .i64 T2.a.z, .int .i64 T2.b.x, .int .i64 T2.b.y, .int .i64 T2.b.z, .int .i64 T2.c.x, .int .i64 T2.c.y, .int .i64 T2.c.z] : Array Value).all (·.oneCell') = true := by simp [Value.oneCell']
        go_wp2_with (first | (refine wpList_load_row rfl 58 (.tmp 7) rfl w1.heap.size rfl 58 #[.int .i64 T1.a.x, .int .i64 T1.a.y, .int .i64 T1.a.z, .int .i64 T1.b.x, .int .i64 T1.b.y, .int .i64 T1.b.z, .int .i64 T1.c.x, .int .i64 T1.c.y, .int .i64 T1.c.z] (0, 0) _ kF3 Tryz.underlying58 rfl hi62 ?_) | (refine wpList_load_row rfl 58 (.tmp 10) rfl w2.heap.size rfl 58 #[.int .i64 T2.a.x, .int .i64 T2.a.y, .int .i64 T2.a.z, .int .i64 T2.b.x, .int .i64 T2.b.y, .int .i64 T2.b.z, .int .i64 T2.c.x, .int .i64 T2.c.y, .int .i64 T2.c.z] (0, 0) _ kG3 Tryz.underlying58 rfl hi62 ?_) | (refine wpList_store_row rfl 83 (.tmp 4) (.tmp 37) rfl w.heap.size #[.int .i64 (n : Int), .int .i64 T1.a.x, .int .i64 T1.a.y, .int .i64 T1.a.z, .int .i64 T1.b.x, .int .i64 T1.b.y, .int .i64 T1.b.z, .int .i64 T1.c.x, .int .i64 T1.c.y, .int .i64 T1.c.z, .int .i64 T2.a.x, .int .i64 T2.a.y, .int .i64 T2.a.z, .int .i64 T2.b.x, .int .i64 T2.b.y, .int .i64 T2.b.z, .int .i64 T2.c.x, .int .i64 T2.c.y, .int .i64 T2.c.z] rfl rfl 83 #[.int .i64 0, .int .i64 0, .int .i64 0, .int .i64 0, .int .i64 0, .int .i64 0, .int .i64 0, .int .i64 0, .int .i64 0, .int .i64 0, .int .i64 0, .int .i64 0, .int .i64 0, .int .i64 0, .int .i64 0, .int .i64 0, .int .i64 0, .int .i64 0, .int .i64 0] k3 hi80 rfl hall ?_))
        exact retRP (cs := #[.int .i64 (n : Int), .int .i64 T1.a.x, .int .i64 T1.a.y, .int .i64 T1.a.z, .int .i64 T1.b.x, .int .i64 T1.b.y, .int .i64 T1.b.z, .int .i64 T1.c.x, .int .i64 T1.c.y, .int .i64 T1.c.z, .int .i64 T2.a.x, .int .i64 T2.a.y, .int .i64 T2.a.z, .int .i64 T2.b.x, .int .i64 T2.b.y, .int .i64 T2.b.z, .int .i64 T2.c.x, .int .i64 T2.c.y, .int .i64 T2.c.z]) rfl rfl (k3.setRow _) rfl rfl ⟨Or.inl ⟨n, T1, T2, HD1.out, HD2.out, rfl⟩, below_setRow hB3 (Nat.le_refl _) _⟩
      · have HN : Hid (PairNo s t 1) := Or.inr ⟨rfl, n, m, T1, T2, HD1.out, HD2.out, hnm⟩
        have hnn : ((n : Int) != (m : Int)) = true := by rw [bne_iff_ne]; omega
        clear hnm
        have hall : (#[.int .i64 0, .int .i64 0, .int .i64 0, .int .i64 0, .int .i64 0, .int .i64 0, .int .i64 0, .int .i64 0, .int .i64 0, .int .i64 0, .int .i64 0, .int .i64 0, .int .i64 0, .int .i64 0, .int .i64 0, .int .i64 0, .int .i64 0, .int .i64 0, .int .i64 0] : Array Value).all (·.oneCell') = true := by simp [Value.oneCell']
        go_wp2_with (refine wpList_store_row rfl 83 (.tmp 4) (.tmp 33) rfl w.heap.size #[.int .i64 0, .int .i64 0, .int .i64 0, .int .i64 0, .int .i64 0, .int .i64 0, .int .i64 0, .int .i64 0, .int .i64 0, .int .i64 0, .int .i64 0, .int .i64 0, .int .i64 0, .int .i64 0, .int .i64 0, .int .i64 0, .int .i64 0, .int .i64 0, .int .i64 0] rfl rfl 83 #[.int .i64 0, .int .i64 0, .int .i64 0, .int .i64 0, .int .i64 0, .int .i64 0, .int .i64 0, .int .i64 0, .int .i64 0, .int .i64 0, .int .i64 0, .int .i64 0, .int .i64 0, .int .i64 0, .int .i64 0, .int .i64 0, .int .i64 0, .int .i64 0, .int .i64 0] k3 hi80 rfl hall ?_)
        exact retRP (cs := #[.int .i64 0, .int .i64 0, .int .i64 0, .int .i64 0, .int .i64 0, .int .i64 0, .int .i64 0, .int .i64 0, .int .i64 0, .int .i64 0, .int .i64 0, .int .i64 0, .int .i64 0, .int .i64 0, .int .i64 0, .int .i64 0, .int .i64 0, .int .i64 0, .int .i64 0]) rfl rfl (k3.setRow _) rfl rfl ⟨Or.inr ⟨1, HN.out, rfl⟩, below_setRow hB3 (Nat.le_refl _) _⟩
    · have HN : Hid (PairNo s t 4) := Or.inl ⟨rfl, Or.inr hd2⟩
      have hB3 : Below w.heap.size w (w2.alloc (.cells #[.int .i64 0, .int .i64 0, .int .i64 0, .int .i64 0, .int .i64 0, .int .i64 0, .int .i64 0, .int .i64 0, .int .i64 0] 58)) := hB2.alloc hB2.size _
      have k3 := k2.alloc (.cells #[.int .i64 0, .int .i64 0, .int .i64 0, .int .i64 0, .int .i64 0, .int .i64 0, .int .i64 0, .int .i64 0, .int .i64 0] 58)
      clear hd2 hb2
      have hall : (#[.int .i64 0, .int .i64 0, .int .i64 0, .int .i64 0, .int .i64 0, .int .i64 0, .int .i64 0, .int .i64 0, .int .i64 0, .int .i64 0, .int .i64 0, .int .i64 0, .int .i64 0, .int .i64 0, .int .i64 0, .int .i64 0, .int .i64 0, .int .i64 0, .int .i64 0] : Array Value).all (·.oneCell') = true := by simp [Value.oneCell']
      go_wp2_with (refine wpList_store_row rfl 83 (.tmp 4) (.tmp 29) rfl w.heap.size #[.int .i64 0, .int .i64 0, .int .i64 0, .int .i64 0, .int .i64 0, .int .i64 0, .int .i64 0, .int .i64 0, .int .i64 0, .int .i64 0, .int .i64 0, .int .i64 0, .int .i64 0, .int .i64 0, .int .i64 0, .int .i64 0, .int .i64 0, .int .i64 0, .int .i64 0] rfl rfl 83 #[.int .i64 0, .int .i64 0, .int .i64 0, .int .i64 0, .int .i64 0, .int .i64 0, .int .i64 0, .int .i64 0, .int .i64 0, .int .i64 0, .int .i64 0, .int .i64 0, .int .i64 0, .int .i64 0, .int .i64 0, .int .i64 0, .int .i64 0, .int .i64 0, .int .i64 0] k3 hi80 rfl hall ?_)
      exact retRP (cs := #[.int .i64 0, .int .i64 0, .int .i64 0, .int .i64 0, .int .i64 0, .int .i64 0, .int .i64 0, .int .i64 0, .int .i64 0, .int .i64 0, .int .i64 0, .int .i64 0, .int .i64 0, .int .i64 0, .int .i64 0, .int .i64 0, .int .i64 0, .int .i64 0, .int .i64 0]) rfl rfl (k3.setRow _) rfl rfl ⟨Or.inr ⟨4, HN.out, rfl⟩, below_setRow hB3 (Nat.le_refl _) _⟩
  · have HN : Hid (PairNo s t 4) := Or.inl ⟨rfl, Or.inl hd⟩
    have hB3 : Below w.heap.size w (w1.alloc (.cells #[.int .i64 0, .int .i64 0, .int .i64 0, .int .i64 0, .int .i64 0, .int .i64 0, .int .i64 0, .int .i64 0, .int .i64 0] 58)) := hB1.alloc hB1.size _
    have k3 := k1.alloc (.cells #[.int .i64 0, .int .i64 0, .int .i64 0, .int .i64 0, .int .i64 0, .int .i64 0, .int .i64 0, .int .i64 0, .int .i64 0] 58)
    clear hd hb1
    have hall : (#[.int .i64 0, .int .i64 0, .int .i64 0, .int .i64 0, .int .i64 0, .int .i64 0, .int .i64 0, .int .i64 0, .int .i64 0, .int .i64 0, .int .i64 0, .int .i64 0, .int .i64 0, .int .i64 0, .int .i64 0, .int .i64 0, .int .i64 0, .int .i64 0, .int .i64 0] : Array Value).all (·.oneCell') = true := by simp [Value.oneCell']
    go_wp2_with (refine wpList_store_row rfl 83 (.tmp 4) (.tmp 20) rfl w.heap.size #[.int .i64 0, .int .i64 0, .int .i64 0, .int .i64 0, .int .i64 0, .int .i64 0, .int .i64 0, .int .i64 0, .int .i64 0, .int .i64 0, .int .i64 0, .int .i64 0, .int .i64 0, .int .i64 0, .int .i64 0, .int .i64 0, .int .i64 0, .int .i64 0, .int .i64 0] rfl rfl 83 #[.int .i64 0, .int .i64 0, .int .i64 0, .int .i64 0, .int .i64 0, .int .i64 0, .int .i64 0, .int .i64 0, .int .i64 0, .int .i64 0, .int .i64 0, .int .i64 0, .int .i64 0, .int .i64 0, .int .i64 0, .int .i64 0, .int .i64 0, .int .i64 0, .int .i64 0] k3 hi80 rfl hall ?_)
    exact retRP (cs := #[.int .i64 0, .int .i64 0, .int .i64 0, .int .i64 0, .int .i64 0, .int .i64 0, .int .i64 0, .int .i64 0, .int .i64 0, .int .i64 0, .int .i64 0, .int .i64 0, .int .i64 0, .int .i64 0, .int .i64 0, .int .i64 0, .int .i64 0, .int .i64 0, .int .i64 0]) rfl rfl (k3.setRow _) rfl rfl ⟨Or.inr ⟨4, HN.out, rfl⟩, below_setRow hB3 (Nat.le_refl _) _⟩
end Go.Proofs.YtmlcblnndihjoaaGreat
