import Derived.Test.YtmlcblnndihjoabTextC
import Derived.Test.YtmlcblnndihjoabBasesW
set_option linter.unusedSimpArgs false
set_option linter.unusedVariables false
namespace Go.Proofs.Ytmlcblnndihjoab
open Go.RowKit

/-- the text of a lattice -/
def txt (n : Int) (T : Lat.St) : ByteArray := strOfNums (textN n.toNat (basisRows n.toNat T))

/-- the answer of Encode -/
def EncEnd (n : Int) (zss : List (List Int)) (e : Ending) : Prop :=
  ∃ T c, Gen n zss T c ∧ e = .returned (.tuple #[.string (if c = 0 then txt n T else ⟨#[]⟩), .int .i64 c])

theorem gen_fits {n : Int} {zss : List (List Int)} {T : Lat.St} (h : Gen n zss T 0) : FitsS T ∧ 1 ≤ n ∧ n ≤ 3 := by
  refine ⟨?_, gen_width h⟩
  rcases h with ⟨_, h⟩ | ⟨h0, T', _, ⟨h, _⟩ | ⟨_, rfl, hf⟩⟩
  · exact absurd rfl h
  · exact absurd h (by decide)
  · exact hf

theorem enc_end0 {n : Int} {zss : List (List Int)} {T : Lat.St} {s : ByteArray} (h : Gen n zss T 0) (hs : s = txt n T) : EncEnd n zss (.returned (.tuple #[.string s, .int .i64 0])) := ⟨T, 0, h, by rw [hs]; rfl⟩
theorem enc_endc {n : Int} {zss : List (List Int)} {T : Lat.St} {c : Int} (h : Gen n zss T c) (hc : ¬ c = 0) : EncEnd n zss (.returned (.tuple #[.string ⟨#[]⟩, .int .i64 c])) := ⟨T, c, h, by rw [if_neg hc]⟩

theorem enc_one {n : Int} {zss : List (List Int)} {e e' : Ending} (h : EncEnd n zss e) (h' : EncEnd n zss e') : ∃ s c, e = .returned (.tuple #[.string s, .int .i64 c]) ∧ e' = .returned (.tuple #[.string s, .int .i64 c]) := by
  obtain ⟨T, c, hg, rfl⟩ := h
  obtain ⟨T', c', hg', rfl⟩ := h'
  obtain ⟨rfl, ht⟩ := gen_one hg hg'
  refine ⟨_, _, rfl, ?_⟩
  by_cases hc : c = 0
  · rw [ht hc]
  · simp [hc]

set_option maxHeartbeats 1000000 in
theorem encode_any (n : Int) (v : Value) (zss : List (List Int)) (w : World) (hv : RowsAt w v zss) :
    Calls Try.prog 13 #[.int .i64 n, v] w fun e w' => EncEnd n zss e ∧ Below w.heap.size w w' := by
  go_enter Try.func13, Try.ntmps13
  go_wp2_with fail
  refine (generated_any n v zss _ hv).mono ?_
  rintro e w1 ⟨T, c, hg, rfl, hb1⟩
  have HG : Hid (Gen n zss T c) := hg
  have hs1 := hb1.size
  by_cases hc : c = 0
  · subst hc
    obtain ⟨hf, hn1, hn3⟩ := gen_fits hg
    have HI : Hid (∀ w0, Calls Try.prog 38 #[.int .i64 n, .agg #[.int .i64 T.a.x, .int .i64 T.a.y, .int .i64 T.a.z, .int .i64 T.b.x, .int .i64 T.b.y, .int .i64 T.b.z, .int .i64 T.c.x, .int .i64 T.c.y, .int .i64 T.c.z]] w0 fun e w' => e = .returned (.string (txt n T)) ∧ Below w0.heap.size w0 w') := fun w0 => by
      have := textOf_any T n.toNat w0 (by omega) (by omega) hf
      rw [Int.toNat_of_nonneg (by omega)] at this
      exact this
    clear hg hf hn1 hn3
    go_wp2_with fail
    refine (HI.out _).mono ?_
    rintro e w2 ⟨rfl, hb2⟩
    go_wp2
    go_ret2
    exact ⟨enc_end0 HG.out rfl, (hb1.alloc hb1.size _).trans (hb2.mono (by simp; omega))⟩
  · have hn : (c != 0) = true := by simpa using hc
    have HN : Hid (¬ c = 0) := hc
    clear hg hc
    go_wp2
    go_ret2
    exact ⟨enc_endc HG.out HN.out, hb1.alloc hb1.size _⟩

theorem eqlStr (s : ByteArray) : (s.toList == s.toList) = true := by simp

end Go.Proofs.Ytmlcblnndihjoab
