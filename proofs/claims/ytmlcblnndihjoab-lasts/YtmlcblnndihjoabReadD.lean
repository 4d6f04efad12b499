import Derived.Test.YtmlcblnndihjoabReadC
import Derived.OwnWalk
set_option linter.unusedSimpArgs false
set_option linter.unusedVariables false
namespace Go.Proofs.Ytmlcblnndihjoab
open Go.RowKit

/-- the answer of Decode -/
def DecodeEnd (B : Nat) (s : ByteArray) (w' : World) (e : Ending) : Prop :=
  (∃ n T out vs, DecOK s n T ∧ e = .returned (.tuple #[.int .i64 (n : Nat), out, .int .i64 0]) ∧ RowsOwn w' B out vs (basisRows n T) n) ∨
  ((∀ n T, ¬ DecOK s n T) ∧ e = .returned (.tuple #[.int .i64 0, .slice none 0 0, .int .i64 4]))

/-- the reference's answer of Decode -/
def RDecodeEnd (s : ByteArray) (w' : World) (e : Ending) : Prop :=
  (∃ n T out, DecOK s n T ∧ e = .returned (.tuple #[.int .i64 (n : Nat), out, .int .i64 0]) ∧ RowsAt w' out (basisRows n T)) ∨
  ((∀ n T, ¬ DecOK s n T) ∧ e = .returned (.tuple #[.int .i64 0, .slice none 0 0, .int .i64 4]))

set_option maxRecDepth 100000 in
set_option maxHeartbeats 2000000 in
theorem decode_any (s : ByteArray) (w : World) :
    Calls Try.prog 15 #[.string s] w fun e w' => DecodeEnd w.heap.size s w' e ∧ Below w.heap.size w w' := by
  have HH := hide0 (fun w0 => read_any s w0)
  go_enter Try.func15, Try.ntmps15
  go_wp2_with fail
  refine (HH.out _).mono ?_
  rintro e w1 ⟨hR, hb1⟩
  have hs1 := hb1.size
  rcases hR with ⟨n, T, hd, rfl⟩ | ⟨hd, rfl⟩
  · have HD := hide0 hd
    have HI := hide0 (fun w0 => spanRows_any T n w0 hd.n1 hd.n3)
    unfold aggS
    clear hd HH
    go_wp2_with fail
    refine (HI.out _).mono ?_
    rintro e w2 ⟨⟨out, vs, rfl, hO, hnn⟩, hb2⟩
    have HO := hide0 (hO.base (show w.heap.size ≤ _ by simp; omega))
    clear hO hnn
    go_wp2
    go_ret3
    exact ⟨Or.inl ⟨n, T, out, vs, HD.out, rfl, HO.out⟩, (hb1.alloc hb1.size _).trans (hb2.mono (by simp; omega))⟩
  · have HD := hide0 hd
    unfold aggS zeroS
    clear hd HH
    go_wp2
    go_ret3
    exact ⟨Or.inr ⟨HD.out, rfl⟩, hb1.alloc hb1.size _⟩

end Go.Proofs.Ytmlcblnndihjoab
