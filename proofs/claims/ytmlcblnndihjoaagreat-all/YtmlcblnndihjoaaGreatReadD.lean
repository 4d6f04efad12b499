import Derived.Test.YtmlcblnndihjoaaGreatReadC
import Derived.OwnWalk
set_option linter.unusedSimpArgs false
set_option linter.unusedVariables false
namespace Go.Proofs.YtmlcblnndihjoaaGreat
open Go.RowKit

/-- the answer of Decode -/
def DecodeEnd (B : Nat) (s : ByteArray) (w' : World) (e : Ending) : Prop :=
  (∃ n T out vs, DecOK s n T ∧ e = .returned (.tuple #[.int .i64 (n : Nat), out, .int .i64 0]) ∧ RowsOwn w' B out vs (basisRows n T) n) ∨
  ((∀ n T, ¬ DecOK s n T) ∧ e = .returned (.tuple #[.int .i64 0, .slice none 0 0, .int .i64 4]))

/-- the reference's answer of Decode -/
def RDecodeEnd (s : ByteArray) (w' : World) (e : Ending) : Prop :=
  (∃ n T out, DecOK s n T ∧ e = .returned (.tuple #[.int .i64 (n : Nat), out, .int .i64 0]) ∧ RowsAt w' out (basisRows n T)) ∨
  ((∀ n T, ¬ DecOK s n T) ∧ e = .returned (.tuple #[.int .i64 0, .slice none 0 0, .int .i64 4]))

set_option maxRecDepth 100000 in
set_option maxHeartbeats 2000000 in
theorem decode_any (s : ByteArray) (w : World) :
    Calls Tryz.prog 27 #[.string s] w fun e w' => DecodeEnd w.heap.size s w' e ∧ Below w.heap.size w w' := by
  have HH := hide0 (fun w0 => read_any s w0)
  go_enter Tryz.func27, Tryz.ntmps27
  go_wp2_with fail
  refine (HH.out _).mono ?_
  rintro e w1 ⟨hR, hb1⟩
  have hs1 := hb1.size
  rcases hR with ⟨n, T, hd, rfl⟩ | ⟨hd, rfl⟩
  · have HD := hide0 hd
    have HI := hide0 (fun w0 => spanRows_any T n w0 hd.n1 hd.n3)
    unfold aggS
    clear hd HH
    go_wp2_with fail
    refine (HI.out _).mono ?_
    rintro e w2 ⟨⟨out, vs, rfl, hO, hnn⟩, hb2⟩
    have HO := hide0 (hO.base (show w.heap.size ≤ _ by simp; omega))
    clear hO hnn
    go_wp2
    go_ret3
    exact ⟨Or.inl ⟨n, T, out, vs, HD.out, rfl, HO.out⟩, (hb1.alloc hb1.size _).trans (hb2.mono (by simp; omega))⟩
  · have HD := hide0 hd
    unfold aggS zeroS
    clear hd HH
    go_wp2
    go_ret3
    exact ⟨Or.inr ⟨HD.out, rfl⟩, hb1.alloc hb1.size _⟩

set_option maxRecDepth 100000 in
set_option maxHeartbeats 2000000 in
theorem rdecode_no (s : ByteArray) (w : World) (h : ∀ n r, ¬ Shp (nums s) n r) :
    Calls Tryz.prog 28 #[.string s] w fun e w' => e = .returned (.tuple #[.int .i64 0, .slice none 0 0, .int .i64 4]) ∧ w = w' := by
  by_cases h3 : s.size < 3
  · have h3' : ((s.size : Nat) : Int) < 3 := by omega
    clear h
    go_enter Tryz.func28, Tryz.ntmps28
    go_wp2
    go_ret3
    exact ⟨rfl, rfl⟩
  · have hx0 := index_lit s 0 (by omega) 0 rfl
    have hx1 := index_lit s 1 (by omega) 1 rfl
    have hr0 := nums_getD s 0 (by omega)
    have hr1 := nums_getD s 1 (by omega)
    generalize ha : (nums s).getD 0 0 = a at *
    generalize hc : (nums s).getD 1 0 = c at *
    have h3' : ¬ ((s.size : Nat) : Int) < 3 := by omega
    obtain ⟨ha0, ha1⟩ := hr0
    obtain ⟨hc0, hc1⟩ := hr1
    by_cases k1 : a = 1 ∨ a = 2 ∨ a = 3
    · by_cases k2 : c ≤ a
      · have hl : ∀ b : Bool, (∀ X : Int, X = 3 + 2 * (a * c) → b = (((s.size : Nat) : Int) == X) → b = false) := fun b X hX hb => by
          cases b with
          | false => rfl
          | true => exact absurd ((shp_len ha hc k1 k2 hc0 hX hb).1 rfl) (h _ _)
        have hl2 : ¬ ((s.size : Nat) : Int) = 3 + 2 * (a * c) := fun e => by
          have := hl (((s.size : Nat) : Int) == 3 + 2 * (a * c)) _ rfl rfl
          rw [e] at this; simp at this
        clear h ha hc hl
        rcases k1 with rfl | rfl | rfl
        · have hlen : (((s.size : Nat) : Int) != 3 + 2 * c) = true := by rw [bne_iff_ne]; omega
          clear hl2
          go_enter Tryz.func28, Tryz.ntmps28
          go_wp2
          go_ret3
          exact ⟨rfl, rfl⟩
        · have hlen : (((s.size : Nat) : Int) != 3 + 4 * c) = true := by rw [bne_iff_ne]; omega
          clear hl2
          go_enter Tryz.func28, Tryz.ntmps28
          go_wp2
          go_ret3
          exact ⟨rfl, rfl⟩
        · have hlen : (((s.size : Nat) : Int) != 3 + 6 * c) = true := by rw [bne_iff_ne]; omega
          clear hl2
          go_enter Tryz.func28, Tryz.ntmps28
          go_wp2
          go_ret3
          exact ⟨rfl, rfl⟩
      · have k2' : a < c := by omega
        clear k2 h ha hc
        rcases k1 with rfl | rfl | rfl
        all_goals (go_enter Tryz.func28, Tryz.ntmps28)
        all_goals go_wp2
        all_goals go_ret3
        all_goals exact ⟨rfl, rfl⟩
    · have hlt : a < 1 ∨ 3 < a := by omega
      clear k1 h ha hc
      rcases hlt with hlt | hlt
      all_goals (go_enter Tryz.func28, Tryz.ntmps28)
      all_goals go_wp2
      all_goals go_ret3
      all_goals exact ⟨rfl, rfl⟩

end Go.Proofs.YtmlcblnndihjoaaGreat
