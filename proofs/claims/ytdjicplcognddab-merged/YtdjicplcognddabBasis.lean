import Derived.Test.YtdjicplcognddabSRows
namespace Go.Proofs.Ytdjicplcognddab
open Go.RowKit

theorem hide {p : Prop} (h : p) : Hid p := h

/-- the answer of Basis -/
def BasisEnd (B : Nat) (n : Int) (zss : List (List Int)) (w' : World) (e : Ending) : Prop :=
  ∃ T c out, Gen n zss T c ∧ e = .returned (.tuple #[out, .int .i64 c]) ∧ ((c ≠ 0 ∧ out = .slice none 0 0) ∨ (c = 0 ∧ out ≠ .slice none 0 0 ∧ ∃ vs, RowsOwn w' B out vs (basisRows n.toNat T) n.toNat))

set_option maxHeartbeats 1000000 in
theorem basis_any (n : Int) (v : Value) (zss : List (List Int)) (w : World) (hv : RowsAt w v zss) :
    Calls Try.prog 7 #[.int .i64 n, v] w fun e w' => BasisEnd w.heap.size n zss w' e ∧ Below w.heap.size w w' := by
  go_enter Try.func7, Try.ntmps7
  go_wp2_with fail
  refine (generated_any n v zss _ hv).mono ?_
  rintro e w1 ⟨T, c, hg, rfl, hb1⟩
  have HG : Hid (Gen n zss T c) := hg
  have hs1 := hb1.size
  by_cases hc : c = 0
  · have hg2 : 1 ≤ n ∧ n ≤ 3 := by
      rcases hg with ⟨_, h⟩ | ⟨h0, T', _, _⟩
      · exact absurd hc h
      · have := given_ok h0; exact ⟨this.1, this.2.1⟩
    subst hc
    have HI : Hid (∀ w0, Calls Try.prog 17 #[.agg #[.int .i64 T.a.x, .int .i64 T.a.y, .int .i64 T.a.z, .int .i64 T.b.x, .int .i64 T.b.y, .int .i64 T.b.z, .int .i64 T.c.x, .int .i64 T.c.y, .int .i64 T.c.z], .int .i64 n] w0 fun e w' => RowsOut w0.heap.size n.toNat T w' e ∧ Below w0.heap.size w0 w') := fun w0 => by
      have := spanRows_any T n.toNat w0 (by omega) (by omega)
      rw [Int.toNat_of_nonneg (by omega)] at this
      exact this
    clear hg hg2
    go_wp2_with fail
    refine (HI.out _).mono ?_
    rintro e w2 ⟨⟨out, vs, rfl, hO, hnn⟩, hb2⟩
    have HO : Hid (RowsOwn w2 w.heap.size out vs (basisRows n.toNat T) n.toNat ∧ out ≠ .slice none 0 0) := ⟨hO.base (by simp; omega), hnn⟩
    clear hO hnn
    go_wp2
    go_ret2
    exact ⟨⟨T, 0, out, HG.out, rfl, Or.inr ⟨rfl, HO.out.2, vs, HO.out.1⟩⟩, (hb1.alloc hb1.size _).trans (hb2.mono (by simp; omega))⟩
  · have hn : (c != 0) = true := by simpa using hc
    have HN : Hid (¬ c = 0) := hc
    clear hg hc
    go_wp2
    go_ret2
    exact ⟨⟨T, c, _, HG.out, rfl, Or.inl ⟨HN.out, rfl⟩⟩, hb1.alloc hb1.size _⟩

/-- the answer of Has -/
def HasOut (n : Int) (zss : List (List Int)) (zs : List Int) (e : Ending) : Prop :=
  ∃ (r : Bool) (c : Int) (T : Lat.St), e = .returned (.tuple #[.bool r, .int .i64 c]) ∧
    (((decide (1 ≤ n) && decide (n ≤ 3)) = false ∧ c = 1 ∧ r = false) ∨
     ((decide (1 ≤ n) && decide (n ≤ 3)) = true ∧ goodB n zs = false ∧ c = 2 ∧ r = false) ∨
     ((decide (1 ≤ n) && decide (n ≤ 3)) = true ∧ goodB n zs = true ∧ Gen n zss T c ∧ (c ≠ 0 → r = false) ∧ (c = 0 → (r = true ↔ Lat.Mem T (vecOf zs)))))

end Go.Proofs.Ytdjicplcognddab
