import Derived.Test.YtdjicplcognddaaRefF
set_option linter.unusedSimpArgs false
set_option linter.unusedVariables false
namespace Go.Proofs.Ytdjicplcognddaa
open Go.RowKit

set_option maxHeartbeats 1000000 in
theorem oks {a b c : Lat.V} (cx : c.x = 0) (cy : c.y = 0) (cz : 0 ≤ c.z) (bx : b.x = 0) (by0 : 0 ≤ b.y) (cE : c.z.natAbs ≤ Lat.E) (bE : b.y.natAbs ≤ Lat.E) (bzE : b.z.natAbs ≤ Lat.E)
    (aE : a.x.natAbs ≤ Lat.E) (ayE : a.y.natAbs ≤ Lat.E) (azE : a.z.natAbs ≤ Lat.E) (hm : a.y.natAbs * (Lat.redB b c).z.natAbs ≤ Lat.E) :
    (0 < c.z → Lat.Ok 2 b c) ∧ (0 < b.y → Lat.Ok 1 a (Lat.tid 2 b c)) ∧ (0 < c.z → Lat.Ok 2 (Lat.tid 1 a (Lat.tid 2 b c)) c) := by
  have d0 := Lat.div_mul_le b.z c.z cz
  have e2 : Lat.tid 2 b c = Lat.redB b c := rfl
  have b2x : (Lat.redB b c).x = 0 := by simp only [Lat.redB, Lat.less]; rw [bx, cx]; simp
  have b2y : (Lat.redB b c).y = b.y := by simp only [Lat.redB, Lat.less]; rw [cy]; simp
  rw [e2]
  generalize Lat.redB b c = b2 at *
  have d2 : (a.y / b2.y * b2.z).natAbs ≤ Lat.E := by
    rw [Int.natAbs_mul]
    exact Nat.le_trans (Nat.mul_le_mul (Lat.div_le a.y b2.y (by omega)) (Nat.le_refl _)) hm
  have d1 := Lat.div_mul_le a.y b2.y (by omega)
  have tx : (Lat.tid 1 a b2).x = a.x := by simp only [Lat.tid, Lat.less]; rw [b2x]; simp
  have ty : (Lat.tid 1 a b2).y = a.y - a.y / b2.y * b2.y := rfl
  have tz : (Lat.tid 1 a b2).z = a.z - a.y / b2.y * b2.z := rfl
  have d3 := Lat.div_mul_le (Lat.tid 1 a b2).z c.z cz
  generalize Lat.tid 1 a b2 = a2 at *
  unfold Lat.E at *
  have uy : a2.y.natAbs ≤ 3458764513820540928 := by rw [ty]; omega
  have uz : a2.z.natAbs ≤ 2305843009213693952 := by rw [tz]; omega
  clear ty tz hm
  refine ⟨fun h => ⟨h, ?_, ?_, ?_, ?_, ?_, ?_, ?_⟩, fun h => ⟨?_, ?_, ?_, ?_, ?_, ?_, ?_, ?_⟩, fun h => ⟨h, ?_, ?_, ?_, ?_, ?_, ?_, ?_⟩⟩
  · show c.z ≤ _; omega
  · omega
  · rw [cx]; simp
  · omega
  · rw [cy]; simp
  · omega
  · exact Nat.le_trans d0 (by omega)
  · show 0 < b2.y; omega
  · show b2.y ≤ _; omega
  · omega
  · rw [b2x]; simp
  · omega
  · exact Nat.le_trans d1 (by omega)
  · omega
  · exact Nat.le_trans d2 (by decide)
  · show c.z ≤ _; omega
  · omega
  · rw [cx]; simp
  · omega
  · rw [cy]; simp
  · omega
  · exact Nat.le_trans d3 (by omega)

theorem swept_at {c : Nat} {a b a' b' : Lat.V} (h : Lat.Swept c a b a' b') (j : Nat) (ha : a.at j = 0) (hb : b.at j = 0) : a'.at j = 0 ∧ b'.at j = 0 := by
  obtain ⟨p, q, r, s, e1, e2, _⟩ := h
  rw [e1, e2, Lat.V.at_comb, Lat.V.at_comb, ha, hb]; simp

/-- all that tidy wants, behind the three columns -/
theorem oksR {S : Lat.St} {G : List Lat.V} (s : Lat.CanonOf S G) (hG : ∀ g ∈ G, Lat.Le 511 g) {v a1 v1 b1 v2 c1 v3 : Lat.V} (hv : Lat.Le 511 v) (h0 : Lat.Swept 0 S.a v a1 v1) (h1 : Lat.Swept 1 S.b v1 b1 v2) (h2 : Lat.Swept 2 S.c v2 c1 v3) :
    b1.x = 0 ∧ (c1.x = 0 ∧ c1.y = 0) ∧ (0 < c1.z → Lat.Ok 2 b1 c1) ∧ (0 < b1.y → Lat.Ok 1 a1 (Lat.tid 2 b1 c1)) ∧ (0 < c1.z → Lat.Ok 2 (Lat.tid 1 a1 (Lat.tid 2 b1 c1)) c1) := by
  obtain ⟨q1, q2, q3, q4, q5, q6, q7, q8, _⟩ := Lat.swept_shape s.shape h0 h1 h2
  obtain ⟨r1, r2, r3, r4, r5⟩ := Lat.roomR s hG hv h0 h1 h2
  obtain ⟨t1, t2, t3⟩ := Lat.after1 s hG hv h0 h1
  exact ⟨q3, ⟨q6, q7⟩, oks q6 q7 q8 q3 q4 r1 t3 t1 r2 r3 r4 r5⟩

end Go.Proofs.Ytdjicplcognddaa
