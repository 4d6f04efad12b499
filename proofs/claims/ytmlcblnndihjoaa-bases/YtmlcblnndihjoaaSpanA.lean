import Derived.Test.YtmlcblnndihjoaaMem
namespace Go.Proofs.Ytmlcblnndihjoaa
open Go.RowKit

theorem ret_val {a b : Value} (h : a = b) : Ending.returned a = .returned b := by rw [h]

theorem quot_neg {a p : Int} (h1 : 0 < p) (h2 : a.tmod p < 0) : a.tdiv p - 1 = a / p := by
  have h3 := Int.tmod_add_mul_tdiv a p
  have h4 := Int.emod_add_mul_ediv a p
  have h5 := Int.emod_nonneg a (b := p) (by omega)
  have h6 := Int.emod_lt_of_pos a h1
  have h7 : (a.tmod p).natAbs < p.natAbs := by rw [Int.natAbs_tmod]; exact Nat.mod_lt _ (by omega)
  have e : (a.tdiv p - 1 - a / p) * p = a % p - a.tmod p - p := by
    have : (a.tdiv p - 1 - a / p) * p = p * a.tdiv p - p - p * (a / p) := by
      generalize a.tdiv p = u; generalize a / p = v; grind
    omega
  rcases Lat.small_mul e.symm (by omega) (by omega) with q | q <;> omega

theorem quot_pos {a p : Int} (h1 : 0 < p) (h2 : 0 ≤ a.tmod p) : a.tdiv p = a / p := by
  have h3 := Int.tmod_add_mul_tdiv a p
  have h4 := Int.emod_add_mul_ediv a p
  have h5 := Int.emod_nonneg a (b := p) (by omega)
  have h6 := Int.emod_lt_of_pos a h1
  have h7 : (a.tmod p).natAbs < p.natAbs := by rw [Int.natAbs_tmod]; exact Nat.mod_lt _ (by omega)
  have e : (a.tdiv p - a / p) * p = a % p - a.tmod p := by
    have : (a.tdiv p - a / p) * p = p * a.tdiv p - p * (a / p) := by
      generalize a.tdiv p = u; generalize a / p = v; grind
    omega
  rcases Lat.small_mul e.symm (by omega) (by omega) with q | q <;> omega

set_option maxHeartbeats 400000 in
theorem quotient_any (a p : Int) (w : World) (h1 : -4611686018427387904 ≤ a) (h2 : a ≤ 4611686018427387904) (h3 : 0 ≤ p) (h4 : p ≤ 4611686018427387904) :
    Calls Try.prog 73 #[.int .i64 a, .int .i64 p] w fun e w' => e = .returned (.int .i64 (a / p)) ∧ w' = w := by
  go_enter Try.func73, Try.ntmps73
  go_wp2
  · go_ret
    have : p = 0 := by omega
    subst this
    exact ⟨by simp, rfl⟩
  · go_ret
    have e := quot_neg (a := a) (p := p) (by assumption) (by assumption)
    have b := Lat.div_le a p h3
    exact ⟨ret_val (congrArg (Value.int IntKind.i64) (by rw [e]; exact IntWalk.wrap64_in _ (by omega))), rfl⟩
  · go_ret
    have e := quot_pos (a := a) (p := p) (by assumption) (by assumption)
    exact ⟨ret_val (congrArg (Value.int IntKind.i64) e), rfl⟩

set_option maxHeartbeats 400000 in
theorem takeAway_any (a b : Lat.V) (t : Int) (w : World)
    (x1 : (a.x).natAbs ≤ 4611686018427387903) (x2 : (t * b.x).natAbs ≤ 4611686018427387903)
    (y1 : (a.y).natAbs ≤ 4611686018427387903) (y2 : (t * b.y).natAbs ≤ 4611686018427387903)
    (z1 : (a.z).natAbs ≤ 4611686018427387903) (z2 : (t * b.z).natAbs ≤ 4611686018427387903) :
    Calls Try.prog 74 #[.agg #[.int .i64 a.x, .int .i64 a.y, .int .i64 a.z], .int .i64 t, .agg #[.int .i64 b.x, .int .i64 b.y, .int .i64 b.z]] w
      fun e w' => e = .returned (.agg #[.int .i64 (Lat.less a t b).x, .int .i64 (Lat.less a t b).y, .int .i64 (Lat.less a t b).z]) ∧ Below w.heap.size w w' := by
  have X1 : -4611686018427387903 ≤ t * b.x ∧ t * b.x ≤ 4611686018427387903 := by omega
  have Y1 : -4611686018427387903 ≤ t * b.y ∧ t * b.y ≤ 4611686018427387903 := by omega
  have Z1 : -4611686018427387903 ≤ t * b.z ∧ t * b.z ≤ 4611686018427387903 := by omega
  have X2 : -4611686018427387903 ≤ a.x ∧ a.x ≤ 4611686018427387903 := by omega
  have Y2 : -4611686018427387903 ≤ a.y ∧ a.y ≤ 4611686018427387903 := by omega
  have Z2 : -4611686018427387903 ≤ a.z ∧ a.z ≤ 4611686018427387903 := by omega
  clear x1 x2 y1 y2 z1 z2
  go_enter Try.func74, Try.ntmps74
  go_wp2
  refine wp_loop_rounds 4 ?_
  rw [rounds_succ]; go_wp2
  go_region
  go_wp2
  rw [rounds_succ]; go_wp2
  go_region
  go_wp2
  rw [rounds_succ]; go_wp2
  go_region
  go_wp2
  rw [rounds_succ]; go_wp2
  refine bodyPost_ret (v := .agg #[.int .i64 (Lat.less a t b).x, .int .i64 (Lat.less a t b).y, .int .i64 (Lat.less a t b).z]) ?_ rfl ⟨rfl, ?_⟩
  · simp [results, Try.results74, go_sem, Lat.less]
  · go_grown

end Go.Proofs.Ytmlcblnndihjoaa
