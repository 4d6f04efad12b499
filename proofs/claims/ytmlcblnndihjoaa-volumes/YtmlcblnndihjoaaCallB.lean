import Derived.Test.YtmlcblnndihjoaaCallA
namespace Go.Proofs.Ytmlcblnndihjoaa
open Go.RowKit

theorem ret37 {R : Ending → World → Prop} {a : Act} {W : World} {p : Nat} {x y z : Value}
    (h : a.tmps[2]?.getD undef = .pointer (some ⟨p, 0, none⟩)) (k : Blk W p #[x, y, z] 62) (hd : a.defers = [])
    (hR : R (.returned (.agg #[x, y, z])) W) : bodyPost Try.prog Try.f52 R .ret a W := by
  obtain ⟨c0, c1, c2⟩ := k.three
  refine bodyPost_ret (v := .agg #[x, y, z]) ?_ hd hR
  simp [results, Try.results52, go_sem, h, c0, c1, c2]

set_option maxHeartbeats 400000 in
theorem vectorOf_any (v : Value) (zs : List Int) (w : World) (hv : IntsAt w v zs) (h0 : 0 < zs.length) (h3 : zs.length ≤ 3) :
    Calls Try.prog 52 #[v] w fun e w' => e = .returned (.agg #[.int .i64 (vecOf zs).x, .int .i64 (vecOf zs).y, .int .i64 (vecOf zs).z]) ∧ Below w.heap.size w w' := by
  rcases hv with ⟨rfl, _⟩ | ⟨_, b, o, cap, rfl, hc⟩
  · simp at h0
  rcases zs with _ | ⟨x, _ | ⟨y, _ | ⟨z, _ | ⟨t, zs⟩⟩⟩⟩
  · simp at h0
  · have c0 := hc 0 (by simp)
    simp at c0
    have hb := World.block_lt_of_cell? w _ c0
    clear hc h0 h3
    go_enter Try.func52, Try.ntmps52
    go_wp2
    refine wp_loop_rounds 4 ?_
    rw [rounds_succ]; go_wp2
    rw [rounds_succ]; go_wp2
    exact ret37 rfl ((Blk.new w _ _ rfl).alloc _) rfl ⟨rfl, by go_grown⟩
  · have c0 := hc 0 (by simp)
    have c1 := hc 1 (by simp)
    simp at c0 c1
    have hb := World.block_lt_of_cell? w _ c0
    clear hc h0 h3
    go_enter Try.func52, Try.ntmps52
    go_wp2
    refine wp_loop_rounds 4 ?_
    rw [rounds_succ]; go_wp2
    rw [rounds_succ]; go_wp2
    rw [rounds_succ]; go_wp2
    exact ret37 rfl ((Blk.new w _ _ rfl).alloc _) rfl ⟨rfl, by go_grown⟩
  · have c0 := hc 0 (by simp)
    have c1 := hc 1 (by simp)
    have c2 := hc 2 (by simp)
    simp at c0 c1 c2
    have hb := World.block_lt_of_cell? w _ c0
    clear hc h0 h3
    go_enter Try.func52, Try.ntmps52
    go_wp2
    refine wp_loop_rounds 4 ?_
    rw [rounds_succ]; go_wp2
    rw [rounds_succ]; go_wp2
    rw [rounds_succ]; go_wp2
    rw [rounds_succ]; go_wp2
    exact ret37 rfl ((Blk.new w _ _ rfl).alloc _) rfl ⟨rfl, by go_grown⟩
  · simp at h3

def FitsS (S : Lat.St) : Prop := Lat.Le 511 S.a ∧ Lat.Le 511 S.b ∧ Lat.Le 511 S.c

def FitsEnd (S : Lat.St) (e : Ending) : Prop := ∃ r : Bool, e = .returned (.bool r) ∧ (r = true ↔ FitsS S)

set_option maxHeartbeats 1000000 in
theorem fits_any (S : Lat.St) (w : World) :
    Calls Try.prog 62 #[.agg #[.int .i64 S.a.x, .int .i64 S.a.y, .int .i64 S.a.z, .int .i64 S.b.x, .int .i64 S.b.y, .int .i64 S.b.z, .int .i64 S.c.x, .int .i64 S.c.y, .int .i64 S.c.z]] w
      fun e w' => FitsEnd S e ∧ Below w.heap.size w w' := by
  go_enter Try.func62, Try.ntmps62
  go_wp2
  go_rounds 4
  all_goals (try go_rounds 4)
  all_goals (try go_rounds 4)
  all_goals (try go_rounds 4)
  all_goals go_ret
  all_goals refine ⟨?_, by go_grown⟩
  all_goals first
    | exact ⟨true, rfl, ⟨fun _ => (by unfold FitsS Lat.Le; omega), fun _ => rfl⟩⟩
    | exact ⟨false, rfl, ⟨fun h => (by simp at h), fun h => (by unfold FitsS Lat.Le at h; omega)⟩⟩

def idxOf (n : Int) (S : Lat.St) : Int := if n = 1 then S.a.x else if n = 2 then S.a.x * S.b.y else S.a.x * S.b.y * S.c.z

set_option maxHeartbeats 1000000 in
theorem spanIndex_any (S : Lat.St) (n : Int) (w : World) (hF : FitsS S) (h1 : 1 ≤ n) (h3 : n ≤ 3) :
    Calls Try.prog 49 #[.agg #[.int .i64 S.a.x, .int .i64 S.a.y, .int .i64 S.a.z, .int .i64 S.b.x, .int .i64 S.b.y, .int .i64 S.b.z, .int .i64 S.c.x, .int .i64 S.c.y, .int .i64 S.c.z], .int .i64 n] w
      fun e w' => e = .returned (.int .i64 (idxOf n S)) ∧ Below w.heap.size w w' := by
  obtain ⟨⟨ax, _⟩, ⟨_, by', _⟩, ⟨_, _, cz⟩⟩ := hF
  have p2 := Lat.abs_mul_le ax.1 ax.2 by'.1 by'.2
  have p3 := Lat.abs_mul_le p2.1 p2.2 cz.1 cz.2
  have hn : n = 1 ∨ n = 2 ∨ n = 3 := by omega
  clear h1 h3
  rcases hn with rfl | rfl | rfl
  · go_enter Try.func49, Try.ntmps49
    go_wp2
    go_rounds 4
    go_ret
    exact ⟨rfl, by go_grown⟩
  · go_enter Try.func49, Try.ntmps49
    go_wp2
    go_rounds 4
    go_ret
    exact ⟨rfl, by go_grown⟩
  · go_enter Try.func49, Try.ntmps49
    go_wp2
    go_rounds 4
    go_ret
    exact ⟨rfl, by go_grown⟩

end Go.Proofs.Ytmlcblnndihjoaa
