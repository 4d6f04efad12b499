import Derived.Test.YtmlcblnndihjoaaGreatReadA
set_option linter.unusedSimpArgs false
set_option linter.unusedVariables false
namespace Go.Proofs.YtmlcblnndihjoaaGreat
open Go.RowKit

theorem index_lit (s : ByteArray) (k : Nat) (h : k < s.size) (K : Int) (hK : K = (k : Int)) (w : World) : (Instr.index 9 (.string s) (.int .i64 K)).run Tryz.prog w = .ok (.int .u8 ((nums s).getD k 0)) w := by
  subst hK; exact index_str s k h w

/-- has a string the shape of a text? -/
def shpB (s : ByteArray) (b : Bool) : Prop :=
  (b = true → Shp (nums s) ((nums s).getD 0 0).toNat ((nums s).getD 1 0).toNat) ∧ (b = false → ∀ n r, ¬ Shp (nums s) n r)

/-- the answer of hasShape -/
def ShpEnd (s : ByteArray) (e : Ending) : Prop := ∃ b, e = .returned (.bool b) ∧ shpB s b

theorem shp_short {s : ByteArray} (h : s.size < 3) : shpB s false := by
  refine ⟨fun h => absurd h (by decide), fun _ n r hS => ?_⟩
  have := hS.len
  rw [nums_length] at this
  omega
theorem shp_no1 {s : ByteArray} {a : Int} (ha : (nums s).getD 0 0 = a) (h : ¬ (a = 1 ∨ a = 2 ∨ a = 3)) : shpB s false := by
  refine ⟨fun h => absurd h (by decide), fun _ n r hS => ?_⟩
  have w := hS.w; have n1 := hS.n1; have n3 := hS.n3
  omega
theorem shp_no2 {s : ByteArray} {a c : Int} (ha : (nums s).getD 0 0 = a) (hc : (nums s).getD 1 0 = c) (h : ¬ c ≤ a) : shpB s false := by
  refine ⟨fun h => absurd h (by decide), fun _ n r hS => ?_⟩
  have w := hS.w; have n1 := hS.n1; have n3 := hS.n3; have rn := hS.rn; have c' := hS.c
  omega
theorem shp_len {s : ByteArray} {a c : Int} {b : Bool} (ha : (nums s).getD 0 0 = a) (hc : (nums s).getD 1 0 = c) (h1 : a = 1 ∨ a = 2 ∨ a = 3) (h2 : c ≤ a) (h0 : 0 ≤ c) {X : Int} (hX : X = 3 + 2 * (a * c)) (hb : b = (((s.size : Nat) : Int) == X)) : shpB s b := by
  have key : ∀ n r : Nat, (n : Int) = a → (r : Int) = c → (((s.size : Nat) : Int) = X ↔ s.size = 3 + 2 * (n * r)) := fun n r hn hr => by
    rw [hX, ← hn, ← hr]
    constructor
    · intro h; have : ((s.size : Nat) : Int) = ((3 + 2 * (n * r) : Nat) : Int) := by rw [h]; simp
      omega
    · intro h; rw [h]; simp
  refine ⟨fun h => ?_, fun h n r hS => ?_⟩
  · rw [hb, beq_iff_eq] at h
    rw [ha, hc]
    refine ⟨by omega, by omega, by omega, by omega, by omega, ?_⟩
    rw [nums_length]
    exact (key _ _ (by omega) (by omega)).1 h
  · have l := hS.len
    rw [nums_length] at l
    have := (key n r (by rw [← ha, hS.w]) (by rw [← hc, hS.c])).2 l
    rw [hb, this] at h
    simp at h

set_option maxRecDepth 100000 in
set_option maxHeartbeats 2000000 in
theorem hasShape_any (s : ByteArray) (w : World) :
    Calls Tryz.prog 76 #[.string s] w fun e w' => ShpEnd s e ∧ w = w' := by
  by_cases h3 : s.size < 3
  · have HN := hide0 (shp_short h3)
    have h3' : ((s.size : Nat) : Int) < 3 := by omega
    go_enter Tryz.func76, Tryz.ntmps76
    go_wp2
    go_ret
    exact ⟨⟨_, rfl, HN.out⟩, rfl⟩
  · have hx0 := index_lit s 0 (by omega) 0 rfl
    have hx1 := index_lit s 1 (by omega) 1 rfl
    have hr0 := nums_getD s 0 (by omega)
    have hr1 := nums_getD s 1 (by omega)
    generalize ha : (nums s).getD 0 0 = a at *
    generalize hc : (nums s).getD 1 0 = c at *
    have HA := hide0 ha
    have HC := hide0 hc
    clear ha hc
    have h3' : ¬ ((s.size : Nat) : Int) < 3 := by omega
    obtain ⟨ha0, ha1⟩ := hr0
    obtain ⟨hc0, hc1⟩ := hr1
    by_cases k1 : a = 1 ∨ a = 2 ∨ a = 3
    · by_cases k2 : c ≤ a
      · have K2 := hide0 k2
        have K0 := hide0 hc0
        rcases k1 with rfl | rfl | rfl
        · go_enter Tryz.func76, Tryz.ntmps76
          go_wp2
          go_ret
          exact ⟨⟨_, rfl, shp_len HA.out HC.out (by omega) K2.out K0.out (X := 2 + c * 2 + 1) (by omega) rfl⟩, rfl⟩
        · go_enter Tryz.func76, Tryz.ntmps76
          go_wp2
          go_ret
          exact ⟨⟨_, rfl, shp_len HA.out HC.out (by omega) K2.out K0.out (X := 2 + c * 2 * 2 + 1) (by omega) rfl⟩, rfl⟩
        · go_enter Tryz.func76, Tryz.ntmps76
          go_wp2
          go_ret
          exact ⟨⟨_, rfl, shp_len HA.out HC.out (by omega) K2.out K0.out (X := 2 + c * 3 * 2 + 1) (by omega) rfl⟩, rfl⟩
      · have HN := hide0 (shp_no2 HA.out HC.out k2)
        have k2' : a < c := by omega
        clear k2
        rcases k1 with rfl | rfl | rfl
        all_goals (go_enter Tryz.func76, Tryz.ntmps76)
        all_goals go_wp2
        all_goals go_ret
        all_goals exact ⟨⟨_, rfl, HN.out⟩, rfl⟩
    · have HN := hide0 (shp_no1 HA.out k1)
      have hlt : a < 1 ∨ 3 < a := by omega
      clear k1
      rcases hlt with hlt | hlt
      all_goals (go_enter Tryz.func76, Tryz.ntmps76)
      all_goals go_wp2
      all_goals go_ret
      all_goals exact ⟨⟨_, rfl, HN.out⟩, rfl⟩

/-- the answer of vectorIn, where the entries read as zs -/
def VecEnd (zs : List Int) (e : Ending) : Prop :=
  (goodB zs.length zs = true ∧ e = .returned (.tuple #[.agg #[.int .i64 (vecOf zs).x, .int .i64 (vecOf zs).y, .int .i64 (vecOf zs).z], .bool true])) ∨
  (goodB zs.length zs = false ∧ e = .returned (.tuple #[.agg #[.int .i64 0, .int .i64 0, .int .i64 0], .bool false]))

theorem vec_bad {n : Int} {zs : List Int} {i : Nat} (hi : i < zs.length) (h : ¬ (-511 ≤ zs.getD i 0 ∧ zs.getD i 0 ≤ 511)) : goodB n zs = false := by
  unfold goodB
  rw [Bool.and_eq_false_iff]
  right
  rw [List.all_eq_false]
  refine ⟨zs.getD i 0, ?_, ?_⟩
  · rw [List.getD_eq_getElem?_getD, List.getElem?_eq_getElem hi]; exact List.getElem_mem hi
  · rw [Bool.and_eq_true, decide_eq_true_eq, decide_eq_true_eq]; omega

theorem vec_ok {n : Int} {zs : List Int} (hl : (zs.length : Int) = n) (h : ∀ z ∈ zs, -511 ≤ z ∧ z ≤ 511) : goodB n zs = true := by
  unfold goodB
  rw [Bool.and_eq_true, decide_eq_true_eq, List.all_eq_true]
  refine ⟨hl, fun z hz => ?_⟩
  have := h z hz
  rw [Bool.and_eq_true, decide_eq_true_eq, decide_eq_true_eq]; omega

theorem retVI {R : Ending → World → Prop} {a : Act} {W : World} {p : Nat} {x y z : Value} {c : Value}
    (h : a.tmps[2]?.getD undef = .pointer (some ⟨p, 0, none⟩)) (h5 : a.tmps[3]?.getD undef = c) (k : Blk W p #[x, y, z] 55) (hd : a.defers = [])
    (hR : R (.returned (.tuple #[.agg #[x, y, z], c])) W) : bodyPost Tryz.prog Tryz.f77 R .ret a W := by
  obtain ⟨c0, c1, c2⟩ := k.three
  refine bodyPost_ret (v := .tuple #[.agg #[x, y, z], c]) ?_ hd hR
  simp [results, Tryz.results77, go_sem, h, h5, c0, c1, c2]

/- MARK -/
set_option maxRecDepth 100000 in
set_option maxHeartbeats 4000000 in
theorem vectorIn1 (s : ByteArray) (w : World) (h : s.size = 2) :
    Calls Tryz.prog 77 #[.string s] w fun e w' => VecEnd [256 * (nums s).getD 0 0 + (nums s).getD 1 0 - 512] e ∧ Below w.heap.size w w' := by
  have hx0 := index_lit s 0 (by omega) 0 rfl
  have hr0 := nums_getD s 0 (by omega)
  have hx1 := index_lit s 1 (by omega) 1 rfl
  have hr1 := nums_getD s 1 (by omega)
  have hsz : ((s.size : Nat) : Int) = 2 := by omega
  generalize (nums s).getD 0 0 = a0 at *
  obtain ⟨p0, q0⟩ := hr0
  generalize (nums s).getD 1 0 = a1 at *
  obtain ⟨p1, q1⟩ := hr1
  clear h
  go_enter Tryz.func77, Tryz.ntmps77
  go_wp2
  refine wp_loop_rounds 2 ?_
  rw [rounds_succ]
  by_cases g0 : -511 ≤ a0 * 256 + a1 - 512 ∧ a0 * 256 + a1 - 512 ≤ 511
  rotate_left
  · have HB : Hid (goodB 1 [256 * a0 + a1 - 512] = false) := vec_bad (i := 0) (by simp) (by simp; omega)
    have g0' : a0 * 256 + a1 - 512 < -511 ∨ 511 < a0 * 256 + a1 - 512 := by omega
    clear g0
    rcases g0' with g0 | g0
    all_goals go_wp2
    all_goals go_region
    all_goals go_wp2
    all_goals exact retVI (x := .int .i64 0) (y := .int .i64 0) (z := .int .i64 0) rfl rfl (by repeat (first | (with_reducible refine Blk.drew ?_) | exact (Blk.new w _ _ rfl).alloc _)) rfl ⟨Or.inr ⟨HB.out, rfl⟩, by go_grown⟩
  have G0 := hide0 g0
  obtain ⟨l0, u0⟩ := g0
  go_wp2
  go_region
  go_wp2
  rw [rounds_succ]
  go_wp2
  have e0 : a0 * 256 + a1 - 512 = 256 * a0 + a1 - 512 := by omega
  refine retVI (x := .int .i64 (a0 * 256 + a1 - 512)) (y := .int .i64 (0)) (z := .int .i64 (0)) rfl rfl (by repeat (first | (with_reducible refine Blk.drew ?_) | exact (Blk.new w _ _ rfl).alloc _)) rfl ⟨Or.inl ⟨vec_ok rfl ?_, ?_⟩, by go_grown⟩
  · intro z hz
    simp only [List.mem_cons, List.not_mem_nil, or_false] at hz
    rcases hz with rfl <;> omega
  · rw [e0]; rfl

set_option maxRecDepth 100000 in
set_option maxHeartbeats 4000000 in
theorem vectorIn2 (s : ByteArray) (w : World) (h : s.size = 4) :
    Calls Tryz.prog 77 #[.string s] w fun e w' => VecEnd [256 * (nums s).getD 0 0 + (nums s).getD 1 0 - 512, 256 * (nums s).getD 2 0 + (nums s).getD 3 0 - 512] e ∧ Below w.heap.size w w' := by
  have hx0 := index_lit s 0 (by omega) 0 rfl
  have hr0 := nums_getD s 0 (by omega)
  have hx1 := index_lit s 1 (by omega) 1 rfl
  have hr1 := nums_getD s 1 (by omega)
  have hx2 := index_lit s 2 (by omega) 2 rfl
  have hr2 := nums_getD s 2 (by omega)
  have hx3 := index_lit s 3 (by omega) 3 rfl
  have hr3 := nums_getD s 3 (by omega)
  have hsz : ((s.size : Nat) : Int) = 4 := by omega
  generalize (nums s).getD 0 0 = a0 at *
  obtain ⟨p0, q0⟩ := hr0
  generalize (nums s).getD 1 0 = a1 at *
  obtain ⟨p1, q1⟩ := hr1
  generalize (nums s).getD 2 0 = a2 at *
  obtain ⟨p2, q2⟩ := hr2
  generalize (nums s).getD 3 0 = a3 at *
  obtain ⟨p3, q3⟩ := hr3
  clear h
  go_enter Tryz.func77, Tryz.ntmps77
  go_wp2
  refine wp_loop_rounds 3 ?_
  rw [rounds_succ]
  by_cases g0 : -511 ≤ a0 * 256 + a1 - 512 ∧ a0 * 256 + a1 - 512 ≤ 511
  rotate_left
  · have HB : Hid (goodB 2 [256 * a0 + a1 - 512, 256 * a2 + a3 - 512] = false) := vec_bad (i := 0) (by simp) (by simp; omega)
    have g0' : a0 * 256 + a1 - 512 < -511 ∨ 511 < a0 * 256 + a1 - 512 := by omega
    clear g0
    rcases g0' with g0 | g0
    all_goals go_wp2
    all_goals go_region
    all_goals go_wp2
    all_goals exact retVI (x := .int .i64 0) (y := .int .i64 0) (z := .int .i64 0) rfl rfl (by repeat (first | (with_reducible refine Blk.drew ?_) | exact (Blk.new w _ _ rfl).alloc _)) rfl ⟨Or.inr ⟨HB.out, rfl⟩, by go_grown⟩
  have G0 := hide0 g0
  obtain ⟨l0, u0⟩ := g0
  go_wp2
  go_region
  go_wp2
  rw [rounds_succ]
  by_cases g1 : -511 ≤ a2 * 256 + a3 - 512 ∧ a2 * 256 + a3 - 512 ≤ 511
  rotate_left
  · have HB : Hid (goodB 2 [256 * a0 + a1 - 512, 256 * a2 + a3 - 512] = false) := vec_bad (i := 1) (by simp) (by simp; omega)
    have g1' : a2 * 256 + a3 - 512 < -511 ∨ 511 < a2 * 256 + a3 - 512 := by omega
    clear g1
    rcases g1' with g1 | g1
    all_goals go_wp2
    all_goals go_region
    all_goals go_wp2
    all_goals exact retVI (x := .int .i64 0) (y := .int .i64 0) (z := .int .i64 0) rfl rfl (by repeat (first | (with_reducible refine Blk.drew ?_) | exact (Blk.new w _ _ rfl).alloc _)) rfl ⟨Or.inr ⟨HB.out, rfl⟩, by go_grown⟩
  have G1 := hide0 g1
  obtain ⟨l1, u1⟩ := g1
  go_wp2
  go_region
  go_wp2
  rw [rounds_succ]
  go_wp2
  have e0 : a0 * 256 + a1 - 512 = 256 * a0 + a1 - 512 := by omega
  have e1 : a2 * 256 + a3 - 512 = 256 * a2 + a3 - 512 := by omega
  refine retVI (x := .int .i64 (a0 * 256 + a1 - 512)) (y := .int .i64 (a2 * 256 + a3 - 512)) (z := .int .i64 (0)) rfl rfl (by repeat (first | (with_reducible refine Blk.drew ?_) | exact (Blk.new w _ _ rfl).alloc _)) rfl ⟨Or.inl ⟨vec_ok rfl ?_, ?_⟩, by go_grown⟩
  · intro z hz
    simp only [List.mem_cons, List.not_mem_nil, or_false] at hz
    rcases hz with rfl | rfl <;> omega
  · rw [e0, e1]; rfl

set_option maxRecDepth 100000 in
set_option maxHeartbeats 4000000 in
theorem vectorIn3 (s : ByteArray) (w : World) (h : s.size = 6) :
    Calls Tryz.prog 77 #[.string s] w fun e w' => VecEnd [256 * (nums s).getD 0 0 + (nums s).getD 1 0 - 512, 256 * (nums s).getD 2 0 + (nums s).getD 3 0 - 512, 256 * (nums s).getD 4 0 + (nums s).getD 5 0 - 512] e ∧ Below w.heap.size w w' := by
  have hx0 := index_lit s 0 (by omega) 0 rfl
  have hr0 := nums_getD s 0 (by omega)
  have hx1 := index_lit s 1 (by omega) 1 rfl
  have hr1 := nums_getD s 1 (by omega)
  have hx2 := index_lit s 2 (by omega) 2 rfl
  have hr2 := nums_getD s 2 (by omega)
  have hx3 := index_lit s 3 (by omega) 3 rfl
  have hr3 := nums_getD s 3 (by omega)
  have hx4 := index_lit s 4 (by omega) 4 rfl
  have hr4 := nums_getD s 4 (by omega)
  have hx5 := index_lit s 5 (by omega) 5 rfl
  have hr5 := nums_getD s 5 (by omega)
  have hsz : ((s.size : Nat) : Int) = 6 := by omega
  generalize (nums s).getD 0 0 = a0 at *
  obtain ⟨p0, q0⟩ := hr0
  generalize (nums s).getD 1 0 = a1 at *
  obtain ⟨p1, q1⟩ := hr1
  generalize (nums s).getD 2 0 = a2 at *
  obtain ⟨p2, q2⟩ := hr2
  generalize (nums s).getD 3 0 = a3 at *
  obtain ⟨p3, q3⟩ := hr3
  generalize (nums s).getD 4 0 = a4 at *
  obtain ⟨p4, q4⟩ := hr4
  generalize (nums s).getD 5 0 = a5 at *
  obtain ⟨p5, q5⟩ := hr5
  clear h
  go_enter Tryz.func77, Tryz.ntmps77
  go_wp2
  refine wp_loop_rounds 4 ?_
  rw [rounds_succ]
  by_cases g0 : -511 ≤ a0 * 256 + a1 - 512 ∧ a0 * 256 + a1 - 512 ≤ 511
  rotate_left
  · have HB : Hid (goodB 3 [256 * a0 + a1 - 512, 256 * a2 + a3 - 512, 256 * a4 + a5 - 512] = false) := vec_bad (i := 0) (by simp) (by simp; omega)
    have g0' : a0 * 256 + a1 - 512 < -511 ∨ 511 < a0 * 256 + a1 - 512 := by omega
    clear g0
    rcases g0' with g0 | g0
    all_goals go_wp2
    all_goals go_region
    all_goals go_wp2
    all_goals exact retVI (x := .int .i64 0) (y := .int .i64 0) (z := .int .i64 0) rfl rfl (by repeat (first | (with_reducible refine Blk.drew ?_) | exact (Blk.new w _ _ rfl).alloc _)) rfl ⟨Or.inr ⟨HB.out, rfl⟩, by go_grown⟩
  have G0 := hide0 g0
  obtain ⟨l0, u0⟩ := g0
  go_wp2
  go_region
  go_wp2
  rw [rounds_succ]
  by_cases g1 : -511 ≤ a2 * 256 + a3 - 512 ∧ a2 * 256 + a3 - 512 ≤ 511
  rotate_left
  · have HB : Hid (goodB 3 [256 * a0 + a1 - 512, 256 * a2 + a3 - 512, 256 * a4 + a5 - 512] = false) := vec_bad (i := 1) (by simp) (by simp; omega)
    have g1' : a2 * 256 + a3 - 512 < -511 ∨ 511 < a2 * 256 + a3 - 512 := by omega
    clear g1
    rcases g1' with g1 | g1
    all_goals go_wp2
    all_goals go_region
    all_goals go_wp2
    all_goals exact retVI (x := .int .i64 0) (y := .int .i64 0) (z := .int .i64 0) rfl rfl (by repeat (first | (with_reducible refine Blk.drew ?_) | exact (Blk.new w _ _ rfl).alloc _)) rfl ⟨Or.inr ⟨HB.out, rfl⟩, by go_grown⟩
  have G1 := hide0 g1
  obtain ⟨l1, u1⟩ := g1
  go_wp2
  go_region
  go_wp2
  rw [rounds_succ]
  by_cases g2 : -511 ≤ a4 * 256 + a5 - 512 ∧ a4 * 256 + a5 - 512 ≤ 511
  rotate_left
  · have HB : Hid (goodB 3 [256 * a0 + a1 - 512, 256 * a2 + a3 - 512, 256 * a4 + a5 - 512] = false) := vec_bad (i := 2) (by simp) (by simp; omega)
    have g2' : a4 * 256 + a5 - 512 < -511 ∨ 511 < a4 * 256 + a5 - 512 := by omega
    clear g2
    rcases g2' with g2 | g2
    all_goals go_wp2
    all_goals go_region
    all_goals go_wp2
    all_goals exact retVI (x := .int .i64 0) (y := .int .i64 0) (z := .int .i64 0) rfl rfl (by repeat (first | (with_reducible refine Blk.drew ?_) | exact (Blk.new w _ _ rfl).alloc _)) rfl ⟨Or.inr ⟨HB.out, rfl⟩, by go_grown⟩
  have G2 := hide0 g2
  obtain ⟨l2, u2⟩ := g2
  go_wp2
  go_region
  go_wp2
  rw [rounds_succ]
  go_wp2
  have e0 : a0 * 256 + a1 - 512 = 256 * a0 + a1 - 512 := by omega
  have e1 : a2 * 256 + a3 - 512 = 256 * a2 + a3 - 512 := by omega
  have e2 : a4 * 256 + a5 - 512 = 256 * a4 + a5 - 512 := by omega
  refine retVI (x := .int .i64 (a0 * 256 + a1 - 512)) (y := .int .i64 (a2 * 256 + a3 - 512)) (z := .int .i64 (a4 * 256 + a5 - 512)) rfl rfl (by repeat (first | (with_reducible refine Blk.drew ?_) | exact (Blk.new w _ _ rfl).alloc _)) rfl ⟨Or.inl ⟨vec_ok rfl ?_, ?_⟩, by go_grown⟩
  · intro z hz
    simp only [List.mem_cons, List.not_mem_nil, or_false] at hz
    rcases hz with rfl | rfl | rfl <;> omega
  · rw [e0, e1, e2]; rfl

end Go.Proofs.YtmlcblnndihjoaaGreat
