import Derived.Test.YtmlcblnndihjoaaGreatInts

namespace Go.Proofs.YtmlcblnndihjoaaGreat
open Go.RowKit

theorem ret_bool {a b : Bool} (h : a = b) : Ending.returned (Value.bool a) = .returned (.bool b) := by rw [h]

def entB (z : Int) : Bool := decide (z ≤ 511) && decide (-511 ≤ z)

theorem all_take {zs : List Int} {k : Nat} (h : k < zs.length) (p : Int → Bool) : (zs.take (k + 1)).all p = ((zs.take k).all p && p (zs.getD k 0)) := by
  rw [List.take_succ_eq_append_getElem h, List.all_append]
  simp [List.getD_eq_getElem?_getD, List.getElem?_eq_getElem h]

theorem all_false {zs : List Int} {k : Nat} (h : k < zs.length) {p : Int → Bool} (hp : p (zs.getD k 0) = false) : zs.all p = false := by
  rw [List.all_eq_false]
  refine ⟨zs.getD k 0, ?_, by rw [hp]; simp⟩
  simp [List.getD_eq_getElem?_getD, List.getElem?_eq_getElem h]

theorem isWidth_any (n : Int) (w : World) :
    Calls Tryz.prog 42 #[.int .i64 n] w fun e w' => e = .returned (.bool (decide (1 ≤ n) && decide (n ≤ 3))) ∧ w' = w := by
  by_cases h1 : 1 ≤ n
  · by_cases h2 : n ≤ 3
    · go_enter Tryz.func42, Tryz.ntmps42
      go_wp2
      go_ret
      exact ⟨ret_val (by simp [h1, h2]), rfl⟩
    · go_enter Tryz.func42, Tryz.ntmps42
      go_wp2
      go_ret
      exact ⟨ret_val (by simp [h2]), rfl⟩
  · have hd : decide (1 ≤ n) = false := by simpa using h1
    go_enter Tryz.func42, Tryz.ntmps42
    go_wp2
    go_ret
    exact ⟨ret_bool (a := false) (by simp), rfl⟩

set_option maxHeartbeats 400000 in
theorem isVector_any (n : Int) (v : Value) (zs : List Int) (w : World) (hv : IntsAt w v zs) (h1 : 1 ≤ n) (h3 : n ≤ 3) :
    Calls Tryz.prog 43 #[.int .i64 n, v, .int .i64 511] w fun e w' => e = .returned (.bool (goodB n zs)) ∧ w' = w := by
  by_cases hl : (zs.length : Int) = n
  · have hl' : ((zs.length : Int) != n) = false := by simpa using hl
    have h0 : 0 < zs.length := by omega
    rcases hv with ⟨rfl, _⟩ | ⟨_, b, o, cap, rfl, hc⟩
    · simp at h0
    have hlen : (zs.length : Int) ≤ 3 := by omega
    have HG : Hid (goodB n zs = zs.all entB) := by
      show goodB n zs = zs.all entB
      unfold goodB; rw [decide_eq_true hl, Bool.true_and]; rfl
    have HC : Hid (∀ i, i < zs.length → w.cell? ⟨b, o + i, none⟩ = some (.int .i64 (zs.getD i 0))) := hc
    clear hl hc
    go_enter Tryz.func43, Tryz.ntmps43
    go_wp2
    go_loop [7] (fun i => ∃ k : Nat, k ≤ zs.length ∧ i = .int .i64 k ∧ (zs.take k).all entB = true) (fun i => zs.length - (intOf i).toNat)
    case atStart => exact ⟨0, by omega, rfl, by simp⟩
    case round =>
      obtain ⟨k, hk, rfl, hall⟩ := hrel
      have HA : Hid ((zs.take k).all entB = true) := hall
      clear hall
      by_cases hlt : k < zs.length
      · have hcell := HC.out k hlt
        obtain ⟨z, hz⟩ : ∃ z, z = zs.getD k 0 := ⟨_, rfl⟩
        rw [← hz] at hcell
        have HZ : Hid (z = zs.getD k 0) := hz
        clear hz
        by_cases hg : 511 < z
        · go_wp2
          go_ret
          exact ⟨ret_bool (a := false) (by rw [HG.out, all_false hlt (by rw [← HZ.out]; simp [entB]; omega)]), rfl⟩
        · by_cases hg2 : z < -511
          · go_wp2
            go_ret
            exact ⟨ret_bool (a := false) (by rw [HG.out, all_false hlt (by rw [← HZ.out]; simp [entB]; omega)]), rfl⟩
          · have HE : Hid (entB z = true) := by show entB z = true; simp [entB]; omega
            go_wp2
            go_round
            case rel => exact ⟨k + 1, by omega, by go_num, by rw [all_take hlt, HA.out, ← HZ.out, HE.out]; rfl⟩
            case measure => simp [intOf]; omega
      · go_wp2
        go_ret
        have : k = zs.length := by omega
        subst this
        exact ⟨ret_bool (a := true) (by rw [HG.out]; have := HA.out; rw [List.take_length] at this; exact this.symm), rfl⟩
  · have hl' : ((zs.length : Int) != n) = true := by simpa using hl
    obtain ⟨a, cap, rfl⟩ := hv.slice
    clear hv
    go_enter Tryz.func43, Tryz.ntmps43
    go_wp2
    go_ret
    exact ⟨ret_val (by simp [goodB, hl]), rfl⟩

def entS (z : Int) : Bool := decide (z ≤ 4) && decide (-4 ≤ z)
/-- is it a vector of width n with no entry beyond 4? -/
def goodS (n : Int) (zs : List Int) : Bool := decide ((zs.length : Int) = n) && zs.all (fun z => decide (z ≤ 4) && decide (-4 ≤ z))
set_option maxHeartbeats 400000 in
theorem isVector4 (n : Int) (v : Value) (zs : List Int) (w : World) (hv : IntsAt w v zs) (h1 : 1 ≤ n) (h3 : n ≤ 3) :
    Calls Tryz.prog 43 #[.int .i64 n, v, .int .i64 4] w fun e w' => e = .returned (.bool (goodS n zs)) ∧ w' = w := by
  by_cases hl : (zs.length : Int) = n
  · have hl' : ((zs.length : Int) != n) = false := by simpa using hl
    have h0 : 0 < zs.length := by omega
    rcases hv with ⟨rfl, _⟩ | ⟨_, b, o, cap, rfl, hc⟩
    · simp at h0
    have hlen : (zs.length : Int) ≤ 3 := by omega
    have HG : Hid (goodS n zs = zs.all entS) := by
      show goodS n zs = zs.all entS
      unfold goodS; rw [decide_eq_true hl, Bool.true_and]; rfl
    have HC : Hid (∀ i, i < zs.length → w.cell? ⟨b, o + i, none⟩ = some (.int .i64 (zs.getD i 0))) := hc
    clear hl hc
    go_enter Tryz.func43, Tryz.ntmps43
    go_wp2
    go_loop [7] (fun i => ∃ k : Nat, k ≤ zs.length ∧ i = .int .i64 k ∧ (zs.take k).all entS = true) (fun i => zs.length - (intOf i).toNat)
    case atStart => exact ⟨0, by omega, rfl, by simp⟩
    case round =>
      obtain ⟨k, hk, rfl, hall⟩ := hrel
      have HA : Hid ((zs.take k).all entS = true) := hall
      clear hall
      by_cases hlt : k < zs.length
      · have hcell := HC.out k hlt
        obtain ⟨z, hz⟩ : ∃ z, z = zs.getD k 0 := ⟨_, rfl⟩
        rw [← hz] at hcell
        have HZ : Hid (z = zs.getD k 0) := hz
        clear hz
        by_cases hg : 4 < z
        · go_wp2
          go_ret
          exact ⟨ret_bool (a := false) (by rw [HG.out, all_false hlt (by rw [← HZ.out]; simp [entS]; omega)]), rfl⟩
        · by_cases hg2 : z < -4
          · go_wp2
            go_ret
            exact ⟨ret_bool (a := false) (by rw [HG.out, all_false hlt (by rw [← HZ.out]; simp [entS]; omega)]), rfl⟩
          · have HE : Hid (entS z = true) := by show entS z = true; simp [entS]; omega
            go_wp2
            go_round
            case rel => exact ⟨k + 1, by omega, by go_num, by rw [all_take hlt, HA.out, ← HZ.out, HE.out]; rfl⟩
            case measure => simp [intOf]; omega
      · go_wp2
        go_ret
        have : k = zs.length := by omega
        subst this
        exact ⟨ret_bool (a := true) (by rw [HG.out]; have := HA.out; rw [List.take_length] at this; exact this.symm), rfl⟩
  · have hl' : ((zs.length : Int) != n) = true := by simpa using hl
    obtain ⟨a, cap, rfl⟩ := hv.slice
    clear hv
    go_enter Tryz.func43, Tryz.ntmps43
    go_wp2
    go_ret
    exact ⟨ret_val (by simp [goodS, hl]), rfl⟩

end Go.Proofs.YtmlcblnndihjoaaGreat

namespace Go.Proofs.YtmlcblnndihjoaaGreat
open Go.RowKit

theorem ret37 {R : Ending → World → Prop} {a : Act} {W : World} {p : Nat} {x y z : Value}
    (h : a.tmps[2]?.getD undef = .pointer (some ⟨p, 0, none⟩)) (k : Blk W p #[x, y, z] 55) (hd : a.defers = [])
    (hR : R (.returned (.agg #[x, y, z])) W) : bodyPost Tryz.prog Tryz.f44 R .ret a W := by
  obtain ⟨c0, c1, c2⟩ := k.three
  refine bodyPost_ret (v := .agg #[x, y, z]) ?_ hd hR
  simp [results, Tryz.results44, go_sem, h, c0, c1, c2]

set_option maxHeartbeats 400000 in
theorem vectorOf_any (v : Value) (zs : List Int) (w : World) (hv : IntsAt w v zs) (h0 : 0 < zs.length) (h3 : zs.length ≤ 3) :
    Calls Tryz.prog 44 #[v] w fun e w' => e = .returned (.agg #[.int .i64 (vecOf zs).x, .int .i64 (vecOf zs).y, .int .i64 (vecOf zs).z]) ∧ Below w.heap.size w w' := by
  rcases hv with ⟨rfl, _⟩ | ⟨_, b, o, cap, rfl, hc⟩
  · simp at h0
  rcases zs with _ | ⟨x, _ | ⟨y, _ | ⟨z, _ | ⟨t, zs⟩⟩⟩⟩
  · simp at h0
  · have c0 := hc 0 (by simp)
    simp at c0
    have hb := World.block_lt_of_cell? w _ c0
    clear hc h0 h3
    go_enter Tryz.func44, Tryz.ntmps44
    go_wp2
    refine wp_loop_rounds 4 ?_
    rw [rounds_succ]; go_wp2
    rw [rounds_succ]; go_wp2
    exact ret37 rfl ((Blk.new w _ _ rfl).alloc _) rfl ⟨rfl, by go_grown⟩
  · have c0 := hc 0 (by simp)
    have c1 := hc 1 (by simp)
    simp at c0 c1
    have hb := World.block_lt_of_cell? w _ c0
    clear hc h0 h3
    go_enter Tryz.func44, Tryz.ntmps44
    go_wp2
    refine wp_loop_rounds 4 ?_
    rw [rounds_succ]; go_wp2
    rw [rounds_succ]; go_wp2
    rw [rounds_succ]; go_wp2
    exact ret37 rfl ((Blk.new w _ _ rfl).alloc _) rfl ⟨rfl, by go_grown⟩
  · have c0 := hc 0 (by simp)
    have c1 := hc 1 (by simp)
    have c2 := hc 2 (by simp)
    simp at c0 c1 c2
    have hb := World.block_lt_of_cell? w _ c0
    clear hc h0 h3
    go_enter Tryz.func44, Tryz.ntmps44
    go_wp2
    refine wp_loop_rounds 4 ?_
    rw [rounds_succ]; go_wp2
    rw [rounds_succ]; go_wp2
    rw [rounds_succ]; go_wp2
    rw [rounds_succ]; go_wp2
    exact ret37 rfl ((Blk.new w _ _ rfl).alloc _) rfl ⟨rfl, by go_grown⟩
  · simp at h3

def FitsS (S : Lat.St) : Prop := Lat.Le 511 S.a ∧ Lat.Le 511 S.b ∧ Lat.Le 511 S.c

def FitsEnd (S : Lat.St) (e : Ending) : Prop := ∃ r : Bool, e = .returned (.bool r) ∧ (r = true ↔ FitsS S)

set_option maxHeartbeats 1000000 in
theorem fits_any (S : Lat.St) (w : World) :
    Calls Tryz.prog 54 #[.agg #[.int .i64 S.a.x, .int .i64 S.a.y, .int .i64 S.a.z, .int .i64 S.b.x, .int .i64 S.b.y, .int .i64 S.b.z, .int .i64 S.c.x, .int .i64 S.c.y, .int .i64 S.c.z]] w
      fun e w' => FitsEnd S e ∧ Below w.heap.size w w' := by
  go_enter Tryz.func54, Tryz.ntmps54
  go_wp2
  go_rounds 4
  all_goals (try go_rounds 4)
  all_goals (try go_rounds 4)
  all_goals (try go_rounds 4)
  all_goals go_ret
  all_goals refine ⟨?_, by go_grown⟩
  all_goals first
    | exact ⟨true, rfl, ⟨fun _ => (by unfold FitsS Lat.Le; omega), fun _ => rfl⟩⟩
    | exact ⟨false, rfl, ⟨fun h => (by simp at h), fun h => (by unfold FitsS Lat.Le at h; omega)⟩⟩

def idxOf (n : Int) (S : Lat.St) : Int := if n = 1 then S.a.x else if n = 2 then S.a.x * S.b.y else S.a.x * S.b.y * S.c.z

set_option maxHeartbeats 1000000 in
theorem spanIndex_any (S : Lat.St) (n : Int) (w : World) (hF : FitsS S) (h1 : 1 ≤ n) (h3 : n ≤ 3) :
    Calls Tryz.prog 38 #[.agg #[.int .i64 S.a.x, .int .i64 S.a.y, .int .i64 S.a.z, .int .i64 S.b.x, .int .i64 S.b.y, .int .i64 S.b.z, .int .i64 S.c.x, .int .i64 S.c.y, .int .i64 S.c.z], .int .i64 n] w
      fun e w' => e = .returned (.int .i64 (idxOf n S)) ∧ Below w.heap.size w w' := by
  obtain ⟨⟨ax, _⟩, ⟨_, by', _⟩, ⟨_, _, cz⟩⟩ := hF
  have p2 := Lat.abs_mul_le ax.1 ax.2 by'.1 by'.2
  have p3 := Lat.abs_mul_le p2.1 p2.2 cz.1 cz.2
  have hn : n = 1 ∨ n = 2 ∨ n = 3 := by omega
  clear h1 h3
  rcases hn with rfl | rfl | rfl
  · go_enter Tryz.func38, Tryz.ntmps38
    go_wp2
    go_rounds 4
    go_ret
    exact ⟨rfl, by go_grown⟩
  · go_enter Tryz.func38, Tryz.ntmps38
    go_wp2
    go_rounds 4
    go_ret
    exact ⟨rfl, by go_grown⟩
  · go_enter Tryz.func38, Tryz.ntmps38
    go_wp2
    go_rounds 4
    go_ret
    exact ⟨rfl, by go_grown⟩

end Go.Proofs.YtmlcblnndihjoaaGreat

namespace Go.Proofs.YtmlcblnndihjoaaGreat
open Go.RowKit

def givenB (n : Int) (zss : List (List Int)) : Bool := decide (zss.length ≤ 6) && zss.all (goodB n)

theorem all_takeR {zss : List (List Int)} {k : Nat} (h : k < zss.length) (p : List Int → Bool) : (zss.take (k + 1)).all p = ((zss.take k).all p && p (zss.getD k [])) := by
  rw [List.take_succ_eq_append_getElem h, List.all_append]
  simp [List.getD_eq_getElem?_getD, List.getElem?_eq_getElem h]

theorem all_falseR {zss : List (List Int)} {k : Nat} (h : k < zss.length) {p : List Int → Bool} (hp : p (zss.getD k []) = false) : zss.all p = false := by
  rw [List.all_eq_false]
  refine ⟨zss.getD k [], ?_, by rw [hp]; simp⟩
  simp [List.getD_eq_getElem?_getD, List.getElem?_eq_getElem h]

theorem ret_int {a b : Int} (h : a = b) : Ending.returned (Value.int .i64 a) = .returned (.int .i64 b) := by rw [h]

/-- the error of vectors that are handed in -/
def givenE (n : Int) (zss : List (List Int)) : Int := if (decide (1 ≤ n) && decide (n ≤ 3)) = true then (if givenB n zss = true then 0 else 2) else 1

set_option maxHeartbeats 400000 in
theorem checkRows_any (n : Int) (v : Value) (zss : List (List Int)) (w : World) (hv : RowsAt w v zss) :
    Calls Tryz.prog 57 #[.int .i64 n, v] w fun e w' => e = .returned (.int .i64 (givenE n zss)) ∧ w' = w := by
  by_cases hw : (decide (1 ≤ n) && decide (n ≤ 3)) = true
  · have HW := hw
    rw [Bool.and_eq_true, decide_eq_true_eq, decide_eq_true_eq] at HW
    obtain ⟨h1, h3⟩ := HW
    have hiw : ∀ w0, Calls Tryz.prog 42 #[.int .i64 n] w0 fun e w' => e = .returned (.bool true) ∧ w' = w0 := fun w0 => by
      have := isWidth_any n w0; rw [hw] at this; exact this
    by_cases hl : zss.length ≤ 6
    · have hl' : ¬ (6 : Int) < (zss.length : Int) := by omega
      have HG : Hid (givenE n zss = if zss.all (goodB n) = true then 0 else 2) := by
        show givenE n zss = _
        unfold givenE givenB; rw [if_pos hw, decide_eq_true hl, Bool.true_and]
      clear hw
      by_cases h0 : zss = []
      · subst h0
        obtain ⟨a, cap, rfl⟩ := hv.slice
        clear hv
        have HG' : Hid (givenE n [] = 0) := by rw [HG.out]; rfl
        clear HG
        go_enter Tryz.func57, Tryz.ntmps57
        go_wp2_with (go_at_call 42; refine (hiw _).mono ?_; rintro e w' ⟨rfl, hq'⟩; replace hq' := hq'.symm; subst hq')
        refine wp_loop_rounds 1 ?_
        rw [rounds_succ]
        go_wp2
        go_ret
        exact ⟨ret_int (a := 0) HG'.out.symm, rfl⟩
      · rcases hv with ⟨rfl, _⟩ | ⟨hz0, b, o, cap, rfl, hc⟩
        · exact absurd rfl h0
        have HC : Hid (∀ i, i < zss.length → ∃ x, w.cell? ⟨b, o + i, none⟩ = some x ∧ IntsAt w x (zss.getD i [])) := hc
        clear hc h0
        go_enter Tryz.func57, Tryz.ntmps57
        go_wp2_with (go_at_call 42; refine (hiw _).mono ?_; rintro e w' ⟨rfl, hq'⟩; replace hq' := hq'.symm; subst hq')
        go_loop [5] (fun i => ∃ k : Nat, k ≤ zss.length ∧ i = .int .i64 k ∧ (zss.take k).all (goodB n) = true) (fun i => zss.length - (intOf i).toNat)
        case atStart => exact ⟨0, by omega, rfl, by simp⟩
        case round =>
          obtain ⟨k, hk, rfl, hall⟩ := hrel
          have HA : Hid ((zss.take k).all (goodB n) = true) := hall
          clear hall hiw
          by_cases hlt : k < zss.length
          · obtain ⟨x, hcell, hx⟩ := HC.out k hlt
            have hgv : ∀ w0, w0 = w → Calls Tryz.prog 43 #[.int .i64 n, x, .int .i64 511] w0 fun e w' => e = .returned (.bool (goodB n (zss.getD k []))) ∧ w' = w0 := fun w0 e => by
              rw [e]; exact isVector_any n x _ w hx h1 h3
            have HX : Hid (IntsAt w x (zss.getD k [])) := hx
            clear hx
            cases hgb : goodB n (zss.getD k [])
            · rw [hgb] at hgv
              have HB : Hid (goodB n (zss.getD k []) = false) := hgb
              clear hgb
              go_wp2_with (go_at_call 43; refine (hgv _ rfl).mono ?_; rintro e w' ⟨rfl, hq'⟩; replace hq' := hq'.symm; subst hq')
              go_ret
              exact ⟨ret_int (a := 2) (by rw [HG.out, all_falseR hlt HB.out]; simp), rfl⟩
            · rw [hgb] at hgv
              have HB : Hid (goodB n (zss.getD k []) = true) := hgb
              clear hgb
              go_wp2_with (go_at_call 43; refine (hgv _ rfl).mono ?_; rintro e w' ⟨rfl, hq'⟩; replace hq' := hq'.symm; subst hq')
              go_round
              case rel => exact ⟨k + 1, by omega, by go_num, by rw [all_takeR hlt, HA.out, HB.out]; rfl⟩
              case measure => simp [intOf]; omega
          · go_wp2
            go_ret
            have : k = zss.length := by omega
            subst this
            have := HA.out; rw [List.take_length] at this
            exact ⟨ret_int (a := 0) (by rw [HG.out, if_pos this]), rfl⟩
    · have hl' : (6 : Int) < (zss.length : Int) := by omega
      have HG : Hid (givenE n zss = 2) := by
        show givenE n zss = 2
        unfold givenE givenB; rw [if_pos hw, decide_eq_false hl, Bool.false_and]; simp
      clear hw
      obtain ⟨a, cap, rfl⟩ := hv.slice
      clear hv
      go_enter Tryz.func57, Tryz.ntmps57
      go_wp2_with (go_at_call 42; refine (hiw _).mono ?_; rintro e w' ⟨rfl, hq'⟩; replace hq' := hq'.symm; subst hq')
      go_ret
      exact ⟨ret_int (a := 2) HG.out.symm, rfl⟩
  · have hwf : (decide (1 ≤ n) && decide (n ≤ 3)) = false := by simpa using hw
    have hiw : ∀ w0, Calls Tryz.prog 42 #[.int .i64 n] w0 fun e w' => e = .returned (.bool false) ∧ w' = w0 := fun w0 => by
      have := isWidth_any n w0; rw [hwf] at this; exact this
    have HG : Hid (givenE n zss = 1) := by
      show givenE n zss = 1
      unfold givenE; rw [if_neg hw]
    clear hw hwf
    obtain ⟨a, cap, rfl⟩ := hv.slice
    clear hv
    go_enter Tryz.func57, Tryz.ntmps57
    go_wp2_with (go_at_call 42; refine (hiw _).mono ?_; rintro e w' ⟨rfl, hq'⟩; replace hq' := hq'.symm; subst hq')
    go_ret
    exact ⟨ret_int (a := 1) HG.out.symm, rfl⟩

end Go.Proofs.YtmlcblnndihjoaaGreat

namespace Go.Proofs.YtmlcblnndihjoaaGreat
open Go.RowKit

theorem ret44 {R : Ending → World → Prop} {a : Act} {W : World} {p : Nat} {x0 x1 x2 x3 x4 x5 x6 x7 x8 : Value}
    (h : a.tmps[2]?.getD undef = .pointer (some ⟨p, 0, none⟩)) (k : Blk W p #[x0, x1, x2, x3, x4, x5, x6, x7, x8] 58) (hd : a.defers = [])
    (hR : R (.returned (.agg #[x0, x1, x2, x3, x4, x5, x6, x7, x8])) W) : bodyPost Tryz.prog Tryz.f58 R .ret a W := by
  obtain ⟨c0, c1, c2, c3, c4, c5, c6, c7, c8⟩ := k.nine
  refine bodyPost_ret (v := .agg #[x0, x1, x2, x3, x4, x5, x6, x7, x8]) ?_ hd hR
  simp [results, Tryz.results58, go_sem, h, c0, c1, c2, c3, c4, c5, c6, c7, c8]

theorem Blk.other9 {w : World} {b b' : Nat} {cs : Array Value} {T : TypeId} (h : Blk w b cs T) (hne : b ≠ b') (y0 y1 y2 y3 y4 y5 y6 y7 y8 : Value) : Blk (((((((((w.setCell ⟨b', 0, none⟩ y0).setCell ⟨b', 1, none⟩ y1).setCell ⟨b', 2, none⟩ y2).setCell ⟨b', 3, none⟩ y3).setCell ⟨b', 4, none⟩ y4).setCell ⟨b', 5, none⟩ y5).setCell ⟨b', 6, none⟩ y6).setCell ⟨b', 7, none⟩ y7).setCell ⟨b', 8, none⟩ y8) b cs T :=
  (((((((((h.other hne y0).other hne y1).other hne y2).other hne y3).other hne y4).other hne y5).other hne y6).other hne y7).other hne y8)

/-- the vectors of rows, the last first -/
def vecs (zss : List (List Int)) : List Lat.V := (zss.map vecOf).reverse

theorem vecs_snoc (zss : List (List Int)) (zs : List Int) : vecs (zss ++ [zs]) = vecOf zs :: vecs zss := by simp [vecs]

theorem take_snocR {zss : List (List Int)} {k : Nat} (h : k < zss.length) : zss.take (k + 1) = zss.take k ++ [zss.getD k []] := by
  rw [List.take_succ_eq_append_getElem h]
  simp [List.getD_eq_getElem?_getD, List.getElem?_eq_getElem h]

theorem getD_mem {zs : List Int} {k : Nat} {p : Int → Bool} (h : zs.all p = true) (h0 : p 0 = true) : p (zs.getD k 0) = true := by
  by_cases hk : k < zs.length
  · rw [List.all_eq_true] at h
    refine h _ ?_
    simp [List.getD_eq_getElem?_getD, List.getElem?_eq_getElem hk]
  · rw [List.getD_eq_getElem?_getD, List.getElem?_eq_none (by omega)]; exact h0

theorem good_le {n : Int} {zs : List Int} (h : goodB n zs = true) : Lat.Le 511 (vecOf zs) ∧ (zs.length : Int) = n := by
  unfold goodB at h
  rw [Bool.and_eq_true, decide_eq_true_eq] at h
  have g := fun k => getD_mem (k := k) h.2 (by simp)
  have e : ∀ z : Int, (decide (z ≤ 511) && decide (-511 ≤ z)) = true → -511 ≤ z ∧ z ≤ 511 := fun z hz => by
    rw [Bool.and_eq_true, decide_eq_true_eq, decide_eq_true_eq] at hz; omega
  exact ⟨⟨e _ (g 0), e _ (g 1), e _ (g 2)⟩, h.1⟩

theorem vecs_le {n : Int} {zss : List (List Int)} (h : zss.all (goodB n) = true) : ∀ g ∈ vecs zss, Lat.Le 511 g := by
  intro g hg
  simp only [vecs, List.mem_reverse, List.mem_map] at hg
  obtain ⟨zs, hz, rfl⟩ := hg
  rw [List.all_eq_true] at h
  exact (good_le (h zs hz)).1

theorem all_takeT {zss : List (List Int)} {p : List Int → Bool} (h : zss.all p = true) (k : Nat) : (zss.take k).all p = true := by
  rw [List.all_eq_true] at *
  exact fun x hx => h x (List.mem_of_mem_take hx)

theorem getD_memR {zss : List (List Int)} {k : Nat} (h : k < zss.length) : zss.getD k [] ∈ zss := by
  simp [List.getD_eq_getElem?_getD, List.getElem?_eq_getElem h]

set_option maxHeartbeats 1000000 in
theorem spanOf_any (n : Int) (v : Value) (zss : List (List Int)) (w : World) (hv : RowsAt w v zss) (h1 : 1 ≤ n) (h3 : n ≤ 3) (hl : zss.length ≤ 6) (hg : zss.all (goodB n) = true) :
    Calls Tryz.prog 58 #[v] w fun e w' => ∃ T, Lat.CanonOf T (vecs zss) ∧ e = .returned (.agg #[.int .i64 T.a.x, .int .i64 T.a.y, .int .i64 T.a.z, .int .i64 T.b.x, .int .i64 T.b.y, .int .i64 T.b.z, .int .i64 T.c.x, .int .i64 T.c.y, .int .i64 T.c.z]) ∧ Below w.heap.size w w' := by
  have HG : Hid (zss.all (goodB n) = true) := hg
  have HV : Hid (RowsAt w v zss) := hv
  clear hg
  obtain ⟨a, cap, rfl⟩ := hv.slice
  clear hv
  go_enter Tryz.func58, Tryz.ntmps58
  go_wp2
  go_loopg [4] (zss.length) (fun m i wr => ∃ (k : Nat) (T : Lat.St), k + m = zss.length ∧ i = .int .i64 k ∧ Lat.CanonOf T (vecs (zss.take k)) ∧
     Blk wr w.heap.size #[.int .i64 0, .int .i64 0, .int .i64 0, .int .i64 0, .int .i64 0, .int .i64 0, .int .i64 0, .int .i64 0, .int .i64 0] 58 ∧ Blk wr (w.heap.size + 1) #[.int .i64 T.a.x, .int .i64 T.a.y, .int .i64 T.a.z, .int .i64 T.b.x, .int .i64 T.b.y, .int .i64 T.b.z, .int .i64 T.c.x, .int .i64 T.c.y, .int .i64 T.c.z] 58 ∧ Below w.heap.size w wr)
  case atStart =>
    refine ⟨0, ⟨⟨0, 0, 0⟩, ⟨0, 0, 0⟩, ⟨0, 0, 0⟩⟩, by omega, rfl, Lat.CanonOf.nil, (Blk.new w _ _ rfl).alloc _, Blk.new (w.alloc _) _ _ (by simp), by go_grown⟩
  case round =>
    obtain ⟨k, T, hk, rfl, hC, b2, b3, hB⟩ := hrel
    have HC : Hid (Lat.CanonOf T (vecs (zss.take k))) := hC
    clear hC
    have hl2 := b2.lt
    have hl3 := b3.lt
    by_cases hlt : k < zss.length
    · have hgk : goodB n (zss.getD k []) = true := by
        have := HG.out; rw [List.all_eq_true] at this; exact this _ (getD_memR hlt)
      have hgl := good_le hgk
      rcases HV.out with ⟨e0, _⟩ | ⟨_, b, o, cap', e1, hc⟩
      · rw [e0] at hlt; simp at hlt
      injection e1 with e2 e3 e4
      subst e2
      obtain ⟨x, hcell, hx⟩ := hc k hlt
      have hcw := cell_below hB hcell
      have hxw := hx.below hB
      have HX : Hid (∀ w0, Below wr.heap.size wr w0 → Calls Tryz.prog 44 #[x] w0 fun e w' => e = .returned (.agg #[.int .i64 (vecOf (zss.getD k [])).x, .int .i64 (vecOf (zss.getD k [])).y, .int .i64 (vecOf (zss.getD k [])).z]) ∧ Below w0.heap.size w0 w') := fun w0 h0 =>
        vectorOf_any x _ w0 (hxw.below h0) (by omega) (by omega)
      have HS : Hid (∀ w0, Calls Tryz.prog 78 #[.agg #[.int .i64 T.a.x, .int .i64 T.a.y, .int .i64 T.a.z, .int .i64 T.b.x, .int .i64 T.b.y, .int .i64 T.b.z, .int .i64 T.c.x, .int .i64 T.c.y, .int .i64 T.c.z], .agg #[.int .i64 (vecOf (zss.getD k [])).x, .int .i64 (vecOf (zss.getD k [])).y, .int .i64 (vecOf (zss.getD k [])).z]] w0 fun e w' => ∃ T', Lat.CanonOf T' (vecOf (zss.getD k []) :: vecs (zss.take k)) ∧ e = .returned (.agg #[.int .i64 T'.a.x, .int .i64 T'.a.y, .int .i64 T'.a.z, .int .i64 T'.b.x, .int .i64 T'.b.y, .int .i64 T'.b.z, .int .i64 T'.c.x, .int .i64 T'.c.y, .int .i64 T'.c.z]) ∧ Below w0.heap.size w0 w') := fun w0 =>
        with_any T _ _ w0 HC.out (vecs_le (all_takeT HG.out k)) hgl.1
      have HE : Hid (vecs (zss.take (k + 1)) = vecOf (zss.getD k []) :: vecs (zss.take k)) := by
        show vecs (zss.take (k + 1)) = _
        rw [take_snocR hlt, vecs_snoc]
      clear hgk hgl hc hcell hx hxw e3 e4
      generalize vecOf (zss.getD k []) = u at *
      obtain ⟨s0, s1, s2, s3, s4, s5, s6, s7, s8⟩ := b3.nine
      go_wp2_with fail
      refine (HX.out _ (Below.refl _ _)).mono ?_
      rintro e w1 ⟨rfl, hb1⟩
      have k2 := b2.below hb1 hl2
      have k3 := b3.below hb1 hl3
      clear s0 s1 s2 s3 s4 s5 s6 s7 s8 hcw
      obtain ⟨s0, s1, s2, s3, s4, s5, s6, s7, s8⟩ := k3.nine
      have hlw := k3.lt
      go_wp2_with fail
      refine (HS.out _).mono ?_
      rintro e w2 ⟨T', hT', rfl, hb2⟩
      have HT : Hid (Lat.CanonOf T' (vecs (zss.take (k + 1)))) := by rw [HE.out]; exact hT'
      have m2 := (k2.alloc (.cells #[.int .i64 u.x, .int .i64 u.y, .int .i64 u.z] 55)).below hb2 (by simp; have := k2.lt; omega)
      have m3 := (k3.alloc (.cells #[.int .i64 u.x, .int .i64 u.y, .int .i64 u.z] 55)).below hb2 (by simp; omega)
      have hB1 := hB.trans (hb1.mono (by omega))
      have hB2 : Below w.heap.size w w2 := (hB1.alloc (by omega) _).trans (hb2.mono (by simp; omega))
      clear s0 s1 s2 s3 s4 s5 s6 s7 s8 hT'
      obtain ⟨s0, s1, s2, s3, s4, s5, s6, s7, s8⟩ := m3.nine
      obtain ⟨f0, f1, f2, f3, f4, f5, f6, f7, f8⟩ := m3.frozen9
      go_wp2
      go_roundg (gk - 1)
      case measure => omega
      case rel =>
        refine ⟨k + 1, T', by omega, by go_num, HT.out, ?_, m3.set9 _ _ _ _ _ _ _ _ _, below_set9 hB2 (by omega) _ _ _ _ _ _ _ _ _⟩
        exact m2.other9 (by omega) _ _ _ _ _ _ _ _ _
    · obtain ⟨s0, s1, s2, s3, s4, s5, s6, s7, s8⟩ := b3.nine
      obtain ⟨t0, t1, t2, t3, t4, t5, t6, t7, t8⟩ := b2.nine
      obtain ⟨f0, f1, f2, f3, f4, f5, f6, f7, f8⟩ := b2.frozen9
      have hkl : k = zss.length := by omega
      have HT : Hid (Lat.CanonOf T (vecs zss)) := by
        have := HC.out; rw [hkl, List.take_length] at this; exact this
      clear hkl
      go_wp2
      exact ret44 rfl (b2.set9 _ _ _ _ _ _ _ _ _) rfl ⟨T, HT.out, rfl, below_set9 hB (by omega) _ _ _ _ _ _ _ _ _⟩

end Go.Proofs.YtmlcblnndihjoaaGreat

namespace Go.Proofs.YtmlcblnndihjoaaGreat
open Go.RowKit

theorem ret29 {R : Ending → World → Prop} {a : Act} {W : World} {p : Nat} {x0 x1 x2 x3 x4 x5 x6 x7 x8 : Value} {c : Value}
    (h : a.tmps[4]?.getD undef = .pointer (some ⟨p, 0, none⟩)) (h5 : a.tmps[5]?.getD undef = c) (k : Blk W p #[x0, x1, x2, x3, x4, x5, x6, x7, x8] 58) (hd : a.defers = [])
    (hR : R (.returned (.tuple #[.agg #[x0, x1, x2, x3, x4, x5, x6, x7, x8], c])) W) : bodyPost Tryz.prog Tryz.f33 R .ret a W := by
  obtain ⟨c0, c1, c2, c3, c4, c5, c6, c7, c8⟩ := k.nine
  refine bodyPost_ret (v := .tuple #[.agg #[x0, x1, x2, x3, x4, x5, x6, x7, x8], c]) ?_ hd hR
  simp [results, Tryz.results33, go_sem, h, h5, c0, c1, c2, c3, c4, c5, c6, c7, c8]

def zeroS : Lat.St := ⟨⟨0, 0, 0⟩, ⟨0, 0, 0⟩, ⟨0, 0, 0⟩⟩

/-- what is generated: the error c and, without one, the canonical basis T -/
def Gen (n : Int) (zss : List (List Int)) (T : Lat.St) (c : Int) : Prop :=
  (c = givenE n zss ∧ c ≠ 0) ∨ (givenE n zss = 0 ∧ ∃ T', Lat.CanonOf T' (vecs zss) ∧ ((c = 3 ∧ ¬ FitsS T') ∨ (c = 0 ∧ T = T' ∧ FitsS T')))

theorem given_ok {n : Int} {zss : List (List Int)} (h : givenE n zss = 0) : 1 ≤ n ∧ n ≤ 3 ∧ zss.length ≤ 6 ∧ zss.all (goodB n) = true := by
  unfold givenE at h
  by_cases h1 : (decide (1 ≤ n) && decide (n ≤ 3)) = true
  · rw [if_pos h1] at h
    by_cases h2 : givenB n zss = true
    · unfold givenB at h2
      rw [Bool.and_eq_true, decide_eq_true_eq] at h1 h2
      exact ⟨h1.1, by simpa using h1.2, h2.1, h2.2⟩
    · rw [if_neg h2] at h; omega
  · rw [if_neg h1] at h; omega

set_option maxHeartbeats 1000000 in
theorem generated_any (n : Int) (v : Value) (zss : List (List Int)) (w : World) (hv : RowsAt w v zss) :
    Calls Tryz.prog 33 #[.int .i64 n, v] w fun e w' => ∃ T c, Gen n zss T c ∧ e = .returned (.tuple #[.agg #[.int .i64 T.a.x, .int .i64 T.a.y, .int .i64 T.a.z, .int .i64 T.b.x, .int .i64 T.b.y, .int .i64 T.b.z, .int .i64 T.c.x, .int .i64 T.c.y, .int .i64 T.c.z], .int .i64 c]) ∧ Below w.heap.size w w' := by
  have HC : Hid (∀ w0, Below w.heap.size w w0 → Calls Tryz.prog 57 #[.int .i64 n, v] w0 fun e w' => e = .returned (.int .i64 (givenE n zss)) ∧ w' = w0) := fun w0 h0 =>
    checkRows_any n v zss w0 (hv.below h0)
  by_cases hg : givenE n zss = 0
  · obtain ⟨h1, h3, hl, hga⟩ := given_ok hg
    have HS : Hid (∀ w0, Below w.heap.size w w0 → Calls Tryz.prog 58 #[v] w0 fun e w' => ∃ T, Lat.CanonOf T (vecs zss) ∧ e = .returned (.agg #[.int .i64 T.a.x, .int .i64 T.a.y, .int .i64 T.a.z, .int .i64 T.b.x, .int .i64 T.b.y, .int .i64 T.b.z, .int .i64 T.c.x, .int .i64 T.c.y, .int .i64 T.c.z]) ∧ Below w0.heap.size w0 w') := fun w0 h0 =>
      spanOf_any n v zss w0 (hv.below h0) h1 h3 hl hga
    have HG : Hid (givenE n zss = 0) := hg
    have hb0 : Below w.heap.size w (w.alloc (.cells #[.int .i64 0, .int .i64 0, .int .i64 0, .int .i64 0, .int .i64 0, .int .i64 0, .int .i64 0, .int .i64 0, .int .i64 0] 58)) := by go_grown
    rw [hg] at HC
    clear hg h1 h3 hl hga hv
    go_enter Tryz.func33, Tryz.ntmps33
    go_wp2_with fail
    refine (HC.out _ hb0).mono ?_
    rintro e w' ⟨rfl, hq'⟩; replace hq' := hq'.symm; subst hq'
    go_wp2_with fail
    refine (HS.out _ hb0).mono ?_
    rintro e w1 ⟨T, hT, rfl, hb1⟩
    have k4 := (Blk.new w #[.int .i64 0, .int .i64 0, .int .i64 0, .int .i64 0, .int .i64 0, .int .i64 0, .int .i64 0, .int .i64 0, .int .i64 0] 58 rfl).below hb1 (by simp)
    have hB1 : Below w.heap.size w w1 := hb0.trans (hb1.mono (by simp))
    have hl4 := k4.lt
    have HT : Hid (Lat.CanonOf T (vecs zss)) := hT
    clear hT HS HC hb0 hb1
    obtain ⟨r0, r1, r2, r3, r4, r5, r6, r7, r8⟩ := k4.nine
    obtain ⟨f0, f1, f2, f3, f4, f5, f6, f7, f8⟩ := k4.frozen9
    go_wp2_with fail
    refine (fits_any T _).mono ?_
    rintro e w2 ⟨⟨r, rfl, hr⟩, hb2⟩
    have kk := (k4.alloc (.cells #[.int .i64 T.a.x, .int .i64 T.a.y, .int .i64 T.a.z, .int .i64 T.b.x, .int .i64 T.b.y, .int .i64 T.b.z, .int .i64 T.c.x, .int .i64 T.c.y, .int .i64 T.c.z] 58)).below hb2 (by simp; omega)
    have kT := (Blk.new w1 #[.int .i64 T.a.x, .int .i64 T.a.y, .int .i64 T.a.z, .int .i64 T.b.x, .int .i64 T.b.y, .int .i64 T.b.z, .int .i64 T.c.x, .int .i64 T.c.y, .int .i64 T.c.z] 58 rfl).below hb2 (by simp)
    have hB2 : Below w.heap.size w w2 := (hB1.alloc (by omega) _).trans (hb2.mono (by simp; omega))
    have HR : Hid (r = true ↔ FitsS T) := hr
    clear hr hb2 r0 r1 r2 r3 r4 r5 r6 r7 r8 f0 f1 f2 f3 f4 f5 f6 f7 f8
    obtain ⟨r0, r1, r2, r3, r4, r5, r6, r7, r8⟩ := kk.nine
    obtain ⟨t0, t1, t2, t3, t4, t5, t6, t7, t8⟩ := kT.nine
    obtain ⟨f0, f1, f2, f3, f4, f5, f6, f7, f8⟩ := kk.frozen9
    cases r
    · go_wp2
      refine ret29 rfl rfl (kk.set9 _ _ _ _ _ _ _ _ _) rfl ⟨zeroS, 3, Or.inr ⟨HG.out, T, HT.out, Or.inl ⟨rfl, fun hf => ?_⟩⟩, rfl, below_set9 hB2 (by omega) _ _ _ _ _ _ _ _ _⟩
      have := HR.out.2 hf; cases this
    · go_wp2
      exact ret29 rfl rfl (kk.set9 _ _ _ _ _ _ _ _ _) rfl ⟨T, 0, Or.inr ⟨HG.out, T, HT.out, Or.inr ⟨rfl, rfl, HR.out.1 (by trivial)⟩⟩, rfl, below_set9 hB2 (by omega) _ _ _ _ _ _ _ _ _⟩
  · have hb0 : Below w.heap.size w (w.alloc (.cells #[.int .i64 0, .int .i64 0, .int .i64 0, .int .i64 0, .int .i64 0, .int .i64 0, .int .i64 0, .int .i64 0, .int .i64 0] 58)) := by go_grown
    obtain ⟨c, hc⟩ : ∃ c, c = givenE n zss := ⟨_, rfl⟩
    rw [← hc] at HC hg
    have HG : Hid (c = givenE n zss ∧ c ≠ 0) := ⟨hc, hg⟩
    have hn : (c != 0) = true := by simpa using hg
    clear hc hg hv
    go_enter Tryz.func33, Tryz.ntmps33
    go_wp2_with fail
    refine (HC.out _ hb0).mono ?_
    rintro e w' ⟨rfl, hq'⟩; replace hq' := hq'.symm; subst hq'
    go_wp2
    exact ret29 rfl rfl (Blk.new w _ _ rfl) rfl ⟨zeroS, c, Or.inl HG.out, rfl, hb0⟩

/-- the answer of Index -/
def IdxEnd (n : Int) (zss : List (List Int)) (e : Ending) : Prop :=
  ∃ T c, Gen n zss T c ∧ e = .returned (.tuple #[.int .i64 (if c = 0 then idxOf n T else 0), .int .i64 c])

set_option maxHeartbeats 1000000 in
theorem index_any (n : Int) (v : Value) (zss : List (List Int)) (w : World) (hv : RowsAt w v zss) :
    Calls Tryz.prog 17 #[.int .i64 n, v] w fun e w' => IdxEnd n zss e ∧ Below w.heap.size w w' := by
  go_enter Tryz.func17, Tryz.ntmps17
  go_wp2_with fail
  refine (generated_any n v zss _ hv).mono ?_
  rintro e w1 ⟨T, c, hg, rfl, hb1⟩
  have HG : Hid (Gen n zss T c) := hg
  by_cases hc : c = 0
  · have hg2 : FitsS T ∧ 1 ≤ n ∧ n ≤ 3 := by
      rcases hg with ⟨_, h⟩ | ⟨h0, T', _, ⟨h, _⟩ | ⟨_, rfl, hf⟩⟩
      · exact absurd hc h
      · omega
      · have := given_ok h0; exact ⟨hf, this.1, this.2.1⟩
    subst hc
    have HI : Hid (∀ w0, Calls Tryz.prog 38 #[.agg #[.int .i64 T.a.x, .int .i64 T.a.y, .int .i64 T.a.z, .int .i64 T.b.x, .int .i64 T.b.y, .int .i64 T.b.z, .int .i64 T.c.x, .int .i64 T.c.y, .int .i64 T.c.z], .int .i64 n] w0 fun e w' => e = .returned (.int .i64 (idxOf n T)) ∧ Below w0.heap.size w0 w') := fun w0 => spanIndex_any T n w0 hg2.1 hg2.2.1 hg2.2.2
    clear hg hg2
    go_wp2_with fail
    refine (HI.out _).mono ?_
    rintro e w2 ⟨rfl, hb2⟩
    go_wp2
    go_ret2
    exact ⟨⟨T, 0, HG.out, rfl⟩, (hb1.alloc hb1.size _).trans (hb2.mono (by simp; have := hb1.size; omega))⟩
  · have hn : (c != 0) = true := by simpa using hc
    have HN : Hid (¬ c = 0) := hc
    clear hg hc
    go_wp2
    go_ret2
    refine ⟨⟨T, c, HG.out, ?_⟩, hb1.alloc hb1.size _⟩
    rw [if_neg HN.out]; rfl

end Go.Proofs.YtmlcblnndihjoaaGreat
