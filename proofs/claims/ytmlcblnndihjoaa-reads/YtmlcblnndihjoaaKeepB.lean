import Derived.Test.YtmlcblnndihjoaaKeepA
namespace Go.Proofs.Ytmlcblnndihjoaa
open Go.RowKit

def inB (most : Int) (z : Int) : Bool := decide (-most ≤ z) && decide (z ≤ most)
def withinB (most : Int) (zss : List (List Int)) : Bool := zss.all (fun zs => zs.all (inB most))

theorem pick_any (c n : Int) (w : World) (h0 : -9223372036854775808 ≤ c) (h1 : c ≤ 9223372036854775807) (n1 : 1 ≤ n) (n2 : n ≤ 1000) :
    Calls Try.prog 37 #[.int .i64 c, .int .i64 n] w fun e w' => (∃ r : Int, e = .returned (.int .i64 r) ∧ 0 ≤ r ∧ r < n) ∧ w' = w := by
  by_cases hc : c < 0
  · go_enter Try.func37, Try.ntmps37
    go_wp2
    go_ret
    refine ⟨⟨_, rfl, ?_⟩, rfl⟩
    have : 0 ≤ (-(c + 1)).tmod n := Int.tmod_nonneg _ (by omega)
    have h2 : (-(c + 1)).tmod n < n := Int.tmod_lt_of_pos _ (by omega)
    rw [← Int.neg_tmod]; exact ⟨this, h2⟩
  · go_enter Try.func37, Try.ntmps37
    go_wp2
    go_ret
    exact ⟨⟨_, rfl, Int.emod_nonneg _ (by omega), Int.emod_lt_of_pos _ (by omega)⟩, rfl⟩

set_option maxHeartbeats 1000000 in
theorem within_any (most : Int) (v : Value) (zss : List (List Int)) (w : World) (hv : RowsAt w v zss) (m0 : 0 ≤ most) (m1 : most ≤ 511) (hl : zss.length ≤ 6) (hz : ∀ zs ∈ zss, zs.length ≤ 3) :
    Calls Try.prog 41 #[v, .int .i64 most] w fun e w' => e = .returned (.bool (withinB most zss)) ∧ w' = w := by
  rcases hv with ⟨rfl, a, cap, rfl⟩ | ⟨h0, b, o, cap, rfl, hc⟩
  · go_enter Try.func41, Try.ntmps41
    go_wp2
    refine wp_loop_rounds 1 ?_
    rw [rounds_succ]
    go_wp2
    go_ret
    exact ⟨ret_bool (a := true) rfl, rfl⟩
  · have HC : Hid (∀ i, i < zss.length → ∃ x, w.cell? ⟨b, o + i, none⟩ = some x ∧ IntsAt w x (zss.getD i [])) := hc
    have HZ : Hid (∀ zs ∈ zss, zs.length ≤ 3) := hz
    clear hc hz
    go_enter Try.func41, Try.ntmps41
    go_wp2
    go_loop [5] (fun i => ∃ k : Nat, k ≤ zss.length ∧ i = .int .i64 k ∧ (zss.take k).all (fun zs => zs.all (inB most)) = true) (fun i => zss.length - (intOf i).toNat)
    case atStart => exact ⟨0, by omega, rfl, by simp⟩
    case round =>
      obtain ⟨k, hk, rfl, hall⟩ := hrel
      have HA : Hid ((zss.take k).all (fun zs => zs.all (inB most)) = true) := hall
      clear hall
      by_cases hlt : k < zss.length
      · obtain ⟨x, hcell, hx⟩ := HC.out k hlt
        have hz3 := HZ.out _ (getD_memR hlt)
        obtain ⟨zs, hzs⟩ : ∃ zs, zs = zss.getD k [] := ⟨_, rfl⟩
        rw [← hzs] at hx hz3
        have HS : Hid (zs = zss.getD k []) := hzs
        have HX : Hid (IntsAt w x zs) := hx
        obtain ⟨a1, cap1, rfl⟩ := hx.slice
        clear hx hzs
        go_wp2
        go_loop [6] (fun i => ∃ j : Nat, j ≤ zs.length ∧ i = .int .i64 j ∧ (zs.take j).all (inB most) = true) (fun i => zs.length - (intOf i).toNat)
        case atStart => exact ⟨0, by omega, rfl, by simp⟩
        case round =>
          obtain ⟨j, hj, rfl, hall⟩ := hrel
          have HJ : Hid ((zs.take j).all (inB most) = true) := hall
          clear hall
          by_cases hjl : j < zs.length
          · rcases HX.out with ⟨e0, _⟩ | ⟨_, b1, o1, cap1', e1, hc1⟩
            · rw [e0] at hjl; simp at hjl
            injection e1 with e2 e3 e4
            subst e2
            have hcj := hc1 j hjl
            obtain ⟨z, hz⟩ : ∃ z, z = zs.getD j 0 := ⟨_, rfl⟩
            rw [← hz] at hcj
            have HZ2 : Hid (z = zs.getD j 0) := hz
            clear hz hc1 e3 e4
            by_cases hg : z < -most
            · go_wp2
              go_ret
              refine ⟨ret_bool (a := false) ?_, rfl⟩
              unfold withinB
              rw [all_falseR hlt (by rw [← HS.out]; exact all_false hjl (by rw [← HZ2.out]; simp [inB]; omega))]
            · by_cases hg2 : most < z
              · go_wp2
                go_ret
                refine ⟨ret_bool (a := false) ?_, rfl⟩
                unfold withinB
                rw [all_falseR hlt (by rw [← HS.out]; exact all_false hjl (by rw [← HZ2.out]; simp [inB]; omega))]
              · have HE : Hid (inB most z = true) := by show inB most z = true; simp [inB]; omega
                go_wp2
                go_round
                case rel => exact ⟨j + 1, by omega, by go_num, by rw [all_take hjl, HJ.out, ← HZ2.out, HE.out]; rfl⟩
                case measure => simp [intOf]; omega
          · go_wp2
            go_round
            case rel =>
              have : j = zs.length := by omega
              have hj2 := HJ.out
              rw [this, List.take_length] at hj2
              exact ⟨k + 1, by omega, by go_num, by rw [all_takeR hlt, HA.out, ← HS.out, hj2]; rfl⟩
            case measure => simp [intOf]; omega
      · go_wp2
        go_ret
        have : k = zss.length := by omega
        subst this
        refine ⟨ret_bool (a := true) ?_, rfl⟩
        have := HA.out; rw [List.take_length] at this
        exact this.symm

def refB (zss : List (List Int)) (e : Int) : Bool := decide (e = 3) && !(withinB 4 zss)

theorem refused_any (v : Value) (zss : List (List Int)) (e : Int) (w : World) (hv : RowsAt w v zss) (hl : zss.length ≤ 6) (hz : ∀ zs ∈ zss, zs.length ≤ 3) :
    Calls Try.prog 39 #[v, .int .i64 e] w fun x w' => x = .returned (.bool (refB zss e)) ∧ w' = w := by
  have HW : Hid (∀ w0, w0 = w → Calls Try.prog 41 #[v, .int .i64 4] w0 fun e w' => e = .returned (.bool (withinB 4 zss)) ∧ w' = w0) := fun w0 h => by
    rw [h]; exact within_any 4 v zss w hv (by omega) (by omega) hl hz
  obtain ⟨a, cap, rfl⟩ := hv.slice
  clear hv
  have hnot : ∀ (x : Bool) (w : World), (Op.unary .not (.bool x)).run Try.prog w = .ok (.bool (!x)) w := fun _ _ => rfl
  by_cases he : e = 3
  · subst he
    have HR : Hid (refB zss 3 = !(withinB 4 zss)) := by show refB zss 3 = !(withinB 4 zss); simp [refB]
    go_enter Try.func39, Try.ntmps39
    go_wp2_with (go_at_call 41; refine (HW.out _ rfl).mono ?_; rintro e w' ⟨rfl, hq'⟩; replace hq' := hq'.symm; subst hq')
    go_ret
    exact ⟨ret_bool HR.out.symm, rfl⟩
  · have he' : (e == 3) = false := by simpa using he
    have HR : Hid (refB zss e = false) := by show refB zss e = false; simp [refB, he]
    go_enter Try.func39, Try.ntmps39
    go_wp2_with (go_at_call 41; refine (HW.out _ rfl).mono ?_; rintro e w' ⟨rfl, hq'⟩; replace hq' := hq'.symm; subst hq')
    go_ret
    exact ⟨ret_bool HR.out.symm, rfl⟩

end Go.Proofs.Ytmlcblnndihjoaa
