import Derived.Test.YtmlcblnndihjoaaCanon
namespace Go.Proofs.Ytmlcblnndihjoaa
open Go.RowKit

set_option maxHeartbeats 2000000 in
theorem same_refl (v v' : Value) (zss : List (List Int)) (w : World) (hv : RowsAt w v zss) (hv' : RowsAt w v' zss) (hl : zss.length ≤ 6) (hz : ∀ zs ∈ zss, 0 < zs.length ∧ zs.length ≤ 3) :
    Calls Try.prog 42 #[v, v'] w fun e w' => e = .returned (.bool true) ∧ Below w.heap.size w w' := by
  rcases hv with ⟨rfl, a, cap, rfl⟩ | ⟨h0, b, o, cap, rfl, hc⟩
  · obtain ⟨a', cap', rfl⟩ := hv'.slice
    clear hv'
    have hneq : (((0 : Nat) : Int) != ((0 : Nat) : Int)) = false := by simp
    go_enter Try.func42, Try.ntmps42
    go_wp2
    refine wp_loop_rounds 1 ?_
    rw [rounds_succ]
    go_wp2
    go_ret
    exact ⟨rfl, Below.refl _ _⟩
  · rcases hv' with ⟨rfl, _⟩ | ⟨_, b', o', cap', rfl, hc'⟩
    · simp at h0
    have HC : Hid (∀ i, i < zss.length → ∃ x, w.cell? ⟨b, o + i, none⟩ = some x ∧ IntsAt w x (zss.getD i [])) := hc
    have HC' : Hid (∀ i, i < zss.length → ∃ x, w.cell? ⟨b', o' + i, none⟩ = some x ∧ IntsAt w x (zss.getD i [])) := hc'
    have HZ : Hid (∀ zs ∈ zss, 0 < zs.length ∧ zs.length ≤ 3) := hz
    have hl3 : (zss.length : Int) ≤ 6 := by omega
    have hneq : ((zss.length : Int) != (zss.length : Int)) = false := by simp
    clear hc hc' hz
    go_enter Try.func42, Try.ntmps42
    go_wp2
    go_loopg [5] (zss.length) (fun mm i wr => ∃ k m : Nat, k + mm = zss.length ∧ i = .int .i64 k ∧ wr = w.drewN m)
    case atStart => exact ⟨0, 0, by omega, rfl, rfl⟩
    case round =>
      obtain ⟨k, m, hkk, rfl, rfl⟩ := hrel
      obtain ⟨mm, hmm⟩ : ∃ mm, mm = gk := ⟨_, rfl⟩
      by_cases hlt : k < zss.length
      · obtain ⟨x, hcell, hx⟩ := HC.out k hlt
        obtain ⟨x', hcell', hx'⟩ := HC'.out k hlt
        have hzl := HZ.out _ (getD_memR hlt)
        obtain ⟨zs, hzs⟩ : ∃ zs, zs = zss.getD k [] := ⟨_, rfl⟩
        rw [← hzs] at hx hx' hzl
        clear hzs
        obtain ⟨b1, o1, cap1, rfl, hc1⟩ := hx.cells hzl.1
        obtain ⟨b2, o2, cap2, rfl, hc2⟩ := hx'.cells hzl.1
        have HC1 : Hid (∀ i, i < zs.length → w.cell? ⟨b1, o1 + i, none⟩ = some (.int .i64 (zs.getD i 0))) := hc1
        have HC2 : Hid (∀ i, i < zs.length → w.cell? ⟨b2, o2 + i, none⟩ = some (.int .i64 (zs.getD i 0))) := hc2
        have hz3 : (zs.length : Int) ≤ 3 := by omega
        have hneq2 : ((zs.length : Int) != (zs.length : Int)) = false := by simp
        have hk0 : (0 : Int) ≤ (k : Int) := by omega
        have hkl : (k : Int) < (zss.length : Int) := by omega
        clear hx hx' hc1 hc2
        go_wp2
        go_quiet (fail)
        go_wp2
        go_loopg [6] (zs.length) (fun jj i wr => ∃ j m : Nat, j + jj = zs.length ∧ i = .int .i64 j ∧ wr = w.drewN m)
        case atStart => exact ⟨0, _, by omega, rfl, by first | rfl | (simp; rfl)⟩
        case round =>
          obtain ⟨j, m1, hjj, rfl, rfl⟩ := hrel
          by_cases hjl : j < zs.length
          · have c1 := HC1.out j hjl
            have c2 := HC2.out j hjl
            generalize zs.getD j 0 = z at *
            have hneq3 : (z != z) = false := by simp
            have hj0 : (0 : Int) ≤ (j : Int) := by omega
            have hjz : (j : Int) < (zs.length : Int) := by omega
            go_wp2
            go_quiet (fail)
            go_wp2
            go_roundg (gk - 1)
            case measure => omega
            case rel => exact ⟨j + 1, _, by omega, by go_num, by first | rfl | (simp; rfl)⟩
          · go_wp2
            go_roundg (mm - 1)
            case measure => omega
            case rel => exact ⟨k + 1, m1, by omega, by go_num, rfl⟩
      · go_wp2
        go_ret
        exact ⟨rfl, below_drewN (Below.refl _ _)⟩

end Go.Proofs.Ytmlcblnndihjoaa
