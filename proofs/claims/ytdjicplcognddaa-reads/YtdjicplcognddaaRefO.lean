import Derived.Test.YtdjicplcognddaaRefN
set_option linter.unusedSimpArgs false
set_option linter.unusedVariables false
namespace Go.Proofs.Ytdjicplcognddaa
open Go.RowKit

theorem take_eq_succ {α : Type} {l l' : List α} {k : Nat} {d : α} (h : l.take k = l'.take k) (h1 : k < l.length) (h2 : k < l'.length) (e : l.getD k d = l'.getD k d) : l.take (k + 1) = l'.take (k + 1) := by
  rw [List.take_succ_eq_append_getElem h1, List.take_succ_eq_append_getElem h2, h]
  rw [List.getD_eq_getElem?_getD, List.getD_eq_getElem?_getD, List.getElem?_eq_getElem h1, List.getElem?_eq_getElem h2] at e
  simp at e; rw [e]

theorem take_all_eq {α : Type} {l l' : List α} {k : Nat} (h : l.take k = l'.take k) (h1 : k = l.length) (h2 : l.length = l'.length) : l = l' := by
  subst h1
  rw [List.take_length] at h
  rw [h2, List.take_length] at h; exact h

/-- a bool whose meaning is known -/
def SameEnd (e : Ending) (p : Prop) : Prop := ∃ r : Bool, e = .returned (.bool r) ∧ (r = true ↔ p)

set_option maxHeartbeats 2000000 in
theorem rsame_any (v v' : Value) (zss zss' : List (List Int)) (w : World) (hv : RowsAt w v zss) (hv' : RowsAt w v' zss') (hl : zss.length ≤ 6) (hz : ∀ zs ∈ zss, 0 < zs.length ∧ zs.length ≤ 3) (hz' : ∀ zs ∈ zss', 0 < zs.length ∧ zs.length ≤ 3) :
    Calls Try.prog 16 #[v, v'] w fun e w' => SameEnd e (zss = zss') ∧ Below w.heap.size w w' := by
  by_cases hL : zss.length = zss'.length
  · rcases hv with ⟨rfl, a, cap, rfl⟩ | ⟨h0, b, o, cap, rfl, hc⟩
    · have e0 : zss' = [] := List.length_eq_zero_iff.1 hL.symm
      subst e0
      obtain ⟨a', cap', rfl⟩ := hv'.slice
      clear hv'
      have hneq : (((0 : Nat) : Int) != ((0 : Nat) : Int)) = false := by simp
      go_enter Try.func16, Try.ntmps16
      go_wp2
      refine wp_loop_rounds 1 ?_
      rw [rounds_succ]
      go_wp2
      go_ret
      exact ⟨⟨true, rfl, by simp⟩, Below.refl _ _⟩
    · rcases hv' with ⟨rfl, _⟩ | ⟨_, b', o', cap', rfl, hc'⟩
      · simp at hL; rw [hL] at h0; simp at h0
      rw [← hL] at hc' ⊢
      have HC : Hid (∀ i, i < zss.length → ∃ x, w.cell? ⟨b, o + i, none⟩ = some x ∧ IntsAt w x (zss.getD i [])) := hc
      have HC' : Hid (∀ i, i < zss.length → ∃ x, w.cell? ⟨b', o' + i, none⟩ = some x ∧ IntsAt w x (zss'.getD i [])) := hc'
      have HZ : Hid (∀ zs ∈ zss, 0 < zs.length ∧ zs.length ≤ 3) := hz
      have HZ' : Hid (∀ zs ∈ zss', 0 < zs.length ∧ zs.length ≤ 3) := hz'
      have HL := hide hL
      have hl3 : (zss.length : Int) ≤ 6 := by omega
      have hneq : ((zss.length : Int) != (zss.length : Int)) = false := by simp
      clear hc hc' hz hz' hL
      go_enter Try.func16, Try.ntmps16
      go_wp2
      go_loopg [5] (zss.length) (fun mm i wr => ∃ k m : Nat, k + mm = zss.length ∧ i = .int .i64 k ∧ wr = w.drewN m ∧ zss.take k = zss'.take k)
      case atStart => exact ⟨0, 0, by omega, rfl, rfl, by simp⟩
      case round =>
        obtain ⟨k, m, hkk, rfl, rfl, htk⟩ := hrel
        have HTK := hide htk
        clear htk
        obtain ⟨mm, hmm⟩ : ∃ mm, mm = gk := ⟨_, rfl⟩
        by_cases hlt : k < zss.length
        · obtain ⟨x, hcell, hx⟩ := HC.out k hlt
          obtain ⟨x', hcell', hx'⟩ := HC'.out k hlt
          have hzl := HZ.out _ (getD_memR hlt)
          have hzl' := HZ'.out (zss'.getD k []) (getD_memR (by rw [← HL.out]; exact hlt))
          obtain ⟨zs, hzs⟩ : ∃ zs, zs = zss.getD k [] := ⟨_, rfl⟩
          obtain ⟨zs', hzs'⟩ : ∃ zs', zs' = zss'.getD k [] := ⟨_, rfl⟩
          rw [← hzs] at hx hzl
          rw [← hzs'] at hx' hzl'
          have HZS := hide hzs
          have HZS' := hide hzs'
          clear hzs hzs'
          obtain ⟨b1, o1, cap1, rfl, hc1⟩ := hx.cells hzl.1
          obtain ⟨b2, o2, cap2, rfl, hc2⟩ := hx'.cells hzl'.1
          have HC1 : Hid (∀ i, i < zs.length → w.cell? ⟨b1, o1 + i, none⟩ = some (.int .i64 (zs.getD i 0))) := hc1
          have HC2 : Hid (∀ i, i < zs'.length → w.cell? ⟨b2, o2 + i, none⟩ = some (.int .i64 (zs'.getD i 0))) := hc2
          have hz3 : (zs.length : Int) ≤ 3 := by omega
          have hk0 : (0 : Int) ≤ (k : Int) := by omega
          have hkl : (k : Int) < (zss.length : Int) := by omega
          clear hx hx' hc1 hc2
          by_cases hrl : zs.length = zs'.length
          · have HRL := hide hrl
            have hneq2 : ((zs.length : Int) != (zs.length : Int)) = false := by simp
            rw [← hrl] at HC2 hcell'
            clear hrl hzl'
            go_wp2
            go_quiet (fail)
            go_wp2
            go_loopg [6] (zs.length) (fun jj i wr => ∃ j m : Nat, j + jj = zs.length ∧ i = .int .i64 j ∧ wr = w.drewN m ∧ zs.take j = zs'.take j)
            case atStart => exact ⟨0, _, by omega, rfl, by first | rfl | (simp; rfl), by simp⟩
            case round =>
              obtain ⟨j, m1, hjj, rfl, rfl, htj⟩ := hrel
              have HTJ := hide htj
              clear htj
              by_cases hjl : j < zs.length
              · have c1 := HC1.out j hjl
                have c2 := HC2.out j hjl
                obtain ⟨z, hz⟩ : ∃ z, z = zs.getD j 0 := ⟨_, rfl⟩
                obtain ⟨z', hz'⟩ : ∃ z', z' = zs'.getD j 0 := ⟨_, rfl⟩
                rw [← hz] at c1
                rw [← hz'] at c2
                have HZ1 := hide hz
                have HZ2 := hide hz'
                clear hz hz'
                have hj0 : (0 : Int) ≤ (j : Int) := by omega
                have hjz : (j : Int) < (zs.length : Int) := by omega
                by_cases hzz : z = z'
                · have HZZ := hide hzz
                  have hneq3 : (z != z') = false := by simpa using hzz
                  clear hzz
                  go_wp2
                  go_quiet (fail)
                  go_wp2
                  go_roundg (gk - 1)
                  case measure => omega
                  case rel => exact ⟨j + 1, _, by omega, by go_num, by first | rfl | (simp; rfl), take_eq_succ (d := 0) HTJ.out hjl (by rw [← HRL.out]; exact hjl) (by rw [← HZ1.out, ← HZ2.out]; exact HZZ.out)⟩
                · have HZZ := hide hzz
                  have hneq3 : (z != z') = true := by simpa using hzz
                  clear hzz
                  go_wp2
                  go_quiet (fail)
                  go_wp2
                  go_ret
                  refine ⟨⟨false, rfl, ?_⟩, (by first | exact below_drewN (Below.refl _ _) | exact below_drewN (below_drewN (Below.refl _ _)) | exact below_drewN (below_drewN (below_drewN (Below.refl _ _))))⟩
                  refine ⟨fun h => (by cases h), fun h => absurd ?_ HZZ.out⟩
                  rw [HZ1.out, HZ2.out, HZS.out, HZS'.out, h]
              · have HJ : Hid (zs = zs') := take_all_eq HTJ.out (by omega) HRL.out
                go_wp2
                go_roundg (mm - 1)
                case measure => omega
                case rel => exact ⟨k + 1, m1, by omega, by go_num, rfl, take_eq_succ (d := []) HTK.out hlt (by rw [← HL.out]; exact hlt) (by rw [← HZS.out, ← HZS'.out]; exact HJ.out)⟩
          · have HRL := hide hrl
            have hneq2 : ((zs.length : Int) != (zs'.length : Int)) = true := by
              simp; omega
            clear hrl
            go_wp2
            go_quiet (fail)
            go_wp2
            go_ret
            refine ⟨⟨false, rfl, ?_⟩, (by first | exact below_drewN (Below.refl _ _) | exact below_drewN (below_drewN (Below.refl _ _)) | exact below_drewN (below_drewN (below_drewN (Below.refl _ _))))⟩
            refine ⟨fun h => (by cases h), fun h => absurd ?_ HRL.out⟩
            rw [HZS.out, HZS'.out, h]
        · have HJ : Hid (zss = zss') := take_all_eq HTK.out (by omega) HL.out
          go_wp2
          go_ret
          exact ⟨⟨true, rfl, fun _ => HJ.out, fun _ => rfl⟩, (by first | exact below_drewN (Below.refl _ _) | exact below_drewN (below_drewN (Below.refl _ _)) | exact below_drewN (below_drewN (below_drewN (Below.refl _ _))))⟩
  · have hneq : ((zss.length : Int) != (zss'.length : Int)) = true := by
      simp; omega
    have HL := hide hL
    clear hL
    obtain ⟨a, cap, rfl⟩ := hv.slice
    obtain ⟨a', cap', rfl⟩ := hv'.slice
    clear hv hv'
    go_enter Try.func16, Try.ntmps16
    go_wp2
    go_ret
    refine ⟨⟨false, rfl, ?_⟩, Below.refl _ _⟩
    exact ⟨fun h => (by cases h), fun h => absurd (by rw [h]) HL.out⟩

end Go.Proofs.Ytdjicplcognddaa
