import Derived.Test.YtdjicplcognddaaRefO
set_option linter.unusedSimpArgs false
set_option linter.unusedVariables false
namespace Go.Proofs.Ytdjicplcognddaa
open Go.RowKit

/-- the list so far: what it reads as, its cells in a block of its own -/
def WithSt (w : World) (zss : List (List Int)) (u : Value) (wr : World) : Prop :=
  ∃ L : List (Value × List Int), wr.ownsRow w.heap.size 22 1 u L.length (L.map (·.1)) ∧ (∀ p ∈ L, IntsAt w p.1 p.2) ∧ L.map (·.2) = zss ∧ Below w.heap.size w wr

set_option maxRecDepth 100000 in
set_option maxHeartbeats 4000000 in
theorem rwith_any (v v' : Value) (zss zss' : List (List Int)) (w : World) (hv : RowsAt w v zss) (hv' : RowsAt w v' zss') (hl : zss.length ≤ 6) (hl' : zss'.length ≤ 6) :
    Calls Try.prog 51 #[v, v'] w fun e w' => ∃ out, e = .returned out ∧ RowsAt w' out (zss ++ zss') ∧ Below w.heap.size w w' := by
  have HV := hide hv
  have HV' := hide hv'
  obtain ⟨i0, hi, hz0, hz1, hz2⟩ := info_parts Try.info22
  have HI : Hid (Try.prog.info? 22 = some i0 ∧ i0.zero = some (.slice none 0 0) ∧ i0.size = 1 ∧ i0.bytes = 24) := ⟨hi, hz0, hz1, hz2⟩
  clear hi hz0 hz1 hz2
  obtain ⟨a, cap, rfl⟩ := hv.slice
  obtain ⟨a', cap', rfl⟩ := hv'.slice
  clear hv hv'
  go_enter Try.func51, Try.ntmps51
  go_wp2
  go_loopg [5, 6] (zss.length) (fun mm u i wr => ∃ k : Nat, k + mm = zss.length ∧ i = .int .i64 k ∧ WithSt w (zss.take k) u wr)
  case atStart => exact ⟨0, by omega, rfl, [], World.ownsRow_nil _ _ _ _, by simp, by simp, Below.refl _ _⟩
  case round =>
    obtain ⟨k, hk, rfl, hst⟩ := hrel
    have HST := hide hst
    clear hst
    by_cases hlt : k < zss.length
    · obtain ⟨L, hown, hIn, hL, hB⟩ := HST.out
      rcases HV.out with ⟨e0, _⟩ | ⟨_, b, o, cap1, e1, hc⟩
      · rw [e0] at hlt; simp at hlt
      injection e1 with e2 e3 e4
      subst e2
      obtain ⟨x, hcell, hx⟩ := hc k hlt
      have hcw := cell_below hB hcell
      have HX := hide hx
      obtain ⟨xa, xcap, rfl⟩ := hx.slice
      generalize hlen : (zss.getD k []).length = xl at *
      have HLL := hide hL
      have HIN := hide hIn
      have hLl : L.length ≤ 12 := by
        have t := congrArg List.length hL
        simp at t; omega
      have hsz := hB.size
      obtain ⟨hi, hz0, hz1, hz2⟩ := HI.out
      have HBB := hide hB
      have hkz : (k : Int) < (zss.length : Int) := by omega
      clear hc hcell hx hL hIn e3 e4 hB
      go_wp2_with (at_builtin; refine wpList_append_lies _ rfl (.tmp 14) (.tmp 19) 26 rfl w.heap.size 22 i0 (.slice none 0 0) 1 24 Try.underlying26 hi hz0 hz1 hz2 rfl (by decide) _ _ _ rfl (hown.alloc _) ⟨wr.heap.size, 0, none⟩ 1 1 [.slice xa xl xcap] rfl rfl (World.news_of_block (cs := #[.slice xa xl xcap]) (t := 22) (fr := (0, 0)) (Blk.new _ _ _ rfl)) (by intro u hu; simp at hu; subst hu; rfl) (by omega) (by unfold maxLen; omega) (by omega) (by simp <;> omega) _ rfl ?_; intro g cap2 w2 hown1 hgrow hat hglt)
      go_roundg (gk - 1)
      case measure => omega
      case rel =>
        refine ⟨k + 1, by omega, by go_num, L ++ [(.slice xa xl xcap, zss.getD k [])], ?_, ?_, ?_, ?_⟩
        · rw [List.length_append, List.map_append]; exact hown1
        · intro p hp
          rcases List.mem_append.1 hp with hp | hp
          · exact HIN.out p hp
          · rw [List.mem_singleton] at hp; subst hp; exact HX.out
        · rw [List.map_append, HLL.out, take_snocR hlt]; rfl
        · exact (HBB.out.alloc (by omega) _).grown hgrow (by simp <;> omega) (fun j hj => by have := (hown.lt j hj).1; omega)
    · have HK : Hid (zss.take k = zss) := by show zss.take k = zss; rw [List.take_of_length_le (by omega)]
      have HST2 : Hid (WithSt w (zss ++ zss'.take 0) u5 wr) := by
        have t := HST.out; rw [HK.out] at t; show WithSt w (zss ++ zss'.take 0) u5 wr; simpa using t
      clear HST
      go_wp2
      go_loopg [5, 7] (zss'.length) (fun mm u i wr => ∃ k : Nat, k + mm = zss'.length ∧ i = .int .i64 k ∧ WithSt w (zss ++ zss'.take k) u wr)
      case atStart => exact ⟨0, by omega, rfl, HST2.out⟩
      case round =>
        obtain ⟨q, hq, rfl, hst⟩ := hrel
        have HST := hide hst
        clear hst HST2
        by_cases hlq : q < zss'.length
        · obtain ⟨L, hown, hIn, hL, hB⟩ := HST.out
          rcases HV'.out with ⟨e0, _⟩ | ⟨_, b, o, cap1, e1, hc⟩
          · rw [e0] at hlq; simp at hlq
          injection e1 with e2 e3 e4
          subst e2
          obtain ⟨x, hcell, hx⟩ := hc q hlq
          have hcw := cell_below hB hcell
          have HX := hide hx
          obtain ⟨xa, xcap, rfl⟩ := hx.slice
          generalize hlen : (zss'.getD q []).length = xl at *
          have HLL := hide hL
          have HIN := hide hIn
          have hLl : L.length ≤ 12 := by
            have t := congrArg List.length hL
            simp at t; omega
          have hsz := hB.size
          obtain ⟨hi, hz0, hz1, hz2⟩ := HI.out
          have HBB := hide hB
          have hkz : (q : Int) < (zss'.length : Int) := by omega
          clear hc hcell hx hL hIn e3 e4 hB
          go_wp2_with (at_builtin; refine wpList_append_lies _ rfl (.tmp 27) (.tmp 32) 26 rfl w.heap.size 22 i0 (.slice none 0 0) 1 24 Try.underlying26 hi hz0 hz1 hz2 rfl (by decide) _ _ _ rfl (hown.alloc _) ⟨wr.heap.size, 0, none⟩ 1 1 [.slice xa xl xcap] rfl rfl (World.news_of_block (cs := #[.slice xa xl xcap]) (t := 22) (fr := (0, 0)) (Blk.new _ _ _ rfl)) (by intro u hu; simp at hu; subst hu; rfl) (by omega) (by unfold maxLen; omega) (by omega) (by simp <;> omega) _ rfl ?_; intro g cap2 w2 hown1 hgrow hat hglt)
          go_roundg (gk - 1)
          case measure => omega
          case rel =>
            refine ⟨q + 1, by omega, by go_num, L ++ [(.slice xa xl xcap, zss'.getD q [])], ?_, ?_, ?_, ?_⟩
            · rw [List.length_append, List.map_append]; exact hown1
            · intro p hp
              rcases List.mem_append.1 hp with hp | hp
              · exact HIN.out p hp
              · rw [List.mem_singleton] at hp; subst hp; exact HX.out
            · rw [List.map_append, HLL.out, take_snocR hlq, ← List.append_assoc]; rfl
            · exact (HBB.out.alloc (by omega) _).grown hgrow (by simp <;> omega) (fun j hj => by have := (hown.lt j hj).1; omega)
        · have HQ : Hid (zss'.take q = zss') := by show zss'.take q = zss'; rw [List.take_of_length_le (by omega)]
          go_wp2
          go_ret
          obtain ⟨L, hown, hIn, hL, hB⟩ := HST.out
          rw [HQ.out] at hL
          refine ⟨_, rfl, ?_, hB⟩
          rw [← hL]
          exact rowsAt_pairs L hown (fun p hp => (hIn p hp).below hB)

end Go.Proofs.Ytdjicplcognddaa
