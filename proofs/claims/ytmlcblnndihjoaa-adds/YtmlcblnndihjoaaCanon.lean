import Derived.Test.YtmlcblnndihjoaaBasis
namespace Go.Proofs.Ytmlcblnndihjoaa
open Go.RowKit

def ent (zss : List (List Int)) (i j : Nat) : Int := (zss.getD i []).getD j 0

/-- rows in the shape of a canonical basis, P the places of their pivots -/
structure CanRows (n : Nat) (zss : List (List Int)) (P : Nat → Nat) : Prop where
  len : ∀ i, i < zss.length → (zss.getD i []).length = n
  zero : ∀ i, i < zss.length → ∀ j, j < P i → ent zss i j = 0
  pos : ∀ i, i < zss.length → P i < n ∧ 0 < ent zss i (P i)
  incr : ∀ i, i + 1 < zss.length → P i < P (i + 1)
  red : ∀ i, i < zss.length → ∀ k, k < i → 0 ≤ ent zss k (P i) ∧ ent zss k (P i) < ent zss i (P i)

theorem IntsAt.cells {w : World} {v : Value} {zs : List Int} (h : IntsAt w v zs) (h0 : 0 < zs.length) :
    ∃ b o cap, v = .slice (some ⟨b, o, none⟩) zs.length cap ∧ ∀ i, i < zs.length → w.cell? ⟨b, o + i, none⟩ = some (.int .i64 (zs.getD i 0)) := by
  rcases h with ⟨rfl, _⟩ | ⟨_, b, o, cap, h1, h2⟩
  · simp at h0
  · exact ⟨b, o, cap, h1, h2⟩

set_option maxHeartbeats 400000 in
theorem lead_any (v : Value) (zs : List Int) (p : Nat) (w : World) (hv : IntsAt w v zs) (hl : zs.length ≤ 3) (hp : p < zs.length) (hz : ∀ j, j < p → zs.getD j 0 = 0) (hn : zs.getD p 0 ≠ 0) :
    Calls Try.prog 68 #[v] w fun e w' => e = .returned (.int .i64 p) ∧ w' = w := by
  obtain ⟨b, o, cap, rfl, hc⟩ := hv.cells (by omega)
  have HC : Hid (∀ i, i < zs.length → w.cell? ⟨b, o + i, none⟩ = some (.int .i64 (zs.getD i 0))) := hc
  have HZ : Hid (∀ j, j < p → zs.getD j 0 = 0) := hz
  have HN : Hid (zs.getD p 0 ≠ 0) := hn
  have hl3 : (zs.length : Int) ≤ 3 := by omega
  clear hc hz hn hv
  go_enter Try.func68, Try.ntmps68
  go_wp2
  go_loop [3] (fun i => ∃ k : Nat, k ≤ p ∧ i = .int .i64 k) (fun i => p - (intOf i).toNat)
  case atStart => exact ⟨0, by omega, rfl⟩
  case round =>
    obtain ⟨k, hk, rfl⟩ := hrel
    have hkl : k < zs.length := by omega
    have hkl' : (k : Int) < (zs.length : Int) := by omega
    have hcell := HC.out k hkl
    by_cases e : k = p
    · have hne : (zs.getD k 0 == 0) = false := by rw [e]; have := HN.out; simpa using this
      generalize zs.getD k 0 = z at *
      have HE : Hid (k = p) := e
      clear e
      go_wp2
      go_ret
      exact ⟨ret_int (by rw [HE.out]), rfl⟩
    · have hze := HZ.out k (by omega)
      rw [hze] at hcell
      have hlt : k < p := by omega
      clear e hze
      go_wp2
      go_round
      case rel => exact ⟨k + 1, by omega, by go_num⟩
      case measure => simp [intOf]; omega

set_option maxHeartbeats 2000000 in
theorem canonical_any (n : Nat) (v : Value) (zss : List (List Int)) (P : Nat → Nat) (w : World) (hv : RowsAt w v zss) (h1 : 0 < n) (h3 : n ≤ 3) (hl : zss.length ≤ 3) (hC : CanRows n zss P) :
    Calls Try.prog 40 #[.int .i64 n, v] w fun e w' => e = .returned (.bool true) ∧ Below w.heap.size w w' := by
  have hn3 : (n : Int) ≤ 3 := by omega
  have hn0 : (0 : Int) ≤ (n : Int) := by omega
  rcases hv with ⟨rfl, a, cap, rfl⟩ | ⟨h0, b, o, cap, rfl, hc⟩
  · go_enter Try.func40, Try.ntmps40
    go_wp2
    refine wp_loop_rounds 1 ?_
    rw [rounds_succ]
    go_wp2
    go_ret
    exact ⟨rfl, Below.refl _ _⟩
  · have HC : Hid (∀ i, i < zss.length → ∃ x, w.cell? ⟨b, o + i, none⟩ = some x ∧ IntsAt w x (zss.getD i [])) := hc
    have HR : Hid (CanRows n zss P) := hC
    have hl3 : (zss.length : Int) ≤ 3 := by omega
    clear hc hC
    go_enter Try.func40, Try.ntmps40
    go_wp2
    go_loopg [5, 6] (zss.length) (fun mm last i wr => ∃ k m : Nat, k + mm = zss.length ∧ i = .int .i64 k ∧ last = .int .i64 (if k = 0 then -1 else (P (k - 1) : Int)) ∧ wr = w.drewN m)
    case atStart => exact ⟨0, 0, by omega, rfl, rfl, rfl⟩
    case round =>
      obtain ⟨k, m, hkk, rfl, rfl, rfl⟩ := hrel
      have hk : k ≤ zss.length := by omega
      obtain ⟨mm, hmm⟩ : ∃ mm, mm = gk := ⟨_, rfl⟩
      by_cases hlt : k < zss.length
      · obtain ⟨x, hcell, hx⟩ := HC.out k hlt
        have hlen := HR.out.len k hlt
        obtain ⟨hp1, hp2⟩ := HR.out.pos k hlt
        obtain ⟨b1, o1, cap1, rfl, hc1⟩ := hx.cells (by omega)
        rw [hlen] at hcell
        have hcp : w.cell? ⟨b1, o1 + P k, none⟩ = some (.int .i64 (ent zss k (P k))) := hc1 (P k) (by omega)
        have HL : Hid (∀ m, Calls Try.prog 68 #[.slice (some ⟨b1, o1, none⟩) n cap1] (w.drewN m) fun e w' => e = .returned (.int .i64 (P k)) ∧ w' = w.drewN m) := fun m => by
          have h := lead_any (.slice (some ⟨b1, o1, none⟩) (zss.getD k []).length cap1) (zss.getD k []) (P k) (w.drewN m)
            (Or.inr ⟨by omega, b1, o1, cap1, rfl, fun i hi => hc1 i hi⟩) (by omega) (by omega) (fun j hj => HR.out.zero k hlt j hj) (fun e => by have e' : ent zss k (P k) = 0 := e; omega)
          rw [hlen] at h; exact h
        have hpn : (P k : Int) < (n : Int) := by omega
        have hla : (if k = 0 then -1 else (P (k - 1) : Int)) < (P k : Int) := by
          split
          · omega
          · have := HR.out.incr (k - 1) (by omega)
            rw [show k - 1 + 1 = k from by omega] at this; omega
        have hlb : -1 ≤ (if k = 0 then -1 else (P (k - 1) : Int)) := by split <;> omega
        have hneq : ((n : Int) != (n : Int)) = false := by simp
        have HRed : Hid (∀ j, j < k → 0 ≤ ent zss j (P k) ∧ ent zss j (P k) < ent zss k (P k)) := HR.out.red k hlt
        clear hx hlen hc1
        generalize (if k = 0 then -1 else (P (k - 1) : Int)) = last at *
        obtain ⟨pk, hpk⟩ : ∃ pk, pk = P k := ⟨_, rfl⟩
        have HPK : Hid (pk = P k) := hpk
        rw [← hpk] at hp1 hp2 hcp HL hpn hla HRed
        clear hpk
        obtain ⟨z, hz⟩ : ∃ z, z = ent zss k pk := ⟨_, rfl⟩
        rw [← hz] at hp2 hcp HRed
        clear hz
        have hz0 : decide (z < 0) = false := by simp; omega
        have hpl : decide ((pk : Int) ≤ last) = false := by simp; omega
        have hpw : decide (n ≤ pk) = false := by simp; omega
        go_wp2_with fail
        refine (HL.out _).mono ?_
        rintro e w' ⟨rfl, hq'⟩; replace hq' := hq'.symm; subst hq'
        go_wp2
        go_loopg [8] (k) (fun jj i wr => ∃ j m : Nat, j + jj = k ∧ i = .int .i64 j ∧ wr = w.drewN m)
        case atStart => exact ⟨0, _, by omega, rfl, rfl⟩
        case round =>
          obtain ⟨j, m1, hjj, rfl, rfl⟩ := hrel
          by_cases hjk : j < k
          · obtain ⟨xj, hcellj, hxj⟩ := HC.out j (by omega)
            have hlenj := HR.out.len j (by omega)
            obtain ⟨b2, o2, cap2, rfl, hc2⟩ := hxj.cells (by omega)
            rw [hlenj] at hcellj
            have hcj : w.cell? ⟨b2, o2 + pk, none⟩ = some (.int .i64 (ent zss j pk)) := hc2 pk (by omega)
            obtain ⟨y, hy⟩ : ∃ y, y = ent zss j pk := ⟨_, rfl⟩
            have hred := HRed.out j hjk
            rw [← hy] at hcj hred
            have d1 : decide (y < 0) = false := by simp; omega
            have d2 : ¬ z ≤ y := by omega
            have hjk' : (j : Int) < (k : Int) := by omega
            have hjl' : (j : Int) < (zss.length : Int) := by omega
            have hkl' : (k : Int) < (zss.length : Int) := by omega
            have hj0 : (0 : Int) ≤ (j : Int) := by omega
            have hk0 : (0 : Int) ≤ (k : Int) := by omega
            have hp0 : (0 : Int) ≤ (pk : Int) := by omega
            clear hxj hlenj hc2 hy
            go_wp2
            go_quiet (fail)
            go_wp2
            go_roundg (gk - 1)
            case measure => omega
            case rel => exact ⟨j + 1, _, by omega, by go_num, rfl⟩
          · have hjk' : ¬ (j : Int) < (k : Int) := by omega
            go_wp2
            go_roundg (mm - 1)
            case measure => omega
            case rel =>
              refine ⟨k + 1, m1, by omega, by go_num, ?_, rfl⟩
              rw [if_neg (by omega), show k + 1 - 1 = k from by omega, HPK.out]
      · go_wp2
        go_ret
        exact ⟨rfl, below_drewN (Below.refl _ _)⟩

end Go.Proofs.Ytmlcblnndihjoaa
