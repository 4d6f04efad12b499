import Derived.Test.YtmlcblnndihjoabCallE
import Derived.Deep.AppendLies
import Derived.Deep.OwnRows

namespace Go.Proofs.Ytmlcblnndihjoab
open Go.RowKit

/-- a list of rows that the call itself made: each in a block of its own -/
structure OwnRows (w : World) (B : Nat) (v : Value) (bs : List Nat) (zss : List (List Int)) (n : Nat) : Prop where
  own : w.ownsRow B 22 1 v bs.length (bs.map fun b => Value.slice (some ⟨b, 0, none⟩) n n)
  len : zss.length = bs.length
  row : ∀ i, i < bs.length → Blk w (bs.getD i 0) ((zss.getD i []).map (Value.int .i64)).toArray 3 ∧ (zss.getD i []).length = n ∧ B ≤ bs.getD i 0 ∧ v.ownBlock ≠ some (bs.getD i 0)
  apart : bs.Nodup

theorem Try.info22 : (Try.prog.info? 22).map (fun i => (i.zero, i.size, i.bytes)) = some (some (.slice none 0 0), 1, 24) := by kernel_rfl
theorem Try.info3 : (Try.prog.info? 3).map (fun i => (i.zero, i.size, i.bytes)) = some (some (.int .i64 0), 1, 8) := by kernel_rfl

theorem make1 (w : World) : (Instr.makeSlice 22 (.int .i64 1) (.int .i64 1)).run Try.prog w = .ok (.slice (some ⟨w.heap.size, 0, none⟩) 1 1) (w.alloc (.cells #[.int .i64 0] 3)) := by
  have h := run_make_row' (P := Try.prog) 22 3 (.int .i64 0) 8 Try.underlying22 Try.info3 rfl .i64 .i64 1 (by omega) (by omega) w
  have e : madeCells #[Value.int .i64 0] 1 = #[.int .i64 0] := by kernel_rfl
  rw [e] at h; exact h
theorem make2 (w : World) : (Instr.makeSlice 22 (.int .i64 2) (.int .i64 2)).run Try.prog w = .ok (.slice (some ⟨w.heap.size, 0, none⟩) 2 2) (w.alloc (.cells #[.int .i64 0, .int .i64 0] 3)) := by
  have h := run_make_row' (P := Try.prog) 22 3 (.int .i64 0) 8 Try.underlying22 Try.info3 rfl .i64 .i64 2 (by omega) (by omega) w
  have e : madeCells #[Value.int .i64 0] 2 = #[.int .i64 0, .int .i64 0] := by kernel_rfl
  rw [e] at h; exact h
theorem make3 (w : World) : (Instr.makeSlice 22 (.int .i64 3) (.int .i64 3)).run Try.prog w = .ok (.slice (some ⟨w.heap.size, 0, none⟩) 3 3) (w.alloc (.cells #[.int .i64 0, .int .i64 0, .int .i64 0] 3)) := by
  have h := run_make_row' (P := Try.prog) 22 3 (.int .i64 0) 8 Try.underlying22 Try.info3 rfl .i64 .i64 3 (by omega) (by omega) w
  have e : madeCells #[Value.int .i64 0] 3 = #[.int .i64 0, .int .i64 0, .int .i64 0] := by kernel_rfl
  rw [e] at h; exact h

theorem tmod_le (z most : Int) (h : 0 ≤ most) : -most ≤ z.tmod (most + 1) ∧ z.tmod (most + 1) ≤ most := by
  have h7 : (z.tmod (most + 1)).natAbs < (most + 1).natAbs := by rw [Int.natAbs_tmod]; exact Nat.mod_lt _ (by omega)
  omega

def RowsEnd (B n : Nat) (k most : Int) (w' : World) (e : Ending) : Prop :=
  ∃ out bs zss, e = .returned out ∧ OwnRows w' B out bs zss n ∧ (zss.length : Int) ≤ k ∧ (∀ zs ∈ zss, ∀ z ∈ zs, -most ≤ z ∧ z ≤ most)

theorem OwnRows.nil (w : World) (B n : Nat) : OwnRows w B (.slice none 0 0) [] [] n :=
  ⟨World.ownsRow_nil _ _ _ _, rfl, fun i hi => by simp at hi, List.nodup_nil⟩

/-- one row more -/
theorem OwnRows.snoc {w w1 : World} {B : Nat} {v v1 : Value} {bs : List Nat} {zss : List (List Int)} {n p g cap : Nat} {zs : List Int}
    (h : OwnRows w B v bs zss n) (hz : zs.length = n) (hp : Blk w p (zs.map (Value.int .i64)).toArray 3) (hB : B ≤ p) (hnew : ∀ i, i < bs.length → bs.getD i 0 ≠ p) (hvp : v.ownBlock ≠ some p)
    (hv1 : v1 = .slice (some ⟨g, 0, none⟩) (bs.length + 1) cap)
    (ho : w1.ownsRow B 22 1 v1 (bs.length + 1) ((bs.map fun b => Value.slice (some ⟨b, 0, none⟩) n n) ++ [Value.slice (some ⟨p, 0, none⟩) n n]))
    (hg : w.grownBy w1 v.ownBlock) (hat : v.ownBlock = some g ∨ g = w.heap.size) : OwnRows w1 B v1 (bs ++ [p]) (zss ++ [zs]) n := by
  have hl := h.len
  have hob : v1.ownBlock = some g := by rw [hv1]; rfl
  have keep : ∀ (b : Nat) (cs : Array Value) (T : TypeId), Blk w b cs T → v.ownBlock ≠ some b → Blk w1 b cs T := fun b cs T hb hne => by
    unfold Blk; rw [hg.block b hb.lt (fun e => hne e.symm)]; exact hb
  have far : ∀ (b : Nat) (cs : Array Value) (T : TypeId), Blk w b cs T → v.ownBlock ≠ some b → v1.ownBlock ≠ some b := fun b cs T hb hne => by
    rw [hob]
    intro e
    injection e with e
    rcases hat with e2 | e2
    · rw [e] at e2; exact hne e2
    · have := hb.lt; omega
  refine ⟨?_, ?_, ?_, ?_⟩
  · rw [List.map_append, List.length_append]; exact ho
  · simp [hl]
  · intro i hi
    rw [List.length_append] at hi
    simp at hi
    by_cases hlt : i < bs.length
    · have e1 : (bs ++ [p]).getD i 0 = bs.getD i 0 := by simp [List.getD_eq_getElem?_getD, List.getElem?_append_left hlt]
      have e2 : (zss ++ [zs]).getD i [] = zss.getD i [] := by simp [List.getD_eq_getElem?_getD, List.getElem?_append_left (show i < zss.length by omega)]
      rw [e1, e2]
      obtain ⟨r1, r2, r3, r4⟩ := h.row i hlt
      exact ⟨keep _ _ _ r1 r4, r2, r3, far _ _ _ r1 r4⟩
    · have ei : i = bs.length := by omega
      have e1 : (bs ++ [p]).getD i 0 = p := by subst ei; simp [List.getD_eq_getElem?_getD]
      have e2 : (zss ++ [zs]).getD i [] = zs := by subst ei; rw [← hl]; simp [List.getD_eq_getElem?_getD]
      rw [e1, e2]
      exact ⟨keep _ _ _ hp hvp, hz, hB, far _ _ _ hp hvp⟩
  · rw [List.nodup_append]
    refine ⟨h.apart, by simp, fun a ha b hb => ?_⟩
    simp at hb
    subst hb
    obtain ⟨i, hi, rfl⟩ := List.getElem_of_mem ha
    have := hnew i hi
    rwa [List.getD_eq_getElem?_getD, List.getElem?_eq_getElem hi] at this

theorem OwnRows.below {w w' : World} {B C : Nat} {v : Value} {bs : List Nat} {zss : List (List Int)} {n : Nat} (h : OwnRows w B v bs zss n) (hb : Below C w w') (hC : w.heap.size ≤ C) : OwnRows w' B v bs zss n := by
  refine ⟨?_, h.len, fun i hi => ?_, h.apart⟩
  · refine h.own.kept (w' := w') (row := none) ⟨hb.os, hb.tape, hb.output, hb.size, fun k hk _ => hb.block k (by omega)⟩ ?_
    by_cases e : v.ownBlock = none
    · exact Or.inl e
    · exact Or.inr e
  · obtain ⟨r1, r2⟩ := h.row i hi
    exact ⟨r1.below hb (by have := r1.lt; omega), r2⟩


set_option maxRecDepth 100000 in
set_option maxHeartbeats 2000000 in
theorem rows1 (k most : Int) (v : Value) (cells : List Int) (w : World) (hv : IntsAt w v cells) (hlen : cells.length ≤ maxLen) (k0 : 0 ≤ k) (k6 : k ≤ 6) (m0 : 0 ≤ most) (m1 : most ≤ 511) :
    Calls Try.prog 11 #[.int .i64 1, .int .i64 k, .int .i64 most, v] w fun e w' => RowsEnd w.heap.size 1 k most w' e ∧ Below w.heap.size w w' := by
  unfold maxLen at hlen
  obtain ⟨i0, hi, hz0, hz1, hz2⟩ := info_parts Try.info22
  have HI : Hid (Try.prog.info? 22 = some i0 ∧ i0.zero = some (.slice none 0 0) ∧ i0.size = 1 ∧ i0.bytes = 24) := ⟨hi, hz0, hz1, hz2⟩
  clear hi hz0 hz1 hz2
  have HV : Hid (IntsAt w v cells) := hv
  obtain ⟨a, cap, rfl⟩ := hv.slice
  clear hv
  go_enter Try.func11, Try.ntmps11
  go_wp2
  go_loopg [9, 10] (k.toNat) (fun m out i wr => ∃ (r : Nat) (bs : List Nat) (zss : List (List Int)), i = .int .i64 r ∧ (r : Int) + m = k ∧ bs.length = r ∧ OwnRows wr w.heap.size out bs zss 1 ∧ (∀ zs ∈ zss, ∀ z ∈ zs, -most ≤ z ∧ z ≤ most) ∧ Below w.heap.size w wr)
  case atStart => exact ⟨0, [], [], rfl, by omega, rfl, OwnRows.nil _ _ _, by simp, Below.refl _ _⟩
  case round =>
    obtain ⟨r, bs, zss, rfl, hr, hbl, hO, hent, hB⟩ := hrel
    have HO : Hid (OwnRows wr w.heap.size u9 bs zss 1) := hO
    have HE : Hid (∀ zs ∈ zss, ∀ z ∈ zs, -most ≤ z ∧ z ≤ most) := hent
    clear hO hent
    by_cases hlt : (r : Int) < k
    · by_cases hfit : 1 * ((r : Int) + 1) ≤ cells.length
      · rcases HV.out with ⟨e0, _⟩ | ⟨_, b, o, cap', e1, hc⟩
        · rw [e0] at hfit; simp at hfit; omega
        injection e1 with e2 e3 e4
        subst e2
        have hcw : ∀ i, i < cells.length → wr.cell? ⟨b, o + i, none⟩ = some (.int .i64 (cells.getD i 0)) := fun i hi => cell_below hB (hc i hi)
        have HC : Hid (∀ i, i < cells.length → wr.cell? ⟨b, o + i, none⟩ = some (.int .i64 (cells.getD i 0))) := hcw
        clear hc hcw e3 e4
        have hmk := make1
        have hlb : b < wr.heap.size := World.block_lt_of_cell? wr _ (HC.out 0 (by omega))
        obtain ⟨z0, e0⟩ : ∃ z, z = cells.getD (r) 0 := ⟨_, rfl⟩
        have c0 : wr.cell? ⟨b, o + r, none⟩ = some (.int .i64 z0) := by rw [e0]; exact HC.out (r) (by omega)
        clear e0
        clear HC HV
        have hm1 : most + 1 ≠ 0 := by omega
        go_wp2
        refine wp_loop_rounds 2 ?_
        rw [rounds_succ]; go_wp2

        rw [rounds_succ]
        obtain ⟨hi, hz0, hz1, hz2⟩ := HI.out
        have hown := HO.out.own
        have hbl6 : bs.length ≤ 6 := by omega
        have hNw := hB.size
        go_wp2_with (at_builtin; refine wpList_append_lies _ rfl (.tmp 48) (.tmp 50) 24 rfl w.heap.size 22 i0 (.slice none 0 0) 1 24 Try.underlying24 hi hz0 hz1 hz2 rfl (by decide) _ _ _ rfl ((hown.alloc _).alloc _) ⟨wr.heap.size + 1, 0, none⟩ 1 1 [.slice (some ⟨wr.heap.size, 0, none⟩) 1 1] rfl rfl (World.news_of_block (cs := #[.slice (some ⟨wr.heap.size, 0, none⟩) 1 1]) (t := 22) (fr := (0, 0)) (Blk.new _ _ _ (by simp))) (by intro u hu; simp at hu; subst hu; rfl) (by omega) (by unfold maxLen; omega) (by omega) (by simp; omega) _ rfl ?_; intro g cap1 w1 hown1 hgrow hat hglt)
        go_roundg (gk - 1)
        case measure => omega
        case rel =>
          have hOb : OwnRows ((wr.alloc (.cells #[.int .i64 (z0.tmod (most + 1))] 3)).alloc (.cells #[.slice (some ⟨wr.heap.size, 0, none⟩) 1 1] 22)) w.heap.size u9 bs zss 1 :=
            HO.out.below (((Below.refl wr.heap.size wr).alloc (Nat.le_refl _) _).alloc (by simp) _) (Nat.le_refl _)
          have hB2 : Below w.heap.size w ((wr.alloc (.cells #[.int .i64 (z0.tmod (most + 1))] 3)).alloc (.cells #[.slice (some ⟨wr.heap.size, 0, none⟩) 1 1] 22)) := (hB.alloc hNw _).alloc (by simp; omega) _
          subst hbl
          refine ⟨bs.length + 1, bs ++ [wr.heap.size], zss ++ [[z0.tmod (most + 1)]], by go_num, by omega, by simp, ?_, ?_, ?_⟩
          · refine OwnRows.snoc hOb rfl ((Blk.new wr _ _ rfl).alloc _) hNw (fun i hi e => ?_) (fun e => ?_) rfl hown1 hgrow hat
            · have := (HO.out.row i hi).1.lt; omega
            · have := (hown.lt _ e).2; omega
          · intro zs hzs z hz
            rcases List.mem_append.1 hzs with h | h
            · exact HE.out zs h z hz
            · simp at h; subst h
              simp at hz
              subst hz; exact tmod_le _ _ m0
          · exact hB2.grown hgrow (by simp; omega) (fun k hk => (hown.lt k hk).1)
      · go_wp2
        go_ret
        exact ⟨⟨u9, bs, zss, rfl, HO.out, by have := HO.out.len; omega, HE.out⟩, hB⟩
    · have hd : decide ((r : Int) < k) = false := by simpa using hlt
      go_wp2
      go_ret
      exact ⟨⟨u9, bs, zss, rfl, HO.out, by have := HO.out.len; omega, HE.out⟩, hB⟩

set_option maxRecDepth 100000 in
set_option maxHeartbeats 2000000 in
theorem rows2 (k most : Int) (v : Value) (cells : List Int) (w : World) (hv : IntsAt w v cells) (hlen : cells.length ≤ maxLen) (k0 : 0 ≤ k) (k6 : k ≤ 6) (m0 : 0 ≤ most) (m1 : most ≤ 511) :
    Calls Try.prog 11 #[.int .i64 2, .int .i64 k, .int .i64 most, v] w fun e w' => RowsEnd w.heap.size 2 k most w' e ∧ Below w.heap.size w w' := by
  unfold maxLen at hlen
  obtain ⟨i0, hi, hz0, hz1, hz2⟩ := info_parts Try.info22
  have HI : Hid (Try.prog.info? 22 = some i0 ∧ i0.zero = some (.slice none 0 0) ∧ i0.size = 1 ∧ i0.bytes = 24) := ⟨hi, hz0, hz1, hz2⟩
  clear hi hz0 hz1 hz2
  have HV : Hid (IntsAt w v cells) := hv
  obtain ⟨a, cap, rfl⟩ := hv.slice
  clear hv
  go_enter Try.func11, Try.ntmps11
  go_wp2
  go_loopg [9, 10] (k.toNat) (fun m out i wr => ∃ (r : Nat) (bs : List Nat) (zss : List (List Int)), i = .int .i64 r ∧ (r : Int) + m = k ∧ bs.length = r ∧ OwnRows wr w.heap.size out bs zss 2 ∧ (∀ zs ∈ zss, ∀ z ∈ zs, -most ≤ z ∧ z ≤ most) ∧ Below w.heap.size w wr)
  case atStart => exact ⟨0, [], [], rfl, by omega, rfl, OwnRows.nil _ _ _, by simp, Below.refl _ _⟩
  case round =>
    obtain ⟨r, bs, zss, rfl, hr, hbl, hO, hent, hB⟩ := hrel
    have HO : Hid (OwnRows wr w.heap.size u9 bs zss 2) := hO
    have HE : Hid (∀ zs ∈ zss, ∀ z ∈ zs, -most ≤ z ∧ z ≤ most) := hent
    clear hO hent
    by_cases hlt : (r : Int) < k
    · by_cases hfit : 2 * ((r : Int) + 1) ≤ cells.length
      · rcases HV.out with ⟨e0, _⟩ | ⟨_, b, o, cap', e1, hc⟩
        · rw [e0] at hfit; simp at hfit; omega
        injection e1 with e2 e3 e4
        subst e2
        have hcw : ∀ i, i < cells.length → wr.cell? ⟨b, o + i, none⟩ = some (.int .i64 (cells.getD i 0)) := fun i hi => cell_below hB (hc i hi)
        have HC : Hid (∀ i, i < cells.length → wr.cell? ⟨b, o + i, none⟩ = some (.int .i64 (cells.getD i 0))) := hcw
        clear hc hcw e3 e4
        have hmk := make2
        have hlb : b < wr.heap.size := World.block_lt_of_cell? wr _ (HC.out 0 (by omega))
        obtain ⟨z0, e0⟩ : ∃ z, z = cells.getD (2 * r + 0) 0 := ⟨_, rfl⟩
        have c0 : wr.cell? ⟨b, o + 2 * r, none⟩ = some (.int .i64 z0) := by rw [e0]; exact HC.out (2 * r + 0) (by omega)
        clear e0
        obtain ⟨z1, e1⟩ : ∃ z, z = cells.getD (2 * r + 1) 0 := ⟨_, rfl⟩
        have c1 : wr.cell? ⟨b, o + (2 * r + 1), none⟩ = some (.int .i64 z1) := by rw [e1]; exact HC.out (2 * r + 1) (by omega)
        clear e1
        clear HC HV
        have hm1 : most + 1 ≠ 0 := by omega
        go_wp2
        refine wp_loop_rounds 3 ?_
        rw [rounds_succ]; go_wp2
        rw [rounds_succ]; go_wp2
        rw [rounds_succ]
        obtain ⟨hi, hz0, hz1, hz2⟩ := HI.out
        have hown := HO.out.own
        have hbl6 : bs.length ≤ 6 := by omega
        have hNw := hB.size
        go_wp2_with (at_builtin; refine wpList_append_lies _ rfl (.tmp 48) (.tmp 50) 24 rfl w.heap.size 22 i0 (.slice none 0 0) 1 24 Try.underlying24 hi hz0 hz1 hz2 rfl (by decide) _ _ _ rfl ((hown.alloc _).alloc _) ⟨wr.heap.size + 1, 0, none⟩ 1 1 [.slice (some ⟨wr.heap.size, 0, none⟩) 2 2] rfl rfl (World.news_of_block (cs := #[.slice (some ⟨wr.heap.size, 0, none⟩) 2 2]) (t := 22) (fr := (0, 0)) (Blk.new _ _ _ (by simp))) (by intro u hu; simp at hu; subst hu; rfl) (by omega) (by unfold maxLen; omega) (by omega) (by simp; omega) _ rfl ?_; intro g cap1 w1 hown1 hgrow hat hglt)
        go_roundg (gk - 1)
        case measure => omega
        case rel =>
          have hOb : OwnRows ((wr.alloc (.cells #[.int .i64 (z0.tmod (most + 1)), .int .i64 (z1.tmod (most + 1))] 3)).alloc (.cells #[.slice (some ⟨wr.heap.size, 0, none⟩) 2 2] 22)) w.heap.size u9 bs zss 2 :=
            HO.out.below (((Below.refl wr.heap.size wr).alloc (Nat.le_refl _) _).alloc (by simp) _) (Nat.le_refl _)
          have hB2 : Below w.heap.size w ((wr.alloc (.cells #[.int .i64 (z0.tmod (most + 1)), .int .i64 (z1.tmod (most + 1))] 3)).alloc (.cells #[.slice (some ⟨wr.heap.size, 0, none⟩) 2 2] 22)) := (hB.alloc hNw _).alloc (by simp; omega) _
          subst hbl
          refine ⟨bs.length + 1, bs ++ [wr.heap.size], zss ++ [[z0.tmod (most + 1), z1.tmod (most + 1)]], by go_num, by omega, by simp, ?_, ?_, ?_⟩
          · refine OwnRows.snoc hOb rfl ((Blk.new wr _ _ rfl).alloc _) hNw (fun i hi e => ?_) (fun e => ?_) rfl hown1 hgrow hat
            · have := (HO.out.row i hi).1.lt; omega
            · have := (hown.lt _ e).2; omega
          · intro zs hzs z hz
            rcases List.mem_append.1 hzs with h | h
            · exact HE.out zs h z hz
            · simp at h; subst h
              simp at hz
              rcases hz with rfl | rfl <;> exact tmod_le _ _ m0
          · exact hB2.grown hgrow (by simp; omega) (fun k hk => (hown.lt k hk).1)
      · go_wp2
        go_ret
        exact ⟨⟨u9, bs, zss, rfl, HO.out, by have := HO.out.len; omega, HE.out⟩, hB⟩
    · have hd : decide ((r : Int) < k) = false := by simpa using hlt
      go_wp2
      go_ret
      exact ⟨⟨u9, bs, zss, rfl, HO.out, by have := HO.out.len; omega, HE.out⟩, hB⟩

set_option maxRecDepth 100000 in
set_option maxHeartbeats 2000000 in
theorem rows3 (k most : Int) (v : Value) (cells : List Int) (w : World) (hv : IntsAt w v cells) (hlen : cells.length ≤ maxLen) (k0 : 0 ≤ k) (k6 : k ≤ 6) (m0 : 0 ≤ most) (m1 : most ≤ 511) :
    Calls Try.prog 11 #[.int .i64 3, .int .i64 k, .int .i64 most, v] w fun e w' => RowsEnd w.heap.size 3 k most w' e ∧ Below w.heap.size w w' := by
  unfold maxLen at hlen
  obtain ⟨i0, hi, hz0, hz1, hz2⟩ := info_parts Try.info22
  have HI : Hid (Try.prog.info? 22 = some i0 ∧ i0.zero = some (.slice none 0 0) ∧ i0.size = 1 ∧ i0.bytes = 24) := ⟨hi, hz0, hz1, hz2⟩
  clear hi hz0 hz1 hz2
  have HV : Hid (IntsAt w v cells) := hv
  obtain ⟨a, cap, rfl⟩ := hv.slice
  clear hv
  go_enter Try.func11, Try.ntmps11
  go_wp2
  go_loopg [9, 10] (k.toNat) (fun m out i wr => ∃ (r : Nat) (bs : List Nat) (zss : List (List Int)), i = .int .i64 r ∧ (r : Int) + m = k ∧ bs.length = r ∧ OwnRows wr w.heap.size out bs zss 3 ∧ (∀ zs ∈ zss, ∀ z ∈ zs, -most ≤ z ∧ z ≤ most) ∧ Below w.heap.size w wr)
  case atStart => exact ⟨0, [], [], rfl, by omega, rfl, OwnRows.nil _ _ _, by simp, Below.refl _ _⟩
  case round =>
    obtain ⟨r, bs, zss, rfl, hr, hbl, hO, hent, hB⟩ := hrel
    have HO : Hid (OwnRows wr w.heap.size u9 bs zss 3) := hO
    have HE : Hid (∀ zs ∈ zss, ∀ z ∈ zs, -most ≤ z ∧ z ≤ most) := hent
    clear hO hent
    by_cases hlt : (r : Int) < k
    · by_cases hfit : 3 * ((r : Int) + 1) ≤ cells.length
      · rcases HV.out with ⟨e0, _⟩ | ⟨_, b, o, cap', e1, hc⟩
        · rw [e0] at hfit; simp at hfit; omega
        injection e1 with e2 e3 e4
        subst e2
        have hcw : ∀ i, i < cells.length → wr.cell? ⟨b, o + i, none⟩ = some (.int .i64 (cells.getD i 0)) := fun i hi => cell_below hB (hc i hi)
        have HC : Hid (∀ i, i < cells.length → wr.cell? ⟨b, o + i, none⟩ = some (.int .i64 (cells.getD i 0))) := hcw
        clear hc hcw e3 e4
        have hmk := make3
        have hlb : b < wr.heap.size := World.block_lt_of_cell? wr _ (HC.out 0 (by omega))
        obtain ⟨z0, e0⟩ : ∃ z, z = cells.getD (3 * r + 0) 0 := ⟨_, rfl⟩
        have c0 : wr.cell? ⟨b, o + 3 * r, none⟩ = some (.int .i64 z0) := by rw [e0]; exact HC.out (3 * r + 0) (by omega)
        clear e0
        obtain ⟨z1, e1⟩ : ∃ z, z = cells.getD (3 * r + 1) 0 := ⟨_, rfl⟩
        have c1 : wr.cell? ⟨b, o + (3 * r + 1), none⟩ = some (.int .i64 z1) := by rw [e1]; exact HC.out (3 * r + 1) (by omega)
        clear e1
        obtain ⟨z2, e2⟩ : ∃ z, z = cells.getD (3 * r + 2) 0 := ⟨_, rfl⟩
        have c2 : wr.cell? ⟨b, o + (3 * r + 2), none⟩ = some (.int .i64 z2) := by rw [e2]; exact HC.out (3 * r + 2) (by omega)
        clear e2
        clear HC HV
        have hm1 : most + 1 ≠ 0 := by omega
        go_wp2
        refine wp_loop_rounds 4 ?_
        rw [rounds_succ]; go_wp2
        rw [rounds_succ]; go_wp2
        rw [rounds_succ]; go_wp2
        rw [rounds_succ]
        obtain ⟨hi, hz0, hz1, hz2⟩ := HI.out
        have hown := HO.out.own
        have hbl6 : bs.length ≤ 6 := by omega
        have hNw := hB.size
        go_wp2_with (at_builtin; refine wpList_append_lies _ rfl (.tmp 48) (.tmp 50) 24 rfl w.heap.size 22 i0 (.slice none 0 0) 1 24 Try.underlying24 hi hz0 hz1 hz2 rfl (by decide) _ _ _ rfl ((hown.alloc _).alloc _) ⟨wr.heap.size + 1, 0, none⟩ 1 1 [.slice (some ⟨wr.heap.size, 0, none⟩) 3 3] rfl rfl (World.news_of_block (cs := #[.slice (some ⟨wr.heap.size, 0, none⟩) 3 3]) (t := 22) (fr := (0, 0)) (Blk.new _ _ _ (by simp))) (by intro u hu; simp at hu; subst hu; rfl) (by omega) (by unfold maxLen; omega) (by omega) (by simp; omega) _ rfl ?_; intro g cap1 w1 hown1 hgrow hat hglt)
        go_roundg (gk - 1)
        case measure => omega
        case rel =>
          have hOb : OwnRows ((wr.alloc (.cells #[.int .i64 (z0.tmod (most + 1)), .int .i64 (z1.tmod (most + 1)), .int .i64 (z2.tmod (most + 1))] 3)).alloc (.cells #[.slice (some ⟨wr.heap.size, 0, none⟩) 3 3] 22)) w.heap.size u9 bs zss 3 :=
            HO.out.below (((Below.refl wr.heap.size wr).alloc (Nat.le_refl _) _).alloc (by simp) _) (Nat.le_refl _)
          have hB2 : Below w.heap.size w ((wr.alloc (.cells #[.int .i64 (z0.tmod (most + 1)), .int .i64 (z1.tmod (most + 1)), .int .i64 (z2.tmod (most + 1))] 3)).alloc (.cells #[.slice (some ⟨wr.heap.size, 0, none⟩) 3 3] 22)) := (hB.alloc hNw _).alloc (by simp; omega) _
          subst hbl
          refine ⟨bs.length + 1, bs ++ [wr.heap.size], zss ++ [[z0.tmod (most + 1), z1.tmod (most + 1), z2.tmod (most + 1)]], by go_num, by omega, by simp, ?_, ?_, ?_⟩
          · refine OwnRows.snoc hOb rfl ((Blk.new wr _ _ rfl).alloc _) hNw (fun i hi e => ?_) (fun e => ?_) rfl hown1 hgrow hat
            · have := (HO.out.row i hi).1.lt; omega
            · have := (hown.lt _ e).2; omega
          · intro zs hzs z hz
            rcases List.mem_append.1 hzs with h | h
            · exact HE.out zs h z hz
            · simp at h; subst h
              simp at hz
              rcases hz with rfl | rfl | rfl <;> exact tmod_le _ _ m0
          · exact hB2.grown hgrow (by simp; omega) (fun k hk => (hown.lt k hk).1)
      · go_wp2
        go_ret
        exact ⟨⟨u9, bs, zss, rfl, HO.out, by have := HO.out.len; omega, HE.out⟩, hB⟩
    · have hd : decide ((r : Int) < k) = false := by simpa using hlt
      go_wp2
      go_ret
      exact ⟨⟨u9, bs, zss, rfl, HO.out, by have := HO.out.len; omega, HE.out⟩, hB⟩

end Go.Proofs.Ytmlcblnndihjoab

namespace Go.Proofs.Ytmlcblnndihjoab
open Go.RowKit

def inB (most : Int) (z : Int) : Bool := decide (-most ≤ z) && decide (z ≤ most)
def withinB (most : Int) (zss : List (List Int)) : Bool := zss.all (fun zs => zs.all (inB most))

theorem pick_any (c n : Int) (w : World) (h0 : -9223372036854775808 ≤ c) (h1 : c ≤ 9223372036854775807) (n1 : 1 ≤ n) (n2 : n ≤ 1000) :
    Calls Try.prog 10 #[.int .i64 c, .int .i64 n] w fun e w' => (∃ r : Int, e = .returned (.int .i64 r) ∧ 0 ≤ r ∧ r < n) ∧ w' = w := by
  by_cases hc : c < 0
  · go_enter Try.func10, Try.ntmps10
    go_wp2
    go_ret
    refine ⟨⟨_, rfl, ?_⟩, rfl⟩
    have : 0 ≤ (-(c + 1)).tmod n := Int.tmod_nonneg _ (by omega)
    have h2 : (-(c + 1)).tmod n < n := Int.tmod_lt_of_pos _ (by omega)
    rw [← Int.neg_tmod]; exact ⟨this, h2⟩
  · go_enter Try.func10, Try.ntmps10
    go_wp2
    go_ret
    exact ⟨⟨_, rfl, Int.emod_nonneg _ (by omega), Int.emod_lt_of_pos _ (by omega)⟩, rfl⟩

set_option maxHeartbeats 1000000 in
theorem within_any (most : Int) (v : Value) (zss : List (List Int)) (w : World) (hv : RowsAt w v zss) (m0 : 0 ≤ most) (m1 : most ≤ 511) (hl : zss.length ≤ 6) (hz : ∀ zs ∈ zss, zs.length ≤ 3) :
    Calls Try.prog 39 #[v, .int .i64 most] w fun e w' => e = .returned (.bool (withinB most zss)) ∧ w' = w := by
  rcases hv with ⟨rfl, a, cap, rfl⟩ | ⟨h0, b, o, cap, rfl, hc⟩
  · go_enter Try.func39, Try.ntmps39
    go_wp2
    refine wp_loop_rounds 1 ?_
    rw [rounds_succ]
    go_wp2
    go_ret
    exact ⟨ret_bool (a := true) rfl, rfl⟩
  · have HC : Hid (∀ i, i < zss.length → ∃ x, w.cell? ⟨b, o + i, none⟩ = some x ∧ IntsAt w x (zss.getD i [])) := hc
    have HZ : Hid (∀ zs ∈ zss, zs.length ≤ 3) := hz
    clear hc hz
    go_enter Try.func39, Try.ntmps39
    go_wp2
    go_loop [5] (fun i => ∃ k : Nat, k ≤ zss.length ∧ i = .int .i64 k ∧ (zss.take k).all (fun zs => zs.all (inB most)) = true) (fun i => zss.length - (intOf i).toNat)
    case atStart => exact ⟨0, by omega, rfl, by simp⟩
    case round =>
      obtain ⟨k, hk, rfl, hall⟩ := hrel
      have HA : Hid ((zss.take k).all (fun zs => zs.all (inB most)) = true) := hall
      clear hall
      by_cases hlt : k < zss.length
      · obtain ⟨x, hcell, hx⟩ := HC.out k hlt
        have hz3 := HZ.out _ (getD_memR hlt)
        obtain ⟨zs, hzs⟩ : ∃ zs, zs = zss.getD k [] := ⟨_, rfl⟩
        rw [← hzs] at hx hz3
        have HS : Hid (zs = zss.getD k []) := hzs
        have HX : Hid (IntsAt w x zs) := hx
        obtain ⟨a1, cap1, rfl⟩ := hx.slice
        clear hx hzs
        go_wp2
        go_loop [6] (fun i => ∃ j : Nat, j ≤ zs.length ∧ i = .int .i64 j ∧ (zs.take j).all (inB most) = true) (fun i => zs.length - (intOf i).toNat)
        case atStart => exact ⟨0, by omega, rfl, by simp⟩
        case round =>
          obtain ⟨j, hj, rfl, hall⟩ := hrel
          have HJ : Hid ((zs.take j).all (inB most) = true) := hall
          clear hall
          by_cases hjl : j < zs.length
          · rcases HX.out with ⟨e0, _⟩ | ⟨_, b1, o1, cap1', e1, hc1⟩
            · rw [e0] at hjl; simp at hjl
            injection e1 with e2 e3 e4
            subst e2
            have hcj := hc1 j hjl
            obtain ⟨z, hz⟩ : ∃ z, z = zs.getD j 0 := ⟨_, rfl⟩
            rw [← hz] at hcj
            have HZ2 : Hid (z = zs.getD j 0) := hz
            clear hz hc1 e3 e4
            by_cases hg : z < -most
            · go_wp2
              go_ret
              refine ⟨ret_bool (a := false) ?_, rfl⟩
              unfold withinB
              rw [all_falseR hlt (by rw [← HS.out]; exact all_false hjl (by rw [← HZ2.out]; simp [inB]; omega))]
            · by_cases hg2 : most < z
              · go_wp2
                go_ret
                refine ⟨ret_bool (a := false) ?_, rfl⟩
                unfold withinB
                rw [all_falseR hlt (by rw [← HS.out]; exact all_false hjl (by rw [← HZ2.out]; simp [inB]; omega))]
              · have HE : Hid (inB most z = true) := by show inB most z = true; simp [inB]; omega
                go_wp2
                go_round
                case rel => exact ⟨j + 1, by omega, by go_num, by rw [all_take hjl, HJ.out, ← HZ2.out, HE.out]; rfl⟩
                case measure => simp [intOf]; omega
          · go_wp2
            go_round
            case rel =>
              have : j = zs.length := by omega
              have hj2 := HJ.out
              rw [this, List.take_length] at hj2
              exact ⟨k + 1, by omega, by go_num, by rw [all_takeR hlt, HA.out, ← HS.out, hj2]; rfl⟩
            case measure => simp [intOf]; omega
      · go_wp2
        go_ret
        have : k = zss.length := by omega
        subst this
        refine ⟨ret_bool (a := true) ?_, rfl⟩
        have := HA.out; rw [List.take_length] at this
        exact this.symm

def refB (zss : List (List Int)) (e : Int) : Bool := decide (e = 3) && !(withinB 4 zss)

theorem refused_any (v : Value) (zss : List (List Int)) (e : Int) (w : World) (hv : RowsAt w v zss) (hl : zss.length ≤ 6) (hz : ∀ zs ∈ zss, zs.length ≤ 3) :
    Calls Try.prog 14 #[v, .int .i64 e] w fun x w' => x = .returned (.bool (refB zss e)) ∧ w' = w := by
  have HW : Hid (∀ w0, w0 = w → Calls Try.prog 39 #[v, .int .i64 4] w0 fun e w' => e = .returned (.bool (withinB 4 zss)) ∧ w' = w0) := fun w0 h => by
    rw [h]; exact within_any 4 v zss w hv (by omega) (by omega) hl hz
  obtain ⟨a, cap, rfl⟩ := hv.slice
  clear hv
  have hnot : ∀ (x : Bool) (w : World), (Op.unary .not (.bool x)).run Try.prog w = .ok (.bool (!x)) w := fun _ _ => rfl
  by_cases he : e = 3
  · subst he
    have HR : Hid (refB zss 3 = !(withinB 4 zss)) := by show refB zss 3 = !(withinB 4 zss); simp [refB]
    go_enter Try.func14, Try.ntmps14
    go_wp2_with (go_at_call 39; refine (HW.out _ rfl).mono ?_; rintro e w' ⟨rfl, hq'⟩; replace hq' := hq'.symm; subst hq')
    go_ret
    exact ⟨ret_bool HR.out.symm, rfl⟩
  · have he' : (e == 3) = false := by simpa using he
    have HR : Hid (refB zss e = false) := by show refB zss e = false; simp [refB, he]
    go_enter Try.func14, Try.ntmps14
    go_wp2_with (go_at_call 39; refine (HW.out _ rfl).mono ?_; rintro e w' ⟨rfl, hq'⟩; replace hq' := hq'.symm; subst hq')
    go_ret
    exact ⟨ret_bool HR.out.symm, rfl⟩

end Go.Proofs.Ytmlcblnndihjoab

namespace Go.Proofs.Ytmlcblnndihjoab
open Go.RowKit

/-! the index is the determinant's size -/
namespace Lat

theorem natAbs_eq_of {a b s t : Int} (h1 : a = s * b) (h2 : b = t * a) : a = b ∨ a = -b := by
  have d1 : b ∣ a := ⟨s, by rw [h1]; exact Int.mul_comm _ _⟩
  have d2 : a ∣ b := ⟨t, by rw [h2]; exact Int.mul_comm _ _⟩
  have n1 := Int.natAbs_dvd_natAbs.2 d1
  have n2 := Int.natAbs_dvd_natAbs.2 d2
  have := Nat.dvd_antisymm n1 n2
  omega

theorem span3 {f g k u : V} (h : InSpan [f, g, k] u) : ∃ i j l : Int, u.x = i * f.x + j * g.x + l * k.x ∧ u.y = i * f.y + j * g.y + l * k.y ∧ u.z = i * f.z + j * g.z + l * k.z := by
  obtain ⟨i, u1, ⟨j, u2, ⟨l, u3, ⟨z1, z2, z3⟩, l1, l2, l3⟩, j1, j2, j3⟩, i1, i2, i3⟩ := h
  exact ⟨i, j, l, by omega, by omega, by omega⟩

theorem span2 {f g u : V} (h : InSpan [f, g] u) : ∃ i j : Int, u.x = i * f.x + j * g.x ∧ u.y = i * f.y + j * g.y := by
  obtain ⟨i, u1, ⟨j, u2, ⟨z1, z2, z3⟩, j1, j2, j3⟩, i1, i2, i3⟩ := h
  exact ⟨i, j, by omega, by omega⟩

theorem span1 {f u : V} (h : InSpan [f] u) : ∃ i : Int, u.x = i * f.x := by
  obtain ⟨i, u1, ⟨z1, z2, z3⟩, i1, i2, i3⟩ := h
  exact ⟨i, by omega⟩

theorem vol3 {T : St} {f g k : V} (h : CanonOf T [k, g, f]) : T.a.x * T.b.y * T.c.z = det f g k ∨ T.a.x * T.b.y * T.c.z = -det f g k := by
  have bx := h.shape.bx; have cx := h.shape.cx; have cy := h.shape.cy
  obtain ⟨i1, j1, l1, p1, p2, p3⟩ := span3 ((h.span _).1 (Mem.ra T))
  obtain ⟨i2, j2, l2, q1, q2, q3⟩ := span3 ((h.span _).1 (Mem.rb T))
  obtain ⟨i3, j3, l3, r1, r2, r3⟩ := span3 ((h.span _).1 (Mem.rc T))
  obtain ⟨a1, b1, c1, f1, f2, f3⟩ := (h.span f).2 (InSpan.of_mem (by simp))
  obtain ⟨a2, b2, c2, g1, g2, g3⟩ := (h.span g).2 (InSpan.of_mem (by simp))
  obtain ⟨a3, b3, c3, k1, k2, k3⟩ := (h.span k).2 (InSpan.of_mem (by simp))
  have hd : det T.a T.b T.c = T.a.x * T.b.y * T.c.z := by unfold det; rw [bx, cx, cy]; grind
  have e1 : det T.a T.b T.c = (-det ⟨i1, j1, l1⟩ ⟨i2, j2, l2⟩ ⟨i3, j3, l3⟩) * det f g k := by
    unfold det; rw [p1, p2, p3, q1, q2, q3, r1, r2, r3]; grind
  have e2 : det f g k = det ⟨a1, b1, c1⟩ ⟨a2, b2, c2⟩ ⟨a3, b3, c3⟩ * det T.a T.b T.c := by
    unfold det; rw [f1, f2, f3, g1, g2, g3, k1, k2, k3]; grind
  rw [← hd]
  exact natAbs_eq_of e1 e2

theorem vol2 {T : St} {f g : V} (h : CanonOf T [g, f]) : T.a.x * T.b.y = mxy f g ∨ T.a.x * T.b.y = -mxy f g := by
  have bx := h.shape.bx; have cx := h.shape.cx; have cy := h.shape.cy
  obtain ⟨i1, j1, p1, p2⟩ := span2 ((h.span _).1 (Mem.ra T))
  obtain ⟨i2, j2, q1, q2⟩ := span2 ((h.span _).1 (Mem.rb T))
  obtain ⟨a1, b1, c1, f1, f2, f3⟩ := (h.span f).2 (InSpan.of_mem (by simp))
  obtain ⟨a2, b2, c2, g1, g2, g3⟩ := (h.span g).2 (InSpan.of_mem (by simp))
  have hd : mxy T.a T.b = T.a.x * T.b.y := by unfold mxy; rw [bx]; simp
  have e1 : mxy T.a T.b = (-(i1 * j2 - j1 * i2)) * mxy f g := by
    unfold mxy; rw [p1, p2, q1, q2]; grind
  have e2 : mxy f g = (a1 * b2 - b1 * a2) * mxy T.a T.b := by
    unfold mxy; rw [f1, f2, g1, g2, cx, cy]; grind
  rw [← hd]
  exact natAbs_eq_of e1 e2

theorem vol1 {T : St} {f : V} (h : CanonOf T [f]) : T.a.x = f.x ∨ T.a.x = -f.x := by
  have bx := h.shape.bx; have cx := h.shape.cx
  obtain ⟨i1, p1⟩ := span1 ((h.span _).1 (Mem.ra T))
  obtain ⟨a1, b1, c1, f1, f2, f3⟩ := (h.span f).2 (InSpan.of_mem (by simp))
  rw [bx, cx] at f1
  exact natAbs_eq_of (s := i1) (t := a1) p1 (by omega)

/-- With entries of at most 4 it always fits. -/
theorem light_fits {T : St} {G : List V} (h : CanonOf T G) (hG : ∀ g ∈ G, Le 4 g) : Le 511 T.a ∧ Le 511 T.b ∧ Le 511 T.c := by
  obtain ⟨p, q, r⟩ := h.bound (M := 4) (by omega) hG
  exact ⟨p.mono (by omega), q.mono (by omega), r.mono (by omega)⟩

end Lat

theorem wrap_in {x : Int} (h1 : -9223372036854775808 ≤ x) (h2 : x ≤ 9223372036854775807) : IntKind.i64.wrap x = x := by
  rw [IntKind.wrap_i64]; omega

end Go.Proofs.Ytmlcblnndihjoab

namespace Go.Proofs.Ytmlcblnndihjoab
open Go.RowKit

theorem OwnRows.out {w : World} {B : Nat} {v : Value} {bs : List Nat} {zss : List (List Int)} {n : Nat} (h : OwnRows w B v bs zss n) : ∃ a cap, v = .slice a bs.length cap := by
  rcases h.own.2 with ⟨h1, h2⟩ | ⟨g, cap, cur, h1, _⟩
  · exact ⟨none, 0, by rw [h1, h2]⟩
  · exact ⟨_, cap, h1⟩

theorem OwnRows.cell {w : World} {B : Nat} {v : Value} {bs : List Nat} {zss : List (List Int)} {n : Nat} (h : OwnRows w B v bs zss n) (h0 : 0 < bs.length) :
    ∃ g cap, v = .slice (some ⟨g, 0, none⟩) bs.length cap ∧ B ≤ g ∧ ∀ i, i < bs.length → w.cell? ⟨g, i, none⟩ = some (.slice (some ⟨bs.getD i 0, 0, none⟩) n n) := by
  rcases h.own.2 with ⟨h1, h2⟩ | ⟨g, cap, cur, h1, h2, h3, h4, h5, h6, h7⟩
  · omega
  · refine ⟨g, cap, h1, h2, fun i hi => ?_⟩
    have e : cur.toList[i]? = some (Value.slice (some ⟨bs.getD i 0, 0, none⟩) n n) := by
      have := congrArg (fun l => l[i]?) h7
      simp only [List.getElem?_take] at this
      rw [if_pos (by omega)] at this
      rw [this, List.getElem?_map, List.getElem?_eq_getElem hi]
      simp [List.getD_eq_getElem?_getD, List.getElem?_eq_getElem hi]
    rw [← e]
    simp [World.cell?, h3]

theorem OwnRows.entry {w : World} {B : Nat} {v : Value} {bs : List Nat} {zss : List (List Int)} {n : Nat} (h : OwnRows w B v bs zss n) {i j : Nat} (hi : i < bs.length) (hj : j < n) :
    w.cell? ⟨bs.getD i 0, j, none⟩ = some (.int .i64 ((zss.getD i []).getD j 0)) := by
  obtain ⟨r1, r2, _⟩ := h.row i hi
  rw [r1.cell j]
  have hj' : j < (zss.getD i []).length := by omega
  rw [List.getElem?_toArray, List.getElem?_map, List.getElem?_eq_getElem hj', List.getD_eq_getElem?_getD (l := zss.getD i []), List.getElem?_eq_getElem hj']
  rfl

theorem OwnRows.rowsAt {w : World} {B : Nat} {v : Value} {bs : List Nat} {zss : List (List Int)} {n : Nat} (h : OwnRows w B v bs zss n) (hn : 0 < n) : RowsAt w v zss := by
  have hl := h.len
  by_cases h0 : 0 < bs.length
  · obtain ⟨g, cap, rfl, _, hc⟩ := h.cell h0
    refine Or.inr ⟨by omega, g, 0, cap, by rw [hl], fun i hi => ⟨_, by rw [Nat.zero_add]; exact hc i (by omega), ?_⟩⟩
    have hr := h.row i (by omega)
    refine Or.inr ⟨by omega, _, 0, n, by rw [hr.2.1], fun j hj => ?_⟩
    rw [Nat.zero_add]
    exact h.entry (by omega) (by omega)
  · obtain ⟨a, cap, hv⟩ := h.out
    have e : bs.length = 0 := by omega
    rw [e] at hv
    exact Or.inl ⟨List.length_eq_zero_iff.1 (by omega), a, cap, hv⟩

/-- rows of the width, no entry beyond 511: nothing to refuse ahead of the basis -/
theorem OwnRows.given {w : World} {B : Nat} {v : Value} {bs : List Nat} {zss : List (List Int)} {n : Nat} (h : OwnRows w B v bs zss n) (h1 : 1 ≤ n) (h3 : n ≤ 3) (h6 : zss.length ≤ 6)
    (hz : ∀ zs ∈ zss, ∀ z ∈ zs, -511 ≤ z ∧ z ≤ 511) : givenE (n : Int) zss = 0 := by
  have hg : givenB (n : Int) zss = true := by
    unfold givenB
    rw [decide_eq_true h6, Bool.true_and, List.all_eq_true]
    intro zs hm
    obtain ⟨i, hi, rfl⟩ := List.getElem_of_mem hm
    have hr := h.row i (by have := h.len; omega)
    have e : zss.getD i [] = zss[i] := by simp [List.getD_eq_getElem?_getD, List.getElem?_eq_getElem hi]
    rw [e] at hr
    unfold goodB
    rw [hr.2.1, decide_eq_true rfl, Bool.true_and, List.all_eq_true]
    intro z hzm
    have := hz _ hm z hzm
    simp; omega
  unfold givenE
  rw [hg, if_pos (by simp; omega)]; rfl

theorem OwnRows.len3 {w : World} {B : Nat} {v : Value} {bs : List Nat} {zss : List (List Int)} {n : Nat} (h : OwnRows w B v bs zss n) (h3 : n ≤ 3) : ∀ zs ∈ zss, zs.length ≤ 3 := by
  intro zs hm
  obtain ⟨i, hi, rfl⟩ := List.getElem_of_mem hm
  have hr := h.row i (by have := h.len; omega)
  have e : zss.getD i [] = zss[i] := by simp [List.getD_eq_getElem?_getD, List.getElem?_eq_getElem hi]
  rw [e] at hr
  omega

theorem within_le {most : Int} {zss : List (List Int)} (h : withinB most zss = true) (m0 : 0 ≤ most) : ∀ g ∈ vecs zss, Lat.Le most g := by
  intro g hg
  simp only [vecs, List.mem_reverse, List.mem_map] at hg
  obtain ⟨zs, hz, rfl⟩ := hg
  unfold withinB at h
  rw [List.all_eq_true] at h
  have h2 := h zs hz
  have e : ∀ k, -most ≤ zs.getD k 0 ∧ zs.getD k 0 ≤ most := fun k => by
    have := getD_mem (k := k) h2 (by simp [inB]; omega)
    simp [inB] at this; simpa using this
  exact ⟨e 0, e 1, e 2⟩

/-- what is refused for its size is not light -/
theorem gen_refused {n : Int} {zss : List (List Int)} {T : Lat.St} {c : Int} (h : Gen n zss T c) (hg : givenE n zss = 0) (hc : c ≠ 0) : refB zss c = true := by
  rcases h with ⟨h1, _⟩ | ⟨_, T', hT, ⟨h3, hf⟩ | ⟨h0, _⟩⟩
  · rw [hg] at h1; exact absurd h1 hc
  · cases hw : withinB 4 zss
    · simp [refB, h3, hw]
    · exact absurd (Lat.light_fits hT (within_le hw (by omega))) hf
  · exact absurd h0 hc

/-- without an error there is the canonical basis, and it fits -/
theorem gen_ok {n : Int} {zss : List (List Int)} {T : Lat.St} (h : Gen n zss T 0) : Lat.CanonOf T (vecs zss) ∧ FitsS T := by
  rcases h with ⟨_, h1⟩ | ⟨_, T', hT, ⟨h3, _⟩ | ⟨_, rfl, hf⟩⟩
  · exact absurd rfl h1
  · omega
  · exact ⟨hT, hf⟩


/-- 1 rows of width 1: their index is their determinant's size -/
theorem vol_of1 {zss : List (List Int)} {T : Lat.St} (hl : zss.length = 1) (h : Lat.CanonOf T (vecs zss)) : vecs zss = [vecOf (zss.getD 0 [])] ∧ (idxOf 1 T = (vecOf (zss.getD 0 [])).x ∨ idxOf 1 T = -((vecOf (zss.getD 0 [])).x)) := by
  have e : vecs zss = [vecOf (zss.getD 0 [])] := by
    rcases zss with _ | ⟨z0, _ | ⟨z1, _ | ⟨z2, _ | ⟨z3, zs⟩⟩⟩⟩ <;> simp [vecs] at hl ⊢
  refine ⟨e, ?_⟩
  rw [e] at h
  exact Lat.vol1 h

/-- 2 rows of width 2: their index is their determinant's size -/
theorem vol_of2 {zss : List (List Int)} {T : Lat.St} (hl : zss.length = 2) (h : Lat.CanonOf T (vecs zss)) : vecs zss = [vecOf (zss.getD 1 []), vecOf (zss.getD 0 [])] ∧ (idxOf 2 T = Lat.mxy (vecOf (zss.getD 0 [])) (vecOf (zss.getD 1 [])) ∨ idxOf 2 T = -(Lat.mxy (vecOf (zss.getD 0 [])) (vecOf (zss.getD 1 [])))) := by
  have e : vecs zss = [vecOf (zss.getD 1 []), vecOf (zss.getD 0 [])] := by
    rcases zss with _ | ⟨z0, _ | ⟨z1, _ | ⟨z2, _ | ⟨z3, zs⟩⟩⟩⟩ <;> simp [vecs] at hl ⊢
  refine ⟨e, ?_⟩
  rw [e] at h
  exact Lat.vol2 h

/-- 3 rows of width 3: their index is their determinant's size -/
theorem vol_of3 {zss : List (List Int)} {T : Lat.St} (hl : zss.length = 3) (h : Lat.CanonOf T (vecs zss)) : vecs zss = [vecOf (zss.getD 2 []), vecOf (zss.getD 1 []), vecOf (zss.getD 0 [])] ∧ (idxOf 3 T = Lat.det (vecOf (zss.getD 0 [])) (vecOf (zss.getD 1 [])) (vecOf (zss.getD 2 [])) ∨ idxOf 3 T = -(Lat.det (vecOf (zss.getD 0 [])) (vecOf (zss.getD 1 [])) (vecOf (zss.getD 2 [])))) := by
  have e : vecs zss = [vecOf (zss.getD 2 []), vecOf (zss.getD 1 []), vecOf (zss.getD 0 [])] := by
    rcases zss with _ | ⟨z0, _ | ⟨z1, _ | ⟨z2, _ | ⟨z3, zs⟩⟩⟩⟩ <;> simp [vecs] at hl ⊢
  refine ⟨e, ?_⟩
  rw [e] at h
  exact Lat.vol3 h

end Go.Proofs.Ytmlcblnndihjoab
