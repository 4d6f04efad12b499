import Derived.Test.YtmlcblnndihjoaaCallE
import Derived.Deep.AppendLies
import Derived.Deep.OwnRows
namespace Go.Proofs.Ytmlcblnndihjoaa
open Go.RowKit

/-- a list of rows that the call itself made: each in a block of its own -/
structure OwnRows (w : World) (B : Nat) (v : Value) (bs : List Nat) (zss : List (List Int)) (n : Nat) : Prop where
  own : w.ownsRow B 22 1 v bs.length (bs.map fun b => Value.slice (some ⟨b, 0, none⟩) n n)
  len : zss.length = bs.length
  row : ∀ i, i < bs.length → Blk w (bs.getD i 0) ((zss.getD i []).map (Value.int .i64)).toArray 3 ∧ (zss.getD i []).length = n ∧ B ≤ bs.getD i 0 ∧ v.ownBlock ≠ some (bs.getD i 0)
  apart : bs.Nodup

theorem Try.info22 : (Try.prog.info? 22).map (fun i => (i.zero, i.size, i.bytes)) = some (some (.slice none 0 0), 1, 24) := by kernel_rfl
theorem Try.info3 : (Try.prog.info? 3).map (fun i => (i.zero, i.size, i.bytes)) = some (some (.int .i64 0), 1, 8) := by kernel_rfl

theorem make1 (w : World) : (Instr.makeSlice 22 (.int .i64 1) (.int .i64 1)).run Try.prog w = .ok (.slice (some ⟨w.heap.size, 0, none⟩) 1 1) (w.alloc (.cells #[.int .i64 0] 3)) := by
  have h := run_make_row' (P := Try.prog) 22 3 (.int .i64 0) 8 Try.underlying22 Try.info3 rfl .i64 .i64 1 (by omega) (by omega) w
  have e : madeCells #[Value.int .i64 0] 1 = #[.int .i64 0] := by kernel_rfl
  rw [e] at h; exact h
theorem make2 (w : World) : (Instr.makeSlice 22 (.int .i64 2) (.int .i64 2)).run Try.prog w = .ok (.slice (some ⟨w.heap.size, 0, none⟩) 2 2) (w.alloc (.cells #[.int .i64 0, .int .i64 0] 3)) := by
  have h := run_make_row' (P := Try.prog) 22 3 (.int .i64 0) 8 Try.underlying22 Try.info3 rfl .i64 .i64 2 (by omega) (by omega) w
  have e : madeCells #[Value.int .i64 0] 2 = #[.int .i64 0, .int .i64 0] := by kernel_rfl
  rw [e] at h; exact h
theorem make3 (w : World) : (Instr.makeSlice 22 (.int .i64 3) (.int .i64 3)).run Try.prog w = .ok (.slice (some ⟨w.heap.size, 0, none⟩) 3 3) (w.alloc (.cells #[.int .i64 0, .int .i64 0, .int .i64 0] 3)) := by
  have h := run_make_row' (P := Try.prog) 22 3 (.int .i64 0) 8 Try.underlying22 Try.info3 rfl .i64 .i64 3 (by omega) (by omega) w
  have e : madeCells #[Value.int .i64 0] 3 = #[.int .i64 0, .int .i64 0, .int .i64 0] := by kernel_rfl
  rw [e] at h; exact h

theorem tmod_le (z most : Int) (h : 0 ≤ most) : -most ≤ z.tmod (most + 1) ∧ z.tmod (most + 1) ≤ most := by
  have h7 : (z.tmod (most + 1)).natAbs < (most + 1).natAbs := by rw [Int.natAbs_tmod]; exact Nat.mod_lt _ (by omega)
  omega

def RowsEnd (B n : Nat) (k most : Int) (w' : World) (e : Ending) : Prop :=
  ∃ out bs zss, e = .returned out ∧ OwnRows w' B out bs zss n ∧ (zss.length : Int) ≤ k ∧ (∀ zs ∈ zss, ∀ z ∈ zs, -most ≤ z ∧ z ≤ most)

theorem OwnRows.nil (w : World) (B n : Nat) : OwnRows w B (.slice none 0 0) [] [] n :=
  ⟨World.ownsRow_nil _ _ _ _, rfl, fun i hi => by simp at hi, List.nodup_nil⟩

/-- one row more -/
theorem OwnRows.snoc {w w1 : World} {B : Nat} {v v1 : Value} {bs : List Nat} {zss : List (List Int)} {n p g cap : Nat} {zs : List Int}
    (h : OwnRows w B v bs zss n) (hz : zs.length = n) (hp : Blk w p (zs.map (Value.int .i64)).toArray 3) (hB : B ≤ p) (hnew : ∀ i, i < bs.length → bs.getD i 0 ≠ p) (hvp : v.ownBlock ≠ some p)
    (hv1 : v1 = .slice (some ⟨g, 0, none⟩) (bs.length + 1) cap)
    (ho : w1.ownsRow B 22 1 v1 (bs.length + 1) ((bs.map fun b => Value.slice (some ⟨b, 0, none⟩) n n) ++ [Value.slice (some ⟨p, 0, none⟩) n n]))
    (hg : w.grownBy w1 v.ownBlock) (hat : v.ownBlock = some g ∨ g = w.heap.size) : OwnRows w1 B v1 (bs ++ [p]) (zss ++ [zs]) n := by
  have hl := h.len
  have hob : v1.ownBlock = some g := by rw [hv1]; rfl
  have keep : ∀ (b : Nat) (cs : Array Value) (T : TypeId), Blk w b cs T → v.ownBlock ≠ some b → Blk w1 b cs T := fun b cs T hb hne => by
    unfold Blk; rw [hg.block b hb.lt (fun e => hne e.symm)]; exact hb
  have far : ∀ (b : Nat) (cs : Array Value) (T : TypeId), Blk w b cs T → v.ownBlock ≠ some b → v1.ownBlock ≠ some b := fun b cs T hb hne => by
    rw [hob]
    intro e
    injection e with e
    rcases hat with e2 | e2
    · rw [e] at e2; exact hne e2
    · have := hb.lt; omega
  refine ⟨?_, ?_, ?_, ?_⟩
  · rw [List.map_append, List.length_append]; exact ho
  · simp [hl]
  · intro i hi
    rw [List.length_append] at hi
    simp at hi
    by_cases hlt : i < bs.length
    · have e1 : (bs ++ [p]).getD i 0 = bs.getD i 0 := by simp [List.getD_eq_getElem?_getD, List.getElem?_append_left hlt]
      have e2 : (zss ++ [zs]).getD i [] = zss.getD i [] := by simp [List.getD_eq_getElem?_getD, List.getElem?_append_left (show i < zss.length by omega)]
      rw [e1, e2]
      obtain ⟨r1, r2, r3, r4⟩ := h.row i hlt
      exact ⟨keep _ _ _ r1 r4, r2, r3, far _ _ _ r1 r4⟩
    · have ei : i = bs.length := by omega
      have e1 : (bs ++ [p]).getD i 0 = p := by subst ei; simp [List.getD_eq_getElem?_getD]
      have e2 : (zss ++ [zs]).getD i [] = zs := by subst ei; rw [← hl]; simp [List.getD_eq_getElem?_getD]
      rw [e1, e2]
      exact ⟨keep _ _ _ hp hvp, hz, hB, far _ _ _ hp hvp⟩
  · rw [List.nodup_append]
    refine ⟨h.apart, by simp, fun a ha b hb => ?_⟩
    simp at hb
    subst hb
    obtain ⟨i, hi, rfl⟩ := List.getElem_of_mem ha
    have := hnew i hi
    rwa [List.getD_eq_getElem?_getD, List.getElem?_eq_getElem hi] at this

theorem OwnRows.below {w w' : World} {B C : Nat} {v : Value} {bs : List Nat} {zss : List (List Int)} {n : Nat} (h : OwnRows w B v bs zss n) (hb : Below C w w') (hC : w.heap.size ≤ C) : OwnRows w' B v bs zss n := by
  refine ⟨?_, h.len, fun i hi => ?_, h.apart⟩
  · refine h.own.kept (w' := w') (row := none) ⟨hb.os, hb.tape, hb.output, hb.size, fun k hk _ => hb.block k (by omega)⟩ ?_
    by_cases e : v.ownBlock = none
    · exact Or.inl e
    · exact Or.inr e
  · obtain ⟨r1, r2⟩ := h.row i hi
    exact ⟨r1.below hb (by have := r1.lt; omega), r2⟩


set_option maxRecDepth 100000 in
set_option maxHeartbeats 2000000 in
theorem rows1 (k most : Int) (v : Value) (cells : List Int) (w : World) (hv : IntsAt w v cells) (hlen : cells.length ≤ maxLen) (k0 : 0 ≤ k) (k6 : k ≤ 6) (m0 : 0 ≤ most) (m1 : most ≤ 511) :
    Calls Try.prog 38 #[.int .i64 1, .int .i64 k, .int .i64 most, v] w fun e w' => RowsEnd w.heap.size 1 k most w' e ∧ Below w.heap.size w w' := by
  unfold maxLen at hlen
  obtain ⟨i0, hi, hz0, hz1, hz2⟩ := info_parts Try.info22
  have HI : Hid (Try.prog.info? 22 = some i0 ∧ i0.zero = some (.slice none 0 0) ∧ i0.size = 1 ∧ i0.bytes = 24) := ⟨hi, hz0, hz1, hz2⟩
  clear hi hz0 hz1 hz2
  have HV : Hid (IntsAt w v cells) := hv
  obtain ⟨a, cap, rfl⟩ := hv.slice
  clear hv
  go_enter Try.func38, Try.ntmps38
  go_wp2
  go_loopg [9, 10] (k.toNat) (fun m out i wr => ∃ (r : Nat) (bs : List Nat) (zss : List (List Int)), i = .int .i64 r ∧ (r : Int) + m = k ∧ bs.length = r ∧ OwnRows wr w.heap.size out bs zss 1 ∧ (∀ zs ∈ zss, ∀ z ∈ zs, -most ≤ z ∧ z ≤ most) ∧ Below w.heap.size w wr)
  case atStart => exact ⟨0, [], [], rfl, by omega, rfl, OwnRows.nil _ _ _, by simp, Below.refl _ _⟩
  case round =>
    obtain ⟨r, bs, zss, rfl, hr, hbl, hO, hent, hB⟩ := hrel
    have HO : Hid (OwnRows wr w.heap.size u9 bs zss 1) := hO
    have HE : Hid (∀ zs ∈ zss, ∀ z ∈ zs, -most ≤ z ∧ z ≤ most) := hent
    clear hO hent
    by_cases hlt : (r : Int) < k
    · by_cases hfit : 1 * ((r : Int) + 1) ≤ cells.length
      · rcases HV.out with ⟨e0, _⟩ | ⟨_, b, o, cap', e1, hc⟩
        · rw [e0] at hfit; simp at hfit; omega
        injection e1 with e2 e3 e4
        subst e2
        have hcw : ∀ i, i < cells.length → wr.cell? ⟨b, o + i, none⟩ = some (.int .i64 (cells.getD i 0)) := fun i hi => cell_below hB (hc i hi)
        have HC : Hid (∀ i, i < cells.length → wr.cell? ⟨b, o + i, none⟩ = some (.int .i64 (cells.getD i 0))) := hcw
        clear hc hcw e3 e4
        have hmk := make1
        have hlb : b < wr.heap.size := World.block_lt_of_cell? wr _ (HC.out 0 (by omega))
        obtain ⟨z0, e0⟩ : ∃ z, z = cells.getD (r) 0 := ⟨_, rfl⟩
        have c0 : wr.cell? ⟨b, o + r, none⟩ = some (.int .i64 z0) := by rw [e0]; exact HC.out (r) (by omega)
        clear e0
        clear HC HV
        have hm1 : most + 1 ≠ 0 := by omega
        go_wp2
        refine wp_loop_rounds 2 ?_
        rw [rounds_succ]; go_wp2

        rw [rounds_succ]
        obtain ⟨hi, hz0, hz1, hz2⟩ := HI.out
        have hown := HO.out.own
        have hbl6 : bs.length ≤ 6 := by omega
        have hNw := hB.size
        go_wp2_with (at_builtin; refine wpList_append_lies _ rfl (.tmp 48) (.tmp 50) 26 rfl w.heap.size 22 i0 (.slice none 0 0) 1 24 Try.underlying26 hi hz0 hz1 hz2 rfl (by decide) _ _ _ rfl ((hown.alloc _).alloc _) ⟨wr.heap.size + 1, 0, none⟩ 1 1 [.slice (some ⟨wr.heap.size, 0, none⟩) 1 1] rfl rfl (World.news_of_block (cs := #[.slice (some ⟨wr.heap.size, 0, none⟩) 1 1]) (t := 22) (fr := (0, 0)) (Blk.new _ _ _ (by simp))) (by intro u hu; simp at hu; subst hu; rfl) (by omega) (by unfold maxLen; omega) (by omega) (by simp; omega) _ rfl ?_; intro g cap1 w1 hown1 hgrow hat hglt)
        go_roundg (gk - 1)
        case measure => omega
        case rel =>
          have hOb : OwnRows ((wr.alloc (.cells #[.int .i64 (z0.tmod (most + 1))] 3)).alloc (.cells #[.slice (some ⟨wr.heap.size, 0, none⟩) 1 1] 22)) w.heap.size u9 bs zss 1 :=
            HO.out.below (((Below.refl wr.heap.size wr).alloc (Nat.le_refl _) _).alloc (by simp) _) (Nat.le_refl _)
          have hB2 : Below w.heap.size w ((wr.alloc (.cells #[.int .i64 (z0.tmod (most + 1))] 3)).alloc (.cells #[.slice (some ⟨wr.heap.size, 0, none⟩) 1 1] 22)) := (hB.alloc hNw _).alloc (by simp; omega) _
          subst hbl
          refine ⟨bs.length + 1, bs ++ [wr.heap.size], zss ++ [[z0.tmod (most + 1)]], by go_num, by omega, by simp, ?_, ?_, ?_⟩
          · refine OwnRows.snoc hOb rfl ((Blk.new wr _ _ rfl).alloc _) hNw (fun i hi e => ?_) (fun e => ?_) rfl hown1 hgrow hat
            · have := (HO.out.row i hi).1.lt; omega
            · have := (hown.lt _ e).2; omega
          · intro zs hzs z hz
            rcases List.mem_append.1 hzs with h | h
            · exact HE.out zs h z hz
            · simp at h; subst h
              simp at hz
              subst hz; exact tmod_le _ _ m0
          · exact hB2.grown hgrow (by simp; omega) (fun k hk => (hown.lt k hk).1)
      · go_wp2
        go_ret
        exact ⟨⟨u9, bs, zss, rfl, HO.out, by have := HO.out.len; omega, HE.out⟩, hB⟩
    · have hd : decide ((r : Int) < k) = false := by simpa using hlt
      go_wp2
      go_ret
      exact ⟨⟨u9, bs, zss, rfl, HO.out, by have := HO.out.len; omega, HE.out⟩, hB⟩

set_option maxRecDepth 100000 in
set_option maxHeartbeats 2000000 in
theorem rows2 (k most : Int) (v : Value) (cells : List Int) (w : World) (hv : IntsAt w v cells) (hlen : cells.length ≤ maxLen) (k0 : 0 ≤ k) (k6 : k ≤ 6) (m0 : 0 ≤ most) (m1 : most ≤ 511) :
    Calls Try.prog 38 #[.int .i64 2, .int .i64 k, .int .i64 most, v] w fun e w' => RowsEnd w.heap.size 2 k most w' e ∧ Below w.heap.size w w' := by
  unfold maxLen at hlen
  obtain ⟨i0, hi, hz0, hz1, hz2⟩ := info_parts Try.info22
  have HI : Hid (Try.prog.info? 22 = some i0 ∧ i0.zero = some (.slice none 0 0) ∧ i0.size = 1 ∧ i0.bytes = 24) := ⟨hi, hz0, hz1, hz2⟩
  clear hi hz0 hz1 hz2
  have HV : Hid (IntsAt w v cells) := hv
  obtain ⟨a, cap, rfl⟩ := hv.slice
  clear hv
  go_enter Try.func38, Try.ntmps38
  go_wp2
  go_loopg [9, 10] (k.toNat) (fun m out i wr => ∃ (r : Nat) (bs : List Nat) (zss : List (List Int)), i = .int .i64 r ∧ (r : Int) + m = k ∧ bs.length = r ∧ OwnRows wr w.heap.size out bs zss 2 ∧ (∀ zs ∈ zss, ∀ z ∈ zs, -most ≤ z ∧ z ≤ most) ∧ Below w.heap.size w wr)
  case atStart => exact ⟨0, [], [], rfl, by omega, rfl, OwnRows.nil _ _ _, by simp, Below.refl _ _⟩
  case round =>
    obtain ⟨r, bs, zss, rfl, hr, hbl, hO, hent, hB⟩ := hrel
    have HO : Hid (OwnRows wr w.heap.size u9 bs zss 2) := hO
    have HE : Hid (∀ zs ∈ zss, ∀ z ∈ zs, -most ≤ z ∧ z ≤ most) := hent
    clear hO hent
    by_cases hlt : (r : Int) < k
    · by_cases hfit : 2 * ((r : Int) + 1) ≤ cells.length
      · rcases HV.out with ⟨e0, _⟩ | ⟨_, b, o, cap', e1, hc⟩
        · rw [e0] at hfit; simp at hfit; omega
        injection e1 with e2 e3 e4
        subst e2
        have hcw : ∀ i, i < cells.length → wr.cell? ⟨b, o + i, none⟩ = some (.int .i64 (cells.getD i 0)) := fun i hi => cell_below hB (hc i hi)
        have HC : Hid (∀ i, i < cells.length → wr.cell? ⟨b, o + i, none⟩ = some (.int .i64 (cells.getD i 0))) := hcw
        clear hc hcw e3 e4
        have hmk := make2
        have hlb : b < wr.heap.size := World.block_lt_of_cell? wr _ (HC.out 0 (by omega))
        obtain ⟨z0, e0⟩ : ∃ z, z = cells.getD (2 * r + 0) 0 := ⟨_, rfl⟩
        have c0 : wr.cell? ⟨b, o + 2 * r, none⟩ = some (.int .i64 z0) := by rw [e0]; exact HC.out (2 * r + 0) (by omega)
        clear e0
        obtain ⟨z1, e1⟩ : ∃ z, z = cells.getD (2 * r + 1) 0 := ⟨_, rfl⟩
        have c1 : wr.cell? ⟨b, o + (2 * r + 1), none⟩ = some (.int .i64 z1) := by rw [e1]; exact HC.out (2 * r + 1) (by omega)
        clear e1
        clear HC HV
        have hm1 : most + 1 ≠ 0 := by omega
        go_wp2
        refine wp_loop_rounds 3 ?_
        rw [rounds_succ]; go_wp2
        rw [rounds_succ]; go_wp2
        rw [rounds_succ]
        obtain ⟨hi, hz0, hz1, hz2⟩ := HI.out
        have hown := HO.out.own
        have hbl6 : bs.length ≤ 6 := by omega
        have hNw := hB.size
        go_wp2_with (at_builtin; refine wpList_append_lies _ rfl (.tmp 48) (.tmp 50) 26 rfl w.heap.size 22 i0 (.slice none 0 0) 1 24 Try.underlying26 hi hz0 hz1 hz2 rfl (by decide) _ _ _ rfl ((hown.alloc _).alloc _) ⟨wr.heap.size + 1, 0, none⟩ 1 1 [.slice (some ⟨wr.heap.size, 0, none⟩) 2 2] rfl rfl (World.news_of_block (cs := #[.slice (some ⟨wr.heap.size, 0, none⟩) 2 2]) (t := 22) (fr := (0, 0)) (Blk.new _ _ _ (by simp))) (by intro u hu; simp at hu; subst hu; rfl) (by omega) (by unfold maxLen; omega) (by omega) (by simp; omega) _ rfl ?_; intro g cap1 w1 hown1 hgrow hat hglt)
        go_roundg (gk - 1)
        case measure => omega
        case rel =>
          have hOb : OwnRows ((wr.alloc (.cells #[.int .i64 (z0.tmod (most + 1)), .int .i64 (z1.tmod (most + 1))] 3)).alloc (.cells #[.slice (some ⟨wr.heap.size, 0, none⟩) 2 2] 22)) w.heap.size u9 bs zss 2 :=
            HO.out.below (((Below.refl wr.heap.size wr).alloc (Nat.le_refl _) _).alloc (by simp) _) (Nat.le_refl _)
          have hB2 : Below w.heap.size w ((wr.alloc (.cells #[.int .i64 (z0.tmod (most + 1)), .int .i64 (z1.tmod (most + 1))] 3)).alloc (.cells #[.slice (some ⟨wr.heap.size, 0, none⟩) 2 2] 22)) := (hB.alloc hNw _).alloc (by simp; omega) _
          subst hbl
          refine ⟨bs.length + 1, bs ++ [wr.heap.size], zss ++ [[z0.tmod (most + 1), z1.tmod (most + 1)]], by go_num, by omega, by simp, ?_, ?_, ?_⟩
          · refine OwnRows.snoc hOb rfl ((Blk.new wr _ _ rfl).alloc _) hNw (fun i hi e => ?_) (fun e => ?_) rfl hown1 hgrow hat
            · have := (HO.out.row i hi).1.lt; omega
            · have := (hown.lt _ e).2; omega
          · intro zs hzs z hz
            rcases List.mem_append.1 hzs with h | h
            · exact HE.out zs h z hz
            · simp at h; subst h
              simp at hz
              rcases hz with rfl | rfl <;> exact tmod_le _ _ m0
          · exact hB2.grown hgrow (by simp; omega) (fun k hk => (hown.lt k hk).1)
      · go_wp2
        go_ret
        exact ⟨⟨u9, bs, zss, rfl, HO.out, by have := HO.out.len; omega, HE.out⟩, hB⟩
    · have hd : decide ((r : Int) < k) = false := by simpa using hlt
      go_wp2
      go_ret
      exact ⟨⟨u9, bs, zss, rfl, HO.out, by have := HO.out.len; omega, HE.out⟩, hB⟩

set_option maxRecDepth 100000 in
set_option maxHeartbeats 2000000 in
theorem rows3 (k most : Int) (v : Value) (cells : List Int) (w : World) (hv : IntsAt w v cells) (hlen : cells.length ≤ maxLen) (k0 : 0 ≤ k) (k6 : k ≤ 6) (m0 : 0 ≤ most) (m1 : most ≤ 511) :
    Calls Try.prog 38 #[.int .i64 3, .int .i64 k, .int .i64 most, v] w fun e w' => RowsEnd w.heap.size 3 k most w' e ∧ Below w.heap.size w w' := by
  unfold maxLen at hlen
  obtain ⟨i0, hi, hz0, hz1, hz2⟩ := info_parts Try.info22
  have HI : Hid (Try.prog.info? 22 = some i0 ∧ i0.zero = some (.slice none 0 0) ∧ i0.size = 1 ∧ i0.bytes = 24) := ⟨hi, hz0, hz1, hz2⟩
  clear hi hz0 hz1 hz2
  have HV : Hid (IntsAt w v cells) := hv
  obtain ⟨a, cap, rfl⟩ := hv.slice
  clear hv
  go_enter Try.func38, Try.ntmps38
  go_wp2
  go_loopg [9, 10] (k.toNat) (fun m out i wr => ∃ (r : Nat) (bs : List Nat) (zss : List (List Int)), i = .int .i64 r ∧ (r : Int) + m = k ∧ bs.length = r ∧ OwnRows wr w.heap.size out bs zss 3 ∧ (∀ zs ∈ zss, ∀ z ∈ zs, -most ≤ z ∧ z ≤ most) ∧ Below w.heap.size w wr)
  case atStart => exact ⟨0, [], [], rfl, by omega, rfl, OwnRows.nil _ _ _, by simp, Below.refl _ _⟩
  case round =>
    obtain ⟨r, bs, zss, rfl, hr, hbl, hO, hent, hB⟩ := hrel
    have HO : Hid (OwnRows wr w.heap.size u9 bs zss 3) := hO
    have HE : Hid (∀ zs ∈ zss, ∀ z ∈ zs, -most ≤ z ∧ z ≤ most) := hent
    clear hO hent
    by_cases hlt : (r : Int) < k
    · by_cases hfit : 3 * ((r : Int) + 1) ≤ cells.length
      · rcases HV.out with ⟨e0, _⟩ | ⟨_, b, o, cap', e1, hc⟩
        · rw [e0] at hfit; simp at hfit; omega
        injection e1 with e2 e3 e4
        subst e2
        have hcw : ∀ i, i < cells.length → wr.cell? ⟨b, o + i, none⟩ = some (.int .i64 (cells.getD i 0)) := fun i hi => cell_below hB (hc i hi)
        have HC : Hid (∀ i, i < cells.length → wr.cell? ⟨b, o + i, none⟩ = some (.int .i64 (cells.getD i 0))) := hcw
        clear hc hcw e3 e4
        have hmk := make3
        have hlb : b < wr.heap.size := World.block_lt_of_cell? wr _ (HC.out 0 (by omega))
        obtain ⟨z0, e0⟩ : ∃ z, z = cells.getD (3 * r + 0) 0 := ⟨_, rfl⟩
        have c0 : wr.cell? ⟨b, o + 3 * r, none⟩ = some (.int .i64 z0) := by rw [e0]; exact HC.out (3 * r + 0) (by omega)
        clear e0
        obtain ⟨z1, e1⟩ : ∃ z, z = cells.getD (3 * r + 1) 0 := ⟨_, rfl⟩
        have c1 : wr.cell? ⟨b, o + (3 * r + 1), none⟩ = some (.int .i64 z1) := by rw [e1]; exact HC.out (3 * r + 1) (by omega)
        clear e1
        obtain ⟨z2, e2⟩ : ∃ z, z = cells.getD (3 * r + 2) 0 := ⟨_, rfl⟩
        have c2 : wr.cell? ⟨b, o + (3 * r + 2), none⟩ = some (.int .i64 z2) := by rw [e2]; exact HC.out (3 * r + 2) (by omega)
        clear e2
        clear HC HV
        have hm1 : most + 1 ≠ 0 := by omega
        go_wp2
        refine wp_loop_rounds 4 ?_
        rw [rounds_succ]; go_wp2
        rw [rounds_succ]; go_wp2
        rw [rounds_succ]; go_wp2
        rw [rounds_succ]
        obtain ⟨hi, hz0, hz1, hz2⟩ := HI.out
        have hown := HO.out.own
        have hbl6 : bs.length ≤ 6 := by omega
        have hNw := hB.size
        go_wp2_with (at_builtin; refine wpList_append_lies _ rfl (.tmp 48) (.tmp 50) 26 rfl w.heap.size 22 i0 (.slice none 0 0) 1 24 Try.underlying26 hi hz0 hz1 hz2 rfl (by decide) _ _ _ rfl ((hown.alloc _).alloc _) ⟨wr.heap.size + 1, 0, none⟩ 1 1 [.slice (some ⟨wr.heap.size, 0, none⟩) 3 3] rfl rfl (World.news_of_block (cs := #[.slice (some ⟨wr.heap.size, 0, none⟩) 3 3]) (t := 22) (fr := (0, 0)) (Blk.new _ _ _ (by simp))) (by intro u hu; simp at hu; subst hu; rfl) (by omega) (by unfold maxLen; omega) (by omega) (by simp; omega) _ rfl ?_; intro g cap1 w1 hown1 hgrow hat hglt)
        go_roundg (gk - 1)
        case measure => omega
        case rel =>
          have hOb : OwnRows ((wr.alloc (.cells #[.int .i64 (z0.tmod (most + 1)), .int .i64 (z1.tmod (most + 1)), .int .i64 (z2.tmod (most + 1))] 3)).alloc (.cells #[.slice (some ⟨wr.heap.size, 0, none⟩) 3 3] 22)) w.heap.size u9 bs zss 3 :=
            HO.out.below (((Below.refl wr.heap.size wr).alloc (Nat.le_refl _) _).alloc (by simp) _) (Nat.le_refl _)
          have hB2 : Below w.heap.size w ((wr.alloc (.cells #[.int .i64 (z0.tmod (most + 1)), .int .i64 (z1.tmod (most + 1)), .int .i64 (z2.tmod (most + 1))] 3)).alloc (.cells #[.slice (some ⟨wr.heap.size, 0, none⟩) 3 3] 22)) := (hB.alloc hNw _).alloc (by simp; omega) _
          subst hbl
          refine ⟨bs.length + 1, bs ++ [wr.heap.size], zss ++ [[z0.tmod (most + 1), z1.tmod (most + 1), z2.tmod (most + 1)]], by go_num, by omega, by simp, ?_, ?_, ?_⟩
          · refine OwnRows.snoc hOb rfl ((Blk.new wr _ _ rfl).alloc _) hNw (fun i hi e => ?_) (fun e => ?_) rfl hown1 hgrow hat
            · have := (HO.out.row i hi).1.lt; omega
            · have := (hown.lt _ e).2; omega
          · intro zs hzs z hz
            rcases List.mem_append.1 hzs with h | h
            · exact HE.out zs h z hz
            · simp at h; subst h
              simp at hz
              rcases hz with rfl | rfl | rfl <;> exact tmod_le _ _ m0
          · exact hB2.grown hgrow (by simp; omega) (fun k hk => (hown.lt k hk).1)
      · go_wp2
        go_ret
        exact ⟨⟨u9, bs, zss, rfl, HO.out, by have := HO.out.len; omega, HE.out⟩, hB⟩
    · have hd : decide ((r : Int) < k) = false := by simpa using hlt
      go_wp2
      go_ret
      exact ⟨⟨u9, bs, zss, rfl, HO.out, by have := HO.out.len; omega, HE.out⟩, hB⟩

end Go.Proofs.Ytmlcblnndihjoaa
