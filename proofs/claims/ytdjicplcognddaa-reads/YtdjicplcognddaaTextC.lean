import Derived.Test.YtdjicplcognddaaTextB
import Derived.Test.YtdjicplcognddaaBasis
set_option linter.unusedSimpArgs false
set_option linter.unusedVariables false
namespace Go.Proofs.Ytdjicplcognddaa
open Go.RowKit

theorem tinfo5 : (Try.prog.info? 5).map (fun i => (i.zero, i.size, i.bytes)) = some (some (.int .u8 0), 1, 1) := by kernel_rfl

/-- a list of bytes of the call's own -/
def BytesOwn (w : World) (B : Nat) (v : Value) (xs : List Int) : Prop := w.ownsRow B 5 1 v xs.length (xs.map (Value.int .u8))

theorem BytesOwn.cells {w : World} {B : Nat} {v : Value} {xs : List Int} (h : BytesOwn w B v xs) (h0 : 0 < xs.length) :
    ∃ g cap, v = .slice (some ⟨g, 0, none⟩) xs.length cap ∧ B ≤ g ∧ g < w.heap.size ∧ ∀ i, i < xs.length → w.cell? ⟨g, i, none⟩ = some (.int .u8 (xs.getD i 0)) := by
  obtain ⟨g, cap, h1, h2, h3⟩ := ownsRow_cell h h0
  refine ⟨g, cap, h1, h2, (h.lt g (by rw [h1]; rfl)).2, fun i hi => ?_⟩
  rw [h3 i hi, List.getElem?_map, List.getElem?_eq_getElem hi, List.getD_eq_getElem?_getD, List.getElem?_eq_getElem hi]
  rfl

theorem BytesOwn.conv {w : World} {B : Nat} {v : Value} {xs : List Int} (h : BytesOwn w B v xs) (h0 : 0 < xs.length) : (convert 93 9 v).run Try.prog w = .ok (.string (strOfNums xs)) w := by
  obtain ⟨g, cap, rfl, _, _, hc⟩ := h.cells h0
  exact run_convert_bytes_arg (P := Try.prog) _ 93 5 (by kernel_rfl) (by kernel_rfl) g 0 _ cap xs rfl (fun i hi => by rw [Nat.zero_add]; exact hc i hi) 9 (by kernel_rfl)

theorem conv_end {w : World} {B : Nat} {v : Value} {xs : List Int} {cc : Int} (h : w.ownsRow B 5 1 v (xs.length + 1) (xs.map (Value.int .u8) ++ [Value.int .u8 cc])) : (convert 93 9 v).run Try.prog w = .ok (.string (strOfNums (xs ++ [cc]))) w := by
  have : BytesOwn w B v (xs ++ [cc]) := by
    unfold BytesOwn
    rw [List.length_append, List.map_append]; exact h
  exact this.conv (by simp)

theorem BytesOwn.below {w w' : World} {B : Nat} {v : Value} {xs : List Int} (h : BytesOwn w B v xs) (hb : Below w.heap.size w w') : BytesOwn w' B v xs := ownsRow_below h hb (Nat.le_refl _)

set_option maxRecDepth 100000 in
set_option maxHeartbeats 1000000 in
theorem checkOf_any (v : Value) (B : Nat) (xs : List Int) (w : World) (hv : BytesOwn w B v xs) (hl : xs.length ≤ 1000) (hr : ∀ z ∈ xs, 0 ≤ z ∧ z ≤ 255) (h0 : 0 < xs.length) :
    Calls Try.prog 68 #[v] w fun e w' => e = .returned (.int .u8 (checkN xs)) ∧ w = w' := by
  obtain ⟨g, cap, rfl, hB, hg, hc⟩ := hv.cells h0
  have HC := hide0 hc
  have HZ : Hid (∀ k, k < xs.length → 0 ≤ xs.getD k 0 ∧ xs.getD k 0 ≤ 255) := fun k hk => by
    rw [List.getD_eq_getElem?_getD, List.getElem?_eq_getElem hk]; exact hr _ (List.getElem_mem hk)
  have HL : Hid (∀ k, k ≤ 1000 → 7 ≤ sumN xs k ∧ sumN xs k ≤ 7 + 255 * (k : Int) * 1000) := fun k hk => sumN_le _ hr k hk
  have HE : Hid (checkN xs = sumN xs xs.length % 251) := rfl
  clear hv hr hc
  generalize hn : xs.length = n at *
  clear hn
  go_enter Try.func68, Try.ntmps68
  go_wp2
  go_loopg [3, 4] (n) (fun m t i wr => ∃ k : Nat, i = .int .i64 k ∧ k + m = n ∧ t = .int .i64 (sumN xs k) ∧ w = wr)
  case atStart => exact ⟨0, rfl, by omega, rfl, rfl⟩
  case round =>
    obtain ⟨k, rfl, hk, rfl, hw⟩ := hrel
    subst hw
    have hl' := HL.out k (by omega)
    by_cases hlt : k < n
    · have hlt' : (k : Int) < (n : Int) := by omega
      have hx := HC.out k hlt
      have hz := HZ.out k hlt
      have HS : Hid (sumN xs (k + 1) = sumN xs k + ((k : Int) + 1) * xs.getD k 0) := rfl
      generalize xs.getD k 0 = z at *
      generalize sumN xs k = t at *
      have h1 : 0 ≤ ((k : Int) + 1) * z := Int.mul_nonneg (by omega) hz.1
      have h2 : ((k : Int) + 1) * z ≤ 1000 * 255 := by
        have a1 : ((k : Int) + 1) * z ≤ ((k : Int) + 1) * 255 := Int.mul_le_mul_of_nonneg_left hz.2 (by omega)
        omega
      obtain ⟨hz0, hz1⟩ := hz
      obtain ⟨hl0, hl1⟩ := hl'
      have hw1 : wrap64 (((k : Int) + 1) * z) = ((k : Int) + 1) * z := IntWalk.wrap64_in _ (by omega)
      have hw2 : wrap64 (t + ((k : Int) + 1) * z) = t + ((k : Int) + 1) * z := IntWalk.wrap64_in _ (by omega)
      go_wp2
      go_roundg (gk - 1)
      case measure => omega
      case rel => exact ⟨k + 1, by go_num, by omega, by rw [HS.out], rfl⟩
    · have hke : k = n := by omega
      have hd : decide ((k : Int) < (n : Int)) = false := by simp; omega
      rw [← hke] at HE
      generalize sumN xs k = t at *
      have hm1 : 0 ≤ t % 251 := by omega
      have hm2 : t % 251 ≤ 250 := by omega
      clear hke hk HL
      go_wp2
      go_ret
      refine ⟨?_, rfl⟩
      rw [HE.out]
      rfl

theorem Fine.of {n : Nat} {S : Lat.St} (h1 : 1 ≤ n) (h3 : n ≤ 3) (hf : FitsS S) : Fine n (basisRows n S) := by
  refine ⟨h1, h3, ?_, ?_, ?_⟩
  · unfold basisRows; repeat' split
    all_goals simp
  · intro zs hz
    unfold basisRows at hz
    simp only [List.mem_append] at hz
    rcases hz with (hz | hz) | hz <;> (split at hz <;> simp at hz <;> (subst hz; exact cutV_length _ h3))
  · intro zs hz z hz'
    have hh : ∀ v : Lat.V, Lat.Le 511 v → z ∈ cutV n v → -511 ≤ z ∧ z ≤ 511 := fun v hv hm => by
      have hm' := List.mem_of_mem_take hm
      obtain ⟨a, b, c⟩ : (-511 ≤ v.x ∧ v.x ≤ 511) ∧ (-511 ≤ v.y ∧ v.y ≤ 511) ∧ (-511 ≤ v.z ∧ v.z ≤ 511) := hv
      simp only [List.mem_cons, List.not_mem_nil, or_false] at hm'
      rcases hm' with rfl | rfl | rfl
      · exact a
      · exact b
      · exact c
    obtain ⟨fa, fb, fc⟩ := hf
    unfold basisRows at hz
    simp only [List.mem_append] at hz
    rcases hz with (hz | hz) | hz <;> (split at hz <;> simp at hz <;> subst hz)
    · exact hh _ fa hz'
    · exact hh _ fb hz'
    · exact hh _ fc hz'

set_option maxRecDepth 100000 in
set_option maxHeartbeats 4000000 in
theorem textOf_any (S : Lat.St) (n : Nat) (w : World) (h1 : 1 ≤ n) (h3 : n ≤ 3) (hf : FitsS S) :
    Calls Try.prog 53 #[.int .i64 n, .agg #[.int .i64 S.a.x, .int .i64 S.a.y, .int .i64 S.a.z, .int .i64 S.b.x, .int .i64 S.b.y, .int .i64 S.b.z, .int .i64 S.c.x, .int .i64 S.c.y, .int .i64 S.c.z]] w
      fun e w' => e = .returned (.string (strOfNums (textN n (basisRows n S)))) ∧ Below w.heap.size w w' := by
  have HF := hide0 (Fine.of h1 h3 hf)
  have HR : Hid (∀ w0, Calls Try.prog 41 #[.agg #[.int .i64 S.a.x, .int .i64 S.a.y, .int .i64 S.a.z, .int .i64 S.b.x, .int .i64 S.b.y, .int .i64 S.b.z, .int .i64 S.c.x, .int .i64 S.c.y, .int .i64 S.c.z], .int .i64 n] w0 fun e w' => (∃ out, e = .returned out ∧ RowsAt w' out (basisRows n S)) ∧ Below w0.heap.size w0 w') := fun w0 =>
    (spanRows_any S n w0 h1 h3).mono fun e w' ⟨⟨out, vs, e1, hO, _⟩, hb⟩ => ⟨⟨out, e1, hO.rowsAt (by omega)⟩, hb⟩
  obtain ⟨i0, hi, hz0, hz1, hz2⟩ := info_parts tinfo5
  have HI : Hid (Try.prog.info? 5 = some i0 ∧ i0.zero = some (.int .u8 0) ∧ i0.size = 1 ∧ i0.bytes = 1) := ⟨hi, hz0, hz1, hz2⟩
  clear hi hz0 hz1 hz2 hf
  generalize basisRows n S = zss at *
  go_enter Try.func53, Try.ntmps53
  go_wp2_with fail
  refine (HR.out _).mono ?_
  rintro e w1 ⟨⟨out, rfl, hrows⟩, hb1⟩
  have HV := hide0 hrows
  obtain ⟨a, cap, rfl⟩ := hrows.slice
  have hl6 := HF.out.len
  clear hrows HR
  generalize hr : zss.length = r at *
  have HRL := hide0 hr
  have H0 : Hid (partN n zss 0 0 = [(n : Int), (r : Int)]) := by rw [← hr]; exact partN_zero n zss
  clear hr
  have hnb : (n : Int) ≤ 3 := by omega
  have hrb : (r : Int) ≤ 6 := by omega
  have hs1 := hb1.size
  simp at hs1
  have HB1 : Hid (Below w.heap.size w w1) := (Below.alloc (Below.refl _ _) (Nat.le_refl _) _).trans (hb1.mono (by simp))
  clear hb1
  go_wp2
  go_loopg [6, 7, 8, 9] (r) (fun mm made i u8 u9 wr => ∃ k : Nat, i = .int .i64 k ∧ k + mm = r ∧ BytesOwn wr w1.heap.size made (partN n zss k 0) ∧ Below w1.heap.size w1 wr)
  case atStart =>
    refine ⟨0, rfl, by omega, ?_, by go_grown⟩
    rw [H0.out]
    have := World.ownsRow_lit (base := w1.heap.size) (e := 5) (size := 1) w1 #[.int .u8 n, .int .u8 r] 2 (Nat.le_refl _) (by simp [maxLen]) rfl
    exact this
  case round =>
    obtain ⟨k, rfl, hk, hM, hB⟩ := hrel
    have HB := hide0 hB
    have HM := hide0 hM
    clear hB hM
    by_cases hlt : k < r
    · have hlt' : (k : Int) < (r : Int) := by omega
      obtain ⟨g0, hg0⟩ : ∃ g0, g0 = gk := ⟨_, rfl⟩
      have HP : Hid (partN n zss k n = partN n zss (k + 1) 0) := by
        have := partN_row n zss k (by rw [HRL.out]; exact hlt)
        rw [(HF.out.row (by rw [HRL.out]; exact hlt)).1] at this
        exact this
      go_wp2
      go_loopg [6, 8, 9] (n) (fun mm made j u9 wr => ∃ q : Nat, j = .int .i64 q ∧ q + mm = n ∧ BytesOwn wr w1.heap.size made (partN n zss k q) ∧ Below w1.heap.size w1 wr)
      case atStart => exact ⟨0, rfl, by omega, HM.out, HB.out⟩
      case round =>
      clear HB HM
      obtain ⟨q, rfl, hq, hM, hB⟩ := hrel
      have HB := hide0 hB
      have HM := hide0 hM
      have hsB2 := hB.size
      obtain ⟨b, o, x, rfl, c1, c2⟩ := (HV.out.below hB).cellAt (i := k) (by rw [HRL.out]; exact hlt)
      have hrow := (HF.out.row (i := k) (by rw [HRL.out]; exact hlt)).1
      obtain ⟨a2, cp2, rfl⟩ := c2.slice
      rw [hrow] at c1
      by_cases hql : q < n
      · have hql' : (q : Int) < (n : Int) := by omega
        obtain ⟨b2, o2, ea, c3⟩ := IntsAt.cellAt (m := _) (cap := _) c2 (i := q) (by rw [hrow]; exact hql)
        subst ea
        have hst := partN_step n zss k q (by rw [hrow]; exact hql)
        have hen := HF.out.entry (i := k) (j := q) (by rw [HRL.out]; exact hlt) hql
        generalize (zss.getD k []).getD q 0 = z at *
        have HST := hide0 hst
        obtain ⟨he0, he1⟩ := hen
        have hpl := partN_len HF.out (i := k) (j := q) (by rw [HRL.out]; exact hlt)
        obtain ⟨hi, hz0, hz1, hz2⟩ := HI.out
        unfold BytesOwn at hM
        generalize partN n zss k q = xs at *
        clear hst hB c2
        go_wp2_with (at_builtin; refine wpList_append_lies _ rfl (.tmp 43) (.tmp 50) 93 rfl w1.heap.size 5 i0 (.int .u8 0) 1 1 Try.underlying93 hi hz0 hz1 hz2 rfl (by decide) _ _ _ rfl (World.ownsRow.alloc hM _) ⟨wr.heap.size, 0, none⟩ 2 2 [.int .u8 ((z + 512) / 256), .int .u8 ((z + 512) % 256)] rfl rfl (World.news_of_block (cs := #[.int .u8 ((z + 512) / 256), .int .u8 ((z + 512) % 256)]) (t := 5) (fr := (0, 0)) (Blk.new _ _ _ rfl)) (by intro u hu; simp at hu; rcases hu with rfl | rfl <;> rfl) (by omega) (by unfold maxLen; omega) (by omega) (by simp; omega) _ rfl ?_; intro g cap1 w2 hown1 hgrow hat hglt)
        go_roundg (gk - 1)
        case measure => omega
        case rel =>
          refine ⟨q + 1, by go_num, by omega, ?_, ((HB.out).alloc (by omega) _).grown hgrow (by simp; omega) (fun j hj => by have := (HM.out.lt j hj).1; omega)⟩
          rw [HST.out]
          unfold BytesOwn
          rw [List.length_append, List.map_append]
          exact hown1
      · have hd2 : decide ((q : Int) < (n : Int)) = false := by simp; omega
        have hqe : q = n := by omega
        have HQ := hide0 hqe
        clear hB hqe hM
        go_wp2
        go_roundg (g0 - 1)
        case measure => omega
        case rel =>
          refine ⟨k + 1, by go_num, by omega, ?_, HB.out⟩
          have := HM.out
          rw [HQ.out, HP.out] at this
          exact this
    · have hd : decide ((k : Int) < (r : Int)) = false := by simp; omega
      have hke : k = r := by omega
      have hall := partN_all n zss
      rw [HRL.out] at hall
      have hM := HM.out
      rw [hke, hall] at hM
      clear HM
      have HM := hide0 hM
      have hbl := HF.out.body_len
      have hbp : 0 < (bodyN n zss).length := by unfold bodyN; simp
      have hCK := checkOf_any _ _ _ wr hM (by omega) HF.out.body_range hbp
      have HCK := hide0 hCK
      have HTX : Hid (textN n zss = bodyN n zss ++ [checkN (bodyN n zss)]) := rfl
      have hcr := checkN_range (bodyN n zss)
      clear hall hke hk hM hCK
      generalize bodyN n zss = xs at *
      go_wp2_with fail
      refine HCK.out.mono ?_
      rintro e w' ⟨rfl, hq'⟩; subst hq'
      generalize checkN xs = cc at *
      obtain ⟨hc0, hc250⟩ := hcr
      obtain ⟨hi, hz0, hz1, hz2⟩ := HI.out
      have hM := HM.out
      have hsB := HB.out.size
      unfold BytesOwn at hM
      go_wp2_with (at_builtin; refine wpList_append_lies _ rfl (.tmp 54) (.tmp 56) 93 rfl w1.heap.size 5 i0 (.int .u8 0) 1 1 Try.underlying93 hi hz0 hz1 hz2 rfl (by decide) _ _ _ rfl (World.ownsRow.alloc hM _) ⟨wr.heap.size, 0, none⟩ 1 1 [.int .u8 cc] rfl rfl (World.news_of_block (cs := #[.int .u8 cc]) (t := 5) (fr := (0, 0)) (Blk.new _ _ _ rfl)) (by intro u hu; simp at hu; subst hu; rfl) (by omega) (by unfold maxLen; omega) (by omega) (by simp; omega) _ rfl ?_; intro g cap1 w2 hown1 hgrow hat hglt; have hcv := conv_end hown1)
      go_ret
      refine ⟨by rw [HTX.out]; rfl, ?_⟩
      have hb2 : Below w1.heap.size w1 w2 := ((HB.out).alloc (by have := HB.out.size; omega) _).grown hgrow (by have := HB.out.size; simp; omega) (fun j hj => by have := (HM.out.lt j hj).1; omega)
      exact HB1.out.trans (hb2.mono (by omega))

end Go.Proofs.Ytdjicplcognddaa
