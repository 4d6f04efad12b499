import Derived.Test.YtmlcblnndihjoaaCallC
namespace Go.Proofs.Ytmlcblnndihjoaa
open Go.RowKit

theorem ret44 {R : Ending → World → Prop} {a : Act} {W : World} {p : Nat} {x0 x1 x2 x3 x4 x5 x6 x7 x8 : Value}
    (h : a.tmps[2]?.getD undef = .pointer (some ⟨p, 0, none⟩)) (k : Blk W p #[x0, x1, x2, x3, x4, x5, x6, x7, x8] 65) (hd : a.defers = [])
    (hR : R (.returned (.agg #[x0, x1, x2, x3, x4, x5, x6, x7, x8])) W) : bodyPost Try.prog Try.f70 R .ret a W := by
  obtain ⟨c0, c1, c2, c3, c4, c5, c6, c7, c8⟩ := k.nine
  refine bodyPost_ret (v := .agg #[x0, x1, x2, x3, x4, x5, x6, x7, x8]) ?_ hd hR
  simp [results, Try.results70, go_sem, h, c0, c1, c2, c3, c4, c5, c6, c7, c8]

theorem Blk.other9 {w : World} {b b' : Nat} {cs : Array Value} {T : TypeId} (h : Blk w b cs T) (hne : b ≠ b') (y0 y1 y2 y3 y4 y5 y6 y7 y8 : Value) : Blk (((((((((w.setCell ⟨b', 0, none⟩ y0).setCell ⟨b', 1, none⟩ y1).setCell ⟨b', 2, none⟩ y2).setCell ⟨b', 3, none⟩ y3).setCell ⟨b', 4, none⟩ y4).setCell ⟨b', 5, none⟩ y5).setCell ⟨b', 6, none⟩ y6).setCell ⟨b', 7, none⟩ y7).setCell ⟨b', 8, none⟩ y8) b cs T :=
  (((((((((h.other hne y0).other hne y1).other hne y2).other hne y3).other hne y4).other hne y5).other hne y6).other hne y7).other hne y8)

/-- the vectors of rows, the last first -/
def vecs (zss : List (List Int)) : List Lat.V := (zss.map vecOf).reverse

theorem vecs_snoc (zss : List (List Int)) (zs : List Int) : vecs (zss ++ [zs]) = vecOf zs :: vecs zss := by simp [vecs]

theorem take_snocR {zss : List (List Int)} {k : Nat} (h : k < zss.length) : zss.take (k + 1) = zss.take k ++ [zss.getD k []] := by
  rw [List.take_succ_eq_append_getElem h]
  simp [List.getD_eq_getElem?_getD, List.getElem?_eq_getElem h]

theorem getD_mem {zs : List Int} {k : Nat} {p : Int → Bool} (h : zs.all p = true) (h0 : p 0 = true) : p (zs.getD k 0) = true := by
  by_cases hk : k < zs.length
  · rw [List.all_eq_true] at h
    refine h _ ?_
    simp [List.getD_eq_getElem?_getD, List.getElem?_eq_getElem hk]
  · rw [List.getD_eq_getElem?_getD, List.getElem?_eq_none (by omega)]; exact h0

theorem good_le {n : Int} {zs : List Int} (h : goodB n zs = true) : Lat.Le 511 (vecOf zs) ∧ (zs.length : Int) = n := by
  unfold goodB at h
  rw [Bool.and_eq_true, decide_eq_true_eq] at h
  have g := fun k => getD_mem (k := k) h.2 (by simp)
  have e : ∀ z : Int, (decide (z ≤ 511) && decide (-511 ≤ z)) = true → -511 ≤ z ∧ z ≤ 511 := fun z hz => by
    rw [Bool.and_eq_true, decide_eq_true_eq, decide_eq_true_eq] at hz; omega
  exact ⟨⟨e _ (g 0), e _ (g 1), e _ (g 2)⟩, h.1⟩

theorem vecs_le {n : Int} {zss : List (List Int)} (h : zss.all (goodB n) = true) : ∀ g ∈ vecs zss, Lat.Le 511 g := by
  intro g hg
  simp only [vecs, List.mem_reverse, List.mem_map] at hg
  obtain ⟨zs, hz, rfl⟩ := hg
  rw [List.all_eq_true] at h
  exact (good_le (h zs hz)).1

theorem all_takeT {zss : List (List Int)} {p : List Int → Bool} (h : zss.all p = true) (k : Nat) : (zss.take k).all p = true := by
  rw [List.all_eq_true] at *
  exact fun x hx => h x (List.mem_of_mem_take hx)

theorem getD_memR {zss : List (List Int)} {k : Nat} (h : k < zss.length) : zss.getD k [] ∈ zss := by
  simp [List.getD_eq_getElem?_getD, List.getElem?_eq_getElem h]

set_option maxHeartbeats 1000000 in
theorem spanOf_any (n : Int) (v : Value) (zss : List (List Int)) (w : World) (hv : RowsAt w v zss) (h1 : 1 ≤ n) (h3 : n ≤ 3) (hl : zss.length ≤ 6) (hg : zss.all (goodB n) = true) :
    Calls Try.prog 70 #[v] w fun e w' => ∃ T, Lat.CanonOf T (vecs zss) ∧ e = .returned (.agg #[.int .i64 T.a.x, .int .i64 T.a.y, .int .i64 T.a.z, .int .i64 T.b.x, .int .i64 T.b.y, .int .i64 T.b.z, .int .i64 T.c.x, .int .i64 T.c.y, .int .i64 T.c.z]) ∧ Below w.heap.size w w' := by
  have HG : Hid (zss.all (goodB n) = true) := hg
  have HV : Hid (RowsAt w v zss) := hv
  clear hg
  obtain ⟨a, cap, rfl⟩ := hv.slice
  clear hv
  go_enter Try.func70, Try.ntmps70
  go_wp2
  go_loopg [4] (zss.length) (fun m i wr => ∃ (k : Nat) (T : Lat.St), k + m = zss.length ∧ i = .int .i64 k ∧ Lat.CanonOf T (vecs (zss.take k)) ∧
     Blk wr w.heap.size #[.int .i64 0, .int .i64 0, .int .i64 0, .int .i64 0, .int .i64 0, .int .i64 0, .int .i64 0, .int .i64 0, .int .i64 0] 65 ∧ Blk wr (w.heap.size + 1) #[.int .i64 T.a.x, .int .i64 T.a.y, .int .i64 T.a.z, .int .i64 T.b.x, .int .i64 T.b.y, .int .i64 T.b.z, .int .i64 T.c.x, .int .i64 T.c.y, .int .i64 T.c.z] 65 ∧ Below w.heap.size w wr)
  case atStart =>
    refine ⟨0, ⟨⟨0, 0, 0⟩, ⟨0, 0, 0⟩, ⟨0, 0, 0⟩⟩, by omega, rfl, Lat.CanonOf.nil, (Blk.new w _ _ rfl).alloc _, Blk.new (w.alloc _) _ _ (by simp), by go_grown⟩
  case round =>
    obtain ⟨k, T, hk, rfl, hC, b2, b3, hB⟩ := hrel
    have HC : Hid (Lat.CanonOf T (vecs (zss.take k))) := hC
    clear hC
    have hl2 := b2.lt
    have hl3 := b3.lt
    by_cases hlt : k < zss.length
    · have hgk : goodB n (zss.getD k []) = true := by
        have := HG.out; rw [List.all_eq_true] at this; exact this _ (getD_memR hlt)
      have hgl := good_le hgk
      rcases HV.out with ⟨e0, _⟩ | ⟨_, b, o, cap', e1, hc⟩
      · rw [e0] at hlt; simp at hlt
      injection e1 with e2 e3 e4
      subst e2
      obtain ⟨x, hcell, hx⟩ := hc k hlt
      have hcw := cell_below hB hcell
      have hxw := hx.below hB
      have HX : Hid (∀ w0, Below wr.heap.size wr w0 → Calls Try.prog 52 #[x] w0 fun e w' => e = .returned (.agg #[.int .i64 (vecOf (zss.getD k [])).x, .int .i64 (vecOf (zss.getD k [])).y, .int .i64 (vecOf (zss.getD k [])).z]) ∧ Below w0.heap.size w0 w') := fun w0 h0 =>
        vectorOf_any x _ w0 (hxw.below h0) (by omega) (by omega)
      have HS : Hid (∀ w0, Calls Try.prog 80 #[.agg #[.int .i64 T.a.x, .int .i64 T.a.y, .int .i64 T.a.z, .int .i64 T.b.x, .int .i64 T.b.y, .int .i64 T.b.z, .int .i64 T.c.x, .int .i64 T.c.y, .int .i64 T.c.z], .agg #[.int .i64 (vecOf (zss.getD k [])).x, .int .i64 (vecOf (zss.getD k [])).y, .int .i64 (vecOf (zss.getD k [])).z]] w0 fun e w' => ∃ T', Lat.CanonOf T' (vecOf (zss.getD k []) :: vecs (zss.take k)) ∧ e = .returned (.agg #[.int .i64 T'.a.x, .int .i64 T'.a.y, .int .i64 T'.a.z, .int .i64 T'.b.x, .int .i64 T'.b.y, .int .i64 T'.b.z, .int .i64 T'.c.x, .int .i64 T'.c.y, .int .i64 T'.c.z]) ∧ Below w0.heap.size w0 w') := fun w0 =>
        with_any T _ _ w0 HC.out (vecs_le (all_takeT HG.out k)) hgl.1
      have HE : Hid (vecs (zss.take (k + 1)) = vecOf (zss.getD k []) :: vecs (zss.take k)) := by
        show vecs (zss.take (k + 1)) = _
        rw [take_snocR hlt, vecs_snoc]
      clear hgk hgl hc hcell hx hxw e3 e4
      generalize vecOf (zss.getD k []) = u at *
      obtain ⟨s0, s1, s2, s3, s4, s5, s6, s7, s8⟩ := b3.nine
      go_wp2_with fail
      refine (HX.out _ (Below.refl _ _)).mono ?_
      rintro e w1 ⟨rfl, hb1⟩
      have k2 := b2.below hb1 hl2
      have k3 := b3.below hb1 hl3
      clear s0 s1 s2 s3 s4 s5 s6 s7 s8 hcw
      obtain ⟨s0, s1, s2, s3, s4, s5, s6, s7, s8⟩ := k3.nine
      have hlw := k3.lt
      go_wp2_with fail
      refine (HS.out _).mono ?_
      rintro e w2 ⟨T', hT', rfl, hb2⟩
      have HT : Hid (Lat.CanonOf T' (vecs (zss.take (k + 1)))) := by rw [HE.out]; exact hT'
      have m2 := (k2.alloc (.cells #[.int .i64 u.x, .int .i64 u.y, .int .i64 u.z] 62)).below hb2 (by simp; have := k2.lt; omega)
      have m3 := (k3.alloc (.cells #[.int .i64 u.x, .int .i64 u.y, .int .i64 u.z] 62)).below hb2 (by simp; omega)
      have hB1 := hB.trans (hb1.mono (by omega))
      have hB2 : Below w.heap.size w w2 := (hB1.alloc (by omega) _).trans (hb2.mono (by simp; omega))
      clear s0 s1 s2 s3 s4 s5 s6 s7 s8 hT'
      obtain ⟨s0, s1, s2, s3, s4, s5, s6, s7, s8⟩ := m3.nine
      obtain ⟨f0, f1, f2, f3, f4, f5, f6, f7, f8⟩ := m3.frozen9
      go_wp2
      go_roundg (gk - 1)
      case measure => omega
      case rel =>
        refine ⟨k + 1, T', by omega, by go_num, HT.out, ?_, m3.set9 _ _ _ _ _ _ _ _ _, below_set9 hB2 (by omega) _ _ _ _ _ _ _ _ _⟩
        exact m2.other9 (by omega) _ _ _ _ _ _ _ _ _
    · obtain ⟨s0, s1, s2, s3, s4, s5, s6, s7, s8⟩ := b3.nine
      obtain ⟨t0, t1, t2, t3, t4, t5, t6, t7, t8⟩ := b2.nine
      obtain ⟨f0, f1, f2, f3, f4, f5, f6, f7, f8⟩ := b2.frozen9
      have hkl : k = zss.length := by omega
      have HT : Hid (Lat.CanonOf T (vecs zss)) := by
        have := HC.out; rw [hkl, List.take_length] at this; exact this
      clear hkl
      go_wp2
      exact ret44 rfl (b2.set9 _ _ _ _ _ _ _ _ _) rfl ⟨T, HT.out, rfl, below_set9 hB (by omega) _ _ _ _ _ _ _ _ _⟩

end Go.Proofs.Ytmlcblnndihjoaa
