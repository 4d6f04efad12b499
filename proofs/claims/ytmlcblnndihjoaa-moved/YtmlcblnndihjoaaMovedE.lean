import Derived.Test.YtmlcblnndihjoaaMovedB
namespace Go.Proofs.Ytmlcblnndihjoaa
open Go.RowKit

set_option maxRecDepth 100000 in
set_option maxHeartbeats 4000000 in
theorem moved3 (x0 : Int) (v : Value) (cells : List Int) (i j k : Int) (w : World) (hv : IntsAt w v cells) (hlen : cells.length ≤ maxLen)
    (hx : ∀ w0, Calls Try.prog 37 #[.int .i64 x0, .int .i64 3] w0 fun e w' => e = .returned (.int .i64 2) ∧ w' = w0)
    (hpi : ∀ m : Int, 1 ≤ m → m ≤ 1000 → ∃ r : Int, (∀ w0, Calls Try.prog 37 #[.int .i64 i, .int .i64 m] w0 fun e w' => e = .returned (.int .i64 r) ∧ w' = w0) ∧ 0 ≤ r ∧ r < m)
    (hpj : ∀ m : Int, 1 ≤ m → m ≤ 1000 → ∃ r : Int, (∀ w0, Calls Try.prog 37 #[.int .i64 j, .int .i64 m] w0 fun e w' => e = .returned (.int .i64 r) ∧ w' = w0) ∧ 0 ≤ r ∧ r < m) :
    Calls Try.prog 12 #[.int .i64 x0, v, .int .i64 i, .int .i64 j, .int .i64 k] w fun e w' => e = .returned (.bool true) ∧ Below w.heap.size w w' := by
  have HR : Hid (Calls Try.prog 38 #[.int .i64 3, .int .i64 6, .int .i64 511, v] w fun e w' => RowsEnd w.heap.size 3 6 511 w' e ∧ Below w.heap.size w w') :=
    rows3 6 511 v cells w hv hlen (by omega) (by omega) (by omega) (by omega)
  have HX : Hid (∀ w0, Calls Try.prog 37 #[.int .i64 x0, .int .i64 3] w0 fun e w' => e = .returned (.int .i64 2) ∧ w' = w0) := hx
  have HPI := hide hpi
  have HPJ := hide hpj
  obtain ⟨a, cap, rfl⟩ := hv.slice
  clear hv hx hlen hpi hpj
  go_enter Try.func12, Try.ntmps12
  go_wp2_with fail
  refine (HX.out _).mono ?_
  rintro e w' ⟨rfl, hq'⟩; replace hq' := hq'.symm; subst hq'
  go_wp2_with fail
  refine HR.out.mono ?_
  rintro e w1 ⟨⟨out, bs, zss, rfl, hO, hk, hz⟩, hb1⟩
  have HO : Hid (OwnRows w1 w.heap.size out bs zss 3) := hO
  have hln := hO.len
  have h6 : zss.length ≤ 6 := by omega
  have HG0 : Hid (givenE 3 zss = 0) := hO.given (by omega) (by omega) h6 hz
  have HRA : Hid (RowsAt w1 out zss) := hO.rowsAt (by omega)
  have HEnt : Hid (∀ zs ∈ zss, ∀ z ∈ zs, -511 ≤ z ∧ z ≤ 511) := hz
  by_cases hsh : bs.length < 2
  · obtain ⟨a1, cap1, rfl⟩ := hO.out
    have hsh' : (bs.length : Int) < 2 := by omega
    clear hO hz hk hln
    go_wp2
    go_ret
    exact ⟨rfl, hb1⟩
  obtain ⟨g, cap1, hout, hgB, _⟩ := hO.cell (by omega)
  clear hz HR HX hO
  subst hout
  have hsh' : ¬ (bs.length : Int) < 2 := by omega
  go_wp2_with fail
  refine (basis_any 3 _ zss _ HRA.out).mono ?_
  rintro e w2 ⟨⟨T, c, bo, hG, rfl, hbo⟩, hb2⟩
  have HG : Hid (Gen 3 zss T c) := hG
  have HBO := hide hbo
  have hs1 := hb1.size
  have hs2 := hb2.size
  have hB2 : Below w.heap.size w w2 := hb1.trans (hb2.mono hs1)
  clear hG hbo
  obtain ⟨rx, hrx, rx0, rx1⟩ := HPI.out (bs.length : Int) (by omega) (by omega)
  obtain ⟨ry, hry, ry0, ry1⟩ := HPJ.out (bs.length : Int) (by omega) (by omega)
  have HRX := hide hrx
  have HRY := hide hry
  clear hrx hry HPI HPJ
  obtain ⟨x, rfl⟩ := Int.eq_ofNat_of_zero_le rx0
  obtain ⟨y, rfl⟩ := Int.eq_ofNat_of_zero_le ry0
  go_wp2_with fail
  refine (HRX.out _).mono ?_
  rintro e w' ⟨rfl, hq'⟩; replace hq' := hq'.symm; subst hq'
  go_wp2_with fail
  refine (HRY.out _).mono ?_
  rintro e w' ⟨rfl, hq'⟩; replace hq' := hq'.symm; subst hq'
  by_cases hxy : x = y
  · have hee : ((x : Int) == (y : Int)) = true := by simp [hxy]
    clear hxy
    go_wp2
    go_ret
    exact ⟨rfl, hB2⟩
  · have hee : ((x : Int) == (y : Int)) = false := by simp; omega
    have hxl : x < bs.length := by omega
    have hyl : y < bs.length := by omega
    have hO2 := HO.out.below hb2 (Nat.le_refl _)
    have hent : ∀ a b, -511 ≤ (zss.getD a []).getD b 0 ∧ (zss.getD a []).getD b 0 ≤ 511 := fun a b => ent_le HEnt.out a b
    obtain ⟨g', cap1', hv', _, hcell⟩ := hO2.cell (by omega)
    injection hv' with hv1 _ hv3
    injection hv1 with hv1
    injection hv1 with hv1
    subst hv1
    have cx := hcell x hxl
    have cy := hcell y hyl
    have rx := hO2.row x hxl
    have ry := hO2.row y hyl
    have bkg : w.heap.size ≤ bs.getD x 0 := rx.2.2.1
    have bkh : w.heap.size ≤ bs.getD y 0 := ry.2.2.1
    have hgx : g ≠ bs.getD x 0 := fun e => rx.2.2.2 (by rw [← e]; rfl)
    have hgy : g ≠ bs.getD y 0 := fun e => ry.2.2.2 (by rw [← e]; rfl)
    have hbxy : bs.getD x 0 ≠ bs.getD y 0 := nodup_ne hO2.apart hxl hyl hxy
    obtain ⟨p0, hp0⟩ : ∃ p, p = (zss.getD x []).getD 0 0 := ⟨_, rfl⟩
    obtain ⟨q0, hq0⟩ : ∃ q, q = (zss.getD y []).getD 0 0 := ⟨_, rfl⟩
    have cp0 := hO2.entry (i := x) (j := 0) hxl (by omega)
    have cq0 := hO2.entry (i := y) (j := 0) hyl (by omega)
    rw [← hp0] at cp0
    rw [← hq0] at cq0
    have bp0 : -511 ≤ p0 ∧ p0 ≤ 511 := by rw [hp0]; exact hent x 0
    have bq0 : -511 ≤ q0 ∧ q0 ≤ 511 := by rw [hq0]; exact hent y 0
    obtain ⟨p1, hp1⟩ : ∃ p, p = (zss.getD x []).getD 1 0 := ⟨_, rfl⟩
    obtain ⟨q1, hq1⟩ : ∃ q, q = (zss.getD y []).getD 1 0 := ⟨_, rfl⟩
    have cp1 := hO2.entry (i := x) (j := 1) hxl (by omega)
    have cq1 := hO2.entry (i := y) (j := 1) hyl (by omega)
    rw [← hp1] at cp1
    rw [← hq1] at cq1
    have bp1 : -511 ≤ p1 ∧ p1 ≤ 511 := by rw [hp1]; exact hent x 1
    have bq1 : -511 ≤ q1 ∧ q1 ≤ 511 := by rw [hq1]; exact hent y 1
    obtain ⟨p2, hp2⟩ : ∃ p, p = (zss.getD x []).getD 2 0 := ⟨_, rfl⟩
    obtain ⟨q2, hq2⟩ : ∃ q, q = (zss.getD y []).getD 2 0 := ⟨_, rfl⟩
    have cp2 := hO2.entry (i := x) (j := 2) hxl (by omega)
    have cq2 := hO2.entry (i := y) (j := 2) hyl (by omega)
    rw [← hp2] at cp2
    rw [← hq2] at cq2
    have bp2 : -511 ≤ p2 ∧ p2 ≤ 511 := by rw [hp2]; exact hent x 2
    have bq2 : -511 ≤ q2 ∧ q2 ≤ 511 := by rw [hq2]; exact hent y 2
    have bkx := rx.1
    have bky := ry.1
    rw [list3 rx.2.1] at bkx
    rw [list3 ry.2.1] at bky
    simp only [List.map_cons, List.map_nil] at bkx bky
    rw [← hp0, ← hp1, ← hp2] at bkx
    rw [← hq0, ← hq1, ← hq2] at bky
    have fx0 := rx.1.frozen 0; have fy0 := ry.1.frozen 0
    have fx1 := rx.1.frozen 1; have fy1 := ry.1.frozen 1; have fx2 := rx.1.frozen 2; have fy2 := ry.1.frozen 2;
    obtain ⟨bx, hbx⟩ : ∃ b, b = bs.getD x 0 := ⟨_, rfl⟩
    obtain ⟨by', hby⟩ : ∃ b, b = bs.getD y 0 := ⟨_, rfl⟩
    have hfg : ∀ o, w2.frozen? ⟨g, o, none⟩ = false := fun o => own_frozen hO2.own rfl o
    have fgx := hfg x
    have fgy := hfg y
    rw [← hbx] at bkg bkx cx fx0 hgx hbxy cp0 cp1 cp2 fx1 fx2
    rw [← hby] at bkh bky cy fy0 hgy hbxy cq0 cq1 cq2 fy1 fy2
    have tk : -1021 ≤ k.tmod 1022 ∧ k.tmod 1022 ≤ 1021 := tmod_le k 1021 (by omega)
    have m0 := Lat.abs_mul_le (a := k.tmod 1022) (b := q0) (A := 1021) (B := 511) (by omega) (by omega) (by omega) (by omega)
    have wa0 : IntKind.i64.wrap (k.tmod 1022 * q0) = k.tmod 1022 * q0 := wrap_in (by omega) (by omega)
    have wb0 : IntKind.i64.wrap (p0 + k.tmod 1022 * q0) = p0 + k.tmod 1022 * q0 := wrap_in (by omega) (by omega)
    have wc0 : IntKind.i64.wrap (-q0) = -q0 := wrap_in (by omega) (by omega)
    have m1 := Lat.abs_mul_le (a := k.tmod 1022) (b := q1) (A := 1021) (B := 511) (by omega) (by omega) (by omega) (by omega)
    have wa1 : IntKind.i64.wrap (k.tmod 1022 * q1) = k.tmod 1022 * q1 := wrap_in (by omega) (by omega)
    have wb1 : IntKind.i64.wrap (p1 + k.tmod 1022 * q1) = p1 + k.tmod 1022 * q1 := wrap_in (by omega) (by omega)
    have wc1 : IntKind.i64.wrap (-q1) = -q1 := wrap_in (by omega) (by omega)
    have m2 := Lat.abs_mul_le (a := k.tmod 1022) (b := q2) (A := 1021) (B := 511) (by omega) (by omega) (by omega) (by omega)
    have wa2 : IntKind.i64.wrap (k.tmod 1022 * q2) = k.tmod 1022 * q2 := wrap_in (by omega) (by omega)
    have wb2 : IntKind.i64.wrap (p2 + k.tmod 1022 * q2) = p2 + k.tmod 1022 * q2 := wrap_in (by omega) (by omega)
    have wc2 : IntKind.i64.wrap (-q2) = -q2 := wrap_in (by omega) (by omega)
    have hx0' : (0 : Int) ≤ (x : Int) := by omega
    have hy0' : (0 : Int) ≤ (y : Int) := by omega
    have n1 : ¬ g = bx := hgx
    have n2 : ¬ bx = g := fun e => hgx e.symm
    have n3 : ¬ g = by' := hgy
    have n4 : ¬ by' = g := fun e => hgy e.symm
    have n5 : ¬ bx = by' := hbxy
    have n6 : ¬ by' = bx := fun e => hbxy e.symm
    have n7 : ¬ x = y := hxy
    have n8 : ¬ y = x := fun e => hxy e.symm
    have HBX := hide hbx
    have HBY := hide hby
    have HHP := hide (And.intro hp0 hq0)
    have HH1 := hide (And.intro hp1 hq1); have HH2 := hide (And.intro hp2 hq2);
    clear hO2 hcell rx ry hv3 hent hfg hbx hby hp0 hq0 hgx hgy hbxy hxy hp1 hq1 hp2 hq2
    go_wp2
    refine wp_loop_rounds 4 ?_
    have hA : OneOff w w2 w2 bx #[.int .i64 p0, .int .i64 p1, .int .i64 p2] := ⟨bkx, fun m _ => rfl, rfl, hB2⟩
    rw [rounds_succ]
    go_upto_block 1 with fail
    go_cut [] (fun wx => OneOff w w2 wx bx #[.int .i64 (p0 + k.tmod 1022 * q0), .int .i64 p1, .int .i64 p2])
    case first =>
      have kx := (hA.cell (a := ⟨g, x, none⟩) n1).trans cx
      have ky := (hA.cell (a := ⟨g, y, none⟩) n1).trans cy
      have kq := (hA.cell (a := ⟨by', 0, none⟩) n6).trans cq0
      have kp := hA.1.cell 0
      have kf := hA.1.frozen 0
      simp at kp
      clear cx cy cp0 cq0 fx0 fy0 cp1 cq1 fx1 fy1 cp2 cq2 fx2 fy2 fgx fgy
      go_wp2
      refine wp_region_still_tail 24 (by kernel_rfl) (by kernel_rfl) ?_
      change wpStill _ _ (World.drew _) (fun a' => wpList _ _ _ _ a' (World.drew _)) _ _
      simp only [List.take_succ_cons, List.take_zero, List.drop_succ_cons, List.drop_zero]
      repeat still_step
      try refine wpStill_nil ?_
      go_wp2
      go_meet
      exact hA.store bkg (by simp)
    case rest =>
    rename World => wA0
    clear hA
    have hA := hcut
    clear hcut
    go_wp2
    rw [rounds_succ]
    go_upto_block 1 with fail
    go_cut [] (fun wx => OneOff w w2 wx bx #[.int .i64 (p0 + k.tmod 1022 * q0), .int .i64 (p1 + k.tmod 1022 * q1), .int .i64 p2])
    case first =>
      have kx := (hA.cell (a := ⟨g, x, none⟩) n1).trans cx
      have ky := (hA.cell (a := ⟨g, y, none⟩) n1).trans cy
      have kq := (hA.cell (a := ⟨by', 1, none⟩) n6).trans cq1
      have kp := hA.1.cell 1
      have kf := hA.1.frozen 1
      simp at kp
      clear cx cy cp0 cq0 fx0 fy0 cp1 cq1 fx1 fy1 cp2 cq2 fx2 fy2 fgx fgy
      go_wp2
      refine wp_region_still_tail 24 (by kernel_rfl) (by kernel_rfl) ?_
      change wpStill _ _ (World.drew _) (fun a' => wpList _ _ _ _ a' (World.drew _)) _ _
      simp only [List.take_succ_cons, List.take_zero, List.drop_succ_cons, List.drop_zero]
      repeat still_step
      try refine wpStill_nil ?_
      go_wp2
      go_meet
      exact hA.store bkg (by simp)
    case rest =>
    rename World => wA1
    clear hA
    have hA := hcut
    clear hcut
    go_wp2
    rw [rounds_succ]
    go_upto_block 1 with fail
    go_cut [] (fun wx => OneOff w w2 wx bx #[.int .i64 (p0 + k.tmod 1022 * q0), .int .i64 (p1 + k.tmod 1022 * q1), .int .i64 (p2 + k.tmod 1022 * q2)])
    case first =>
      have kx := (hA.cell (a := ⟨g, x, none⟩) n1).trans cx
      have ky := (hA.cell (a := ⟨g, y, none⟩) n1).trans cy
      have kq := (hA.cell (a := ⟨by', 2, none⟩) n6).trans cq2
      have kp := hA.1.cell 2
      have kf := hA.1.frozen 2
      simp at kp
      clear cx cy cp0 cq0 fx0 fy0 cp1 cq1 fx1 fy1 cp2 cq2 fx2 fy2 fgx fgy
      go_wp2
      refine wp_region_still_tail 24 (by kernel_rfl) (by kernel_rfl) ?_
      change wpStill _ _ (World.drew _) (fun a' => wpList _ _ _ _ a' (World.drew _)) _ _
      simp only [List.take_succ_cons, List.take_zero, List.drop_succ_cons, List.drop_zero]
      repeat still_step
      try refine wpStill_nil ?_
      go_wp2
      go_meet
      exact hA.store bkg (by simp)
    case rest =>
    rename World => wA2
    clear hA
    have hA := hcut
    clear hcut
    go_wp2
    have kx := (hA.cell (a := ⟨g, x, none⟩) n1).trans cx
    have ky := (hA.cell (a := ⟨g, y, none⟩) n1).trans cy
    have kfx := (hA.frozen (a := ⟨g, x, none⟩) n1).trans fgx
    have kfy := (hA.frozen (a := ⟨g, y, none⟩) n1).trans fgy
    have HA := hide hA
    have hAB := hA.below
    have hgl : g < wA2.heap.size := World.block_lt_of_cell? _ _ kx
    rw [rounds_succ]
    go_upto_region 17 with fail
    go_cut [19] (fun u19 wx => u19 = .int .i64 0 ∧ Swapped w wA2 wx g x y (.slice (some ⟨by', 0, none⟩) 3 3) (.slice (some ⟨bx, 0, none⟩) 3 3))
    case first =>
      go_wp2
      go_meet
      exact ⟨rfl, Swapped.mk' kx ky n7 hgB hAB _ _⟩
    case rest =>
    rename World => wS
    obtain ⟨rfl, hSw⟩ := hcut
    have HS := hide hSw
    have sx := hSw.cx
    have hBS := hSw.below
    have bkyS : Blk wS by' #[.int .i64 q0, .int .i64 q1, .int .i64 q2] 3 := by
      unfold Blk; rw [hSw.keep by' n4, hA.keep by' n6]; exact bky
    have hC : OneOff w wS wS by' #[.int .i64 q0, .int .i64 q1, .int .i64 q2] := ⟨bkyS, fun m _ => rfl, rfl, hBS⟩
    clear hA hSw kx ky kfx kfy hAB hgl cx cy cp0 cq0 fx0 fy0 cp1 cq1 fx1 fy1 cp2 cq2 fx2 fy2 fgx fgy bkx bky bkyS
    go_wp2
    refine wp_loop_rounds 4 ?_
    rw [rounds_succ]
    go_upto_block 3 with fail
    go_cut [] (fun wx => OneOff w wS wx by' #[.int .i64 (-q0), .int .i64 q1, .int .i64 q2])
    case first =>
      have kx := (hC.cell (a := ⟨g, x, none⟩) n3).trans sx
      have kq := hC.blk.cell 0
      have kf := hC.blk.frozen 0
      simp at kq
      clear sx
      go_wp2
      refine wp_region_still_tail 14 (by kernel_rfl) (by kernel_rfl) ?_
      change wpStill _ _ (World.drew _) (fun a' => wpList _ _ _ _ a' (World.drew _)) _ _
      simp only [List.take_succ_cons, List.take_zero, List.drop_succ_cons, List.drop_zero]
      repeat still_step
      try refine wpStill_nil ?_
      go_wp2
      go_meet
      exact hC.store bkh (by simp)
    case rest =>
    rename World => wC0
    clear hC
    have hC := hcut
    clear hcut
    go_wp2
    rw [rounds_succ]
    go_upto_block 3 with fail
    go_cut [] (fun wx => OneOff w wS wx by' #[.int .i64 (-q0), .int .i64 (-q1), .int .i64 q2])
    case first =>
      have kx := (hC.cell (a := ⟨g, x, none⟩) n3).trans sx
      have kq := hC.blk.cell 1
      have kf := hC.blk.frozen 1
      simp at kq
      clear sx
      go_wp2
      refine wp_region_still_tail 14 (by kernel_rfl) (by kernel_rfl) ?_
      change wpStill _ _ (World.drew _) (fun a' => wpList _ _ _ _ a' (World.drew _)) _ _
      simp only [List.take_succ_cons, List.take_zero, List.drop_succ_cons, List.drop_zero]
      repeat still_step
      try refine wpStill_nil ?_
      go_wp2
      go_meet
      exact hC.store bkh (by simp)
    case rest =>
    rename World => wC1
    clear hC
    have hC := hcut
    clear hcut
    go_wp2
    rw [rounds_succ]
    go_upto_block 3 with fail
    go_cut [] (fun wx => OneOff w wS wx by' #[.int .i64 (-q0), .int .i64 (-q1), .int .i64 (-q2)])
    case first =>
      have kx := (hC.cell (a := ⟨g, x, none⟩) n3).trans sx
      have kq := hC.blk.cell 2
      have kf := hC.blk.frozen 2
      simp at kq
      clear sx
      go_wp2
      refine wp_region_still_tail 14 (by kernel_rfl) (by kernel_rfl) ?_
      change wpStill _ _ (World.drew _) (fun a' => wpList _ _ _ _ a' (World.drew _)) _ _
      simp only [List.take_succ_cons, List.take_zero, List.drop_succ_cons, List.drop_zero]
      repeat still_step
      try refine wpStill_nil ?_
      go_wp2
      go_meet
      exact hC.store bkh (by simp)
    case rest =>
    rename World => wC2
    clear hC
    have hC := hcut
    clear hcut
    go_wp2
    rw [rounds_succ]
    have hO2 := HO.out.below hb2 (Nat.le_refl _)
    have hlx := (hO2.row x hxl).2.1
    have hly := (hO2.row y hyl).2.1
    obtain ⟨hRows, hIy, hcx⟩ := moved_rows (w1 := w1) (t := k.tmod 1022) hO2 (by omega) hxl hyl n7 HBX.out HBY.out HA.out HS.out hC (by rw [HHP.out.1, HHP.out.2, HH1.out.1, HH1.out.2, HH2.out.1, HH2.out.2]; rfl) (by rw [list3 hly]; rw [HHP.out.2, HH1.out.2, HH2.out.2]; rfl) rfl
    have hlens : ∀ i, i < zss.length → (zss.getD i []).length = 3 := fun i hi => (hO2.row i (by omega)).2.1
    have hlens' : ∀ i, i < (movedL 3 (k.tmod 1022) x y zss).length → ((movedL 3 (k.tmod 1022) x y zss).getD i []).length = 3 := fun i hi => by
      rw [movedL_length] at hi
      by_cases e1 : i = x
      · rw [e1, movedL_x (by omega) n7]; simp [negL]; exact hly
      · by_cases e2 : i = y
        · rw [e2, movedL_y (by omega)]; simp [addL]
        · rw [movedL_o e1 e2]; exact hlens i hi
    have hlen3 : ∀ zs ∈ movedL 3 (k.tmod 1022) x y zss, zs.length ≤ 3 := fun zs hm => by
      obtain ⟨i, hi, rfl⟩ := List.getElem_of_mem hm
      have := hlens' i hi
      rw [List.getD_eq_getElem?_getD, List.getElem?_eq_getElem hi] at this
      simp at this; omega
    have hl6 : (movedL 3 (k.tmod 1022) x y zss).length ≤ 6 := by rw [movedL_length]; exact h6
    have hspan := moved_span (n := 3) (by omega) (t := k.tmod 1022) (zss := zss) (by omega) (by omega) n7 hlens
    have hneg : negL (zss.getD y []) = (movedL 3 (k.tmod 1022) x y zss).getD x [] := (movedL_x (by omega) n7).symm
    have hxz : x < (movedL 3 (k.tmod 1022) x y zss).length := by rw [movedL_length]; omega
    rw [hneg] at hIy
    have hBW := hC.below
    have hkeep : ∀ m, w1.heap.size ≤ m → wC2.heap[m]? = w2.heap[m]? := fun m hm => by
      have l1 : bx < w1.heap.size := by rw [HBX.out]; exact (HO.out.row x hxl).1.lt
      have l2 : by' < w1.heap.size := by rw [HBY.out]; exact (HO.out.row y hyl).1.lt
      have l3 : g < w1.heap.size := (HO.out.own.lt g rfl).2
      rw [hC.keep m (by omega), HS.out.keep m (by omega), HA.out.keep m (by omega)]
    have HK := hide hkeep
    have hszW : wC2.heap.size = w2.heap.size := by rw [hC.size, HS.out.size, HA.out.size]
    have HROWS := hide hRows
    have HIY := hide hIy
    have HCX := hide hcx
    have HL' := hide hlens'
    have HL3 := hide hlen3
    have HSP := hide hspan
    generalize movedL 3 (k.tmod 1022) x y zss = zz at *
    have hw := within_any 511 _ zz wC2 HROWS.out (by omega) (by omega) hl6 HL3.out
    have HW := hide hw
    clear hO2 hlx hly hRows hIy hcx hlens hlens' hlen3 hspan hneg hkeep hw HS HA HBX HBY sx hC
    cases hwb : withinB 511 zz
    · rw [hwb] at HW
      clear hwb
      go_wp2_with fail
      refine HW.out.mono ?_
      rintro e w' ⟨rfl, hq'⟩; replace hq' := hq'.symm; subst hq'
      go_wp2
      go_ret
      exact ⟨rfl, hBW⟩
    · have HG0' := hide (given_within (n := 3) (by omega) (by omega) hl6 HL'.out hwb)
      rw [hwb] at HW
      clear hwb
      go_wp2_with fail
      refine HW.out.mono ?_
      rintro e w' ⟨rfl, hq'⟩; replace hq' := hq'.symm; subst hq'
      go_wp2_with fail
      refine (basis_any 3 _ zz _ HROWS.out).mono ?_
      rintro e w4 ⟨⟨T', c', d, hG', rfl, hd⟩, hb4⟩
      obtain ⟨hcc, hTT⟩ := gen_same HG.out hG' HG0.out HG0'.out HSP.out
      subst hcc
      have hs4 := hb4.size
      have HG2 := hide hG'
      have hB4 : Below w.heap.size w w4 := hBW.trans (hb4.mono hBW.size)
      have hcc : (c' != c') = false := by simp
      by_cases hc : c' = 0
      · subst hc
        have eT := hTT rfl
        subst eT
        obtain ⟨hT, hF⟩ := gen_ok HG2.out
        have hS := hT.shape
        have hfl : Flat 3 T' := flat_of hT (fun zs hm => by
          obtain ⟨i, hi, rfl⟩ := List.getElem_of_mem hm
          have := HL'.out i hi
          rw [List.getD_eq_getElem?_getD, List.getElem?_eq_getElem hi] at this
          exact this)
        rcases HBO.out with ⟨h, _⟩ | ⟨_, _, vs, hOw⟩
        · exact absurd rfl h
        rcases hd with ⟨h, _⟩ | ⟨_, _, vs2, hOw2⟩
        · exact absurd rfl h
        have hOw4 : RowsOwn w4 w1.heap.size bo vs (basisRows 3 T') 3 := (hOw.keep (fun m h1 _ => HK.out m h1)).below hb4 (Nat.le_refl _)
        have HBA : Hid (∀ w0, Below w4.heap.size w4 w0 → RowsAt w0 bo (basisRows 3 T')) := fun w0 h0 => (hOw4.below h0 (Nat.le_refl _)).rowsAt (by omega)
        have HSA : Hid (Calls Try.prog 42 #[bo, d] w4 fun e w' => e = .returned (.bool true) ∧ Below w4.heap.size w4 w') :=
          same_refl bo d _ w4 (HBA.out w4 (Below.refl _ _)) (hOw2.rowsAt (by show 0 < 3; omega)) (by have := basis_len 3 T'; omega) (basis_lens (by omega) (by omega))
        have HHA : Hid (∀ w0, Below w4.heap.size w4 w0 → Calls Try.prog 25 #[.int .i64 3, bo, .slice (some ⟨by', 0, none⟩) 3 3] w0 fun e w' => e = .returned (.tuple #[.bool true, .int .i64 0]) ∧ Below w0.heap.size w0 w') := fun w0 h0 => by
          refine (has_any 3 bo _ (basisRows 3 T') (zz.getD x []) w0 (HBA.out w0 h0) ((HIY.out.below hb4).below h0)).mono ?_
          rintro e w' ⟨he, hb⟩
          exact ⟨has_true (n := 3) he (by omega) (by omega) hS hfl hF (given_good HG0'.out (getD_memR hxz)) (vec_mem hT (getD_memR hxz)), hb⟩
        have hcx4 := cell_below hb4 HCX.out
        have he0 : ((0 : Int) == 0) = true := by simp
        have hx0'' : (x : Int) < (bs.length : Int) := by omega
        clear hT hF hS hfl hOw hOw2 hOw4 HBO hTT hG'
        go_wp2_with fail
        refine HSA.out.mono ?_
        rintro e w5 ⟨rfl, hb5⟩
        have hcx5 := cell_below hb5 hcx4
        have hs5 := hb5.size
        go_wp2_with fail
        refine (HHA.out _ hb5).mono ?_
        rintro e w6 ⟨rfl, hb6⟩
        have hs6 := hb6.size
        go_wp2
        go_ret
        exact ⟨rfl, (hB4.trans (hb5.mono (by have := hB4.size; omega))).trans (hb6.mono (by have := hB4.size; omega))⟩
      · have hnil : bo = .slice none 0 0 := by
          rcases HBO.out with ⟨_, h⟩ | ⟨h, _⟩
          · exact h
          · exact absurd h hc
        have hnil2 : d = .slice none 0 0 := by
          rcases hd with ⟨_, h⟩ | ⟨h, _⟩
          · exact h
          · exact absurd h hc
        subst hnil hnil2
        have HSA : Hid (Calls Try.prog 42 #[.slice none 0 0, .slice none 0 0] w4 fun e w' => e = .returned (.bool true) ∧ Below w4.heap.size w4 w') :=
          same_refl _ _ [] w4 (Or.inl ⟨rfl, none, 0, rfl⟩) (Or.inl ⟨rfl, none, 0, rfl⟩) (by simp) (fun zs hm => by simp at hm)
        have hrf := gen_refused HG2.out HG0'.out hc
        have HF2 : Hid (∀ w0, Below w4.heap.size w4 w0 → Calls Try.prog 39 #[.slice (some ⟨g, 0, none⟩) bs.length cap1, .int .i64 c'] w0 fun x w' => x = .returned (.bool true) ∧ w' = w0) := fun w0 h0 => by
          have := refused_any _ zz c' w0 ((HROWS.out.below hb4).below h0) hl6 HL3.out; rw [hrf] at this; exact this
        have hcn : (c' != 0) = true := by simpa using hc
        clear hrf hc hd HBO hTT hG'
        go_wp2_with fail
        refine HSA.out.mono ?_
        rintro e w5 ⟨rfl, hb5⟩
        go_wp2_with fail
        refine (HF2.out _ hb5).mono ?_
        rintro e w' ⟨rfl, hq'⟩; replace hq' := hq'.symm; subst hq'
        go_wp2
        go_ret
        exact ⟨rfl, hB4.trans (hb5.mono (by have := hB4.size; omega))⟩

end Go.Proofs.Ytmlcblnndihjoaa
