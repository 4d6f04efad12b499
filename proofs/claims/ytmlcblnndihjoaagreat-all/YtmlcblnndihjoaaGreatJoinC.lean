import Derived.Test.YtmlcblnndihjoaaGreatJoinB
set_option linter.unusedSimpArgs false
set_option linter.unusedVariables false
namespace Go.Proofs.YtmlcblnndihjoaaGreat
open Go.RowKit

/-- the answer of Span.Within -/
def InEnd (S T : Lat.St) (e : Ending) : Prop := ∃ r : Bool, e = .returned (.bool r) ∧ (r = true ↔ (Lat.Mem T S.a ∧ Lat.Mem T S.b ∧ Lat.Mem T S.c))

theorem in_no {S T : Lat.St} (h : ¬ (Lat.Mem T S.a ∧ Lat.Mem T S.b ∧ Lat.Mem T S.c)) : InEnd S T (.returned (.bool false)) := ⟨false, rfl, ⟨fun e => (by cases e), fun e => absurd e h⟩⟩
theorem in_yes {S T : Lat.St} (h : Lat.Mem T S.a ∧ Lat.Mem T S.b ∧ Lat.Mem T S.c) : InEnd S T (.returned (.bool true)) := ⟨true, rfl, ⟨fun _ => h, fun _ => rfl⟩⟩

set_option maxRecDepth 100000 in
set_option maxHeartbeats 4000000 in
theorem spanWithin_any (S T : Lat.St) (w : World) (hS : FitsS S) (hT : Lat.Shape T) (hF : FitsS T) :
    Calls Tryz.prog 56 #[.agg #[.int .i64 S.a.x, .int .i64 S.a.y, .int .i64 S.a.z, .int .i64 S.b.x, .int .i64 S.b.y, .int .i64 S.b.z, .int .i64 S.c.x, .int .i64 S.c.y, .int .i64 S.c.z], .agg #[.int .i64 T.a.x, .int .i64 T.a.y, .int .i64 T.a.z, .int .i64 T.b.x, .int .i64 T.b.y, .int .i64 T.b.z, .int .i64 T.c.x, .int .i64 T.c.y, .int .i64 T.c.z]] w fun e w' => InEnd S T e ∧ Below w.heap.size w w' := by
  have HH0 := hide0 (fun w0 => spanHas_any T S.a w0 hT hF hS.1)
  have HH1 := hide0 (fun w0 => spanHas_any T S.b w0 hT hF hS.2.1)
  have HH2 := hide0 (fun w0 => spanHas_any T S.c w0 hT hF hS.2.2)
  clear hS hT hF
  go_enter Tryz.func56, Tryz.ntmps56
  go_wp2
  have kS := (Blk.new w #[.int .i64 S.a.x, .int .i64 S.a.y, .int .i64 S.a.z, .int .i64 S.b.x, .int .i64 S.b.y, .int .i64 S.b.z, .int .i64 S.c.x, .int .i64 S.c.y, .int .i64 S.c.z] 58 rfl).alloc (.cells #[.int .i64 T.a.x, .int .i64 T.a.y, .int .i64 T.a.z, .int .i64 T.b.x, .int .i64 T.b.y, .int .i64 T.b.z, .int .i64 T.c.x, .int .i64 T.c.y, .int .i64 T.c.z] 58)
  have kT := Blk.new (w.alloc (.cells #[.int .i64 S.a.x, .int .i64 S.a.y, .int .i64 S.a.z, .int .i64 S.b.x, .int .i64 S.b.y, .int .i64 S.b.z, .int .i64 S.c.x, .int .i64 S.c.y, .int .i64 S.c.z] 58)) #[.int .i64 T.a.x, .int .i64 T.a.y, .int .i64 T.a.z, .int .i64 T.b.x, .int .i64 T.b.y, .int .i64 T.b.z, .int .i64 T.c.x, .int .i64 T.c.y, .int .i64 T.c.z] 58 (b := w.heap.size + 1) (by simp)
  have hB : Below w.heap.size w ((w.alloc (.cells #[.int .i64 S.a.x, .int .i64 S.a.y, .int .i64 S.a.z, .int .i64 S.b.x, .int .i64 S.b.y, .int .i64 S.b.z, .int .i64 S.c.x, .int .i64 S.c.y, .int .i64 S.c.z] 58)).alloc (.cells #[.int .i64 T.a.x, .int .i64 T.a.y, .int .i64 T.a.z, .int .i64 T.b.x, .int .i64 T.b.y, .int .i64 T.b.z, .int .i64 T.c.x, .int .i64 T.c.y, .int .i64 T.c.z] 58)) := by go_grown
  generalize ((w.alloc (.cells #[.int .i64 S.a.x, .int .i64 S.a.y, .int .i64 S.a.z, .int .i64 S.b.x, .int .i64 S.b.y, .int .i64 S.b.z, .int .i64 S.c.x, .int .i64 S.c.y, .int .i64 S.c.z] 58)).alloc (.cells #[.int .i64 T.a.x, .int .i64 T.a.y, .int .i64 T.a.z, .int .i64 T.b.x, .int .i64 T.b.y, .int .i64 T.b.z, .int .i64 T.c.x, .int .i64 T.c.y, .int .i64 T.c.z] 58)) = w0 at *
  refine wp_loop_rounds 4 ?_
  rw [rounds_succ]
  obtain ⟨s0, s1, s2, s3, s4, s5, s6, s7, s8⟩ := kS.nine
  obtain ⟨t0, t1, t2, t3, t4, t5, t6, t7, t8⟩ := kT.nine
  go_wp2
  refine wp_region_still_tail 5 (by kernel_rfl) (by kernel_rfl) ?_
  change wpStill _ _ (World.drew _) (fun a' => wpList _ _ _ _ a' (World.drew _)) _ _
  simp only [List.take_succ_cons, List.take_zero, List.drop_succ_cons, List.drop_zero]
  repeat still_step
  try refine wpStill_nil ?_
  go_wp2_with fail
  refine (HH0.out _).mono ?_
  rintro e w1 ⟨⟨r0, rfl, hr0⟩, hb⟩
  have HR0 := hide0 hr0
  have m1 := kS.drew.below hb (by show _ < _; have := kS.lt; simpa using this)
  have m2 := kT.drew.below hb (by show _ < _; have := kT.lt; simpa using this)
  have hB1 : Below w.heap.size w w1 := hB.drew.trans (hb.mono (by have := hB.size; simpa using this))
  clear s0 s1 s2 s3 s4 s5 s6 s7 s8 t0 t1 t2 t3 t4 t5 t6 t7 t8 hr0 hb kS kT hB
  have kS := m1
  have kT := m2
  have hB := hB1
  clear m1 m2 hB1
  cases r0
  · go_wp2
    go_ret
    exact ⟨in_no (fun h => by have := HR0.out.2 h.1; cases this), hB⟩
  go_wp2
  rw [rounds_succ]
  obtain ⟨s0, s1, s2, s3, s4, s5, s6, s7, s8⟩ := kS.nine
  obtain ⟨t0, t1, t2, t3, t4, t5, t6, t7, t8⟩ := kT.nine
  go_wp2
  refine wp_region_still_tail 5 (by kernel_rfl) (by kernel_rfl) ?_
  change wpStill _ _ (World.drew _) (fun a' => wpList _ _ _ _ a' (World.drew _)) _ _
  simp only [List.take_succ_cons, List.take_zero, List.drop_succ_cons, List.drop_zero]
  repeat still_step
  try refine wpStill_nil ?_
  go_wp2_with fail
  refine (HH1.out _).mono ?_
  rintro e w2 ⟨⟨r1, rfl, hr1⟩, hb⟩
  have HR1 := hide0 hr1
  have m1 := kS.drew.below hb (by show _ < _; have := kS.lt; simpa using this)
  have m2 := kT.drew.below hb (by show _ < _; have := kT.lt; simpa using this)
  have hB1 : Below w.heap.size w w2 := hB.drew.trans (hb.mono (by have := hB.size; simpa using this))
  clear s0 s1 s2 s3 s4 s5 s6 s7 s8 t0 t1 t2 t3 t4 t5 t6 t7 t8 hr1 hb kS kT hB
  have kS := m1
  have kT := m2
  have hB := hB1
  clear m1 m2 hB1
  cases r1
  · go_wp2
    go_ret
    exact ⟨in_no (fun h => by have := HR1.out.2 h.2.1; cases this), hB⟩
  go_wp2
  rw [rounds_succ]
  obtain ⟨s0, s1, s2, s3, s4, s5, s6, s7, s8⟩ := kS.nine
  obtain ⟨t0, t1, t2, t3, t4, t5, t6, t7, t8⟩ := kT.nine
  go_wp2
  refine wp_region_still_tail 5 (by kernel_rfl) (by kernel_rfl) ?_
  change wpStill _ _ (World.drew _) (fun a' => wpList _ _ _ _ a' (World.drew _)) _ _
  simp only [List.take_succ_cons, List.take_zero, List.drop_succ_cons, List.drop_zero]
  repeat still_step
  try refine wpStill_nil ?_
  go_wp2_with fail
  refine (HH2.out _).mono ?_
  rintro e w3 ⟨⟨r2, rfl, hr2⟩, hb⟩
  have HR2 := hide0 hr2
  have m1 := kS.drew.below hb (by show _ < _; have := kS.lt; simpa using this)
  have m2 := kT.drew.below hb (by show _ < _; have := kT.lt; simpa using this)
  have hB1 : Below w.heap.size w w3 := hB.drew.trans (hb.mono (by have := hB.size; simpa using this))
  clear s0 s1 s2 s3 s4 s5 s6 s7 s8 t0 t1 t2 t3 t4 t5 t6 t7 t8 hr2 hb kS kT hB
  have kS := m1
  have kT := m2
  have hB := hB1
  clear m1 m2 hB1
  cases r2
  · go_wp2
    go_ret
    exact ⟨in_no (fun h => by have := HR2.out.2 h.2.2; cases this), hB⟩
  go_wp2
  rw [rounds_succ]
  go_wp2
  go_ret
  exact ⟨in_yes ⟨HR0.out.1 (by trivial), HR1.out.1 (by trivial), HR2.out.1 (by trivial)⟩, hB⟩
/- MARK3 -/
end Go.Proofs.YtmlcblnndihjoaaGreat
