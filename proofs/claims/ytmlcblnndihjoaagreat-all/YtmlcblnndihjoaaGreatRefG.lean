import Derived.Test.YtmlcblnndihjoaaGreatRefD
import Derived.Test.YtmlcblnndihjoaaGreatShape
import Derived.Laws.CopyOwn
set_option linter.unusedSimpArgs false
set_option linter.unusedVariables false
namespace Go.Proofs.YtmlcblnndihjoaaGreat
open Go.RowKit

def rw3 (S : Lat.St) (c : Nat) : Lat.V := if c = 0 then S.a else if c = 1 then S.b else S.c
theorem less_r0 (a : Lat.V) (k : Int) : Lat.less a k ⟨0, 0, 0⟩ = a := by cases a; simp [Lat.less]
theorem tid_r0 (c : Nat) (a : Lat.V) : Lat.tid c a ⟨0, 0, 0⟩ = a := less_r0 _ _
theorem tid_l0 (c : Nat) (b : Lat.V) : Lat.tid c ⟨0, 0, 0⟩ b = ⟨0, 0, 0⟩ := by
  have : (⟨0, 0, 0⟩ : Lat.V).at c = 0 := by
    by_cases h0 : c = 0
    · subst h0; rfl
    · by_cases h1 : c = 1
      · subst h1; rfl
      · simp [Lat.V.at, h0, h1]
  simp [Lat.tid, this, Lat.less]
theorem red_tid (a b c : Lat.V) : Lat.red a b c = ⟨Lat.tid 2 (Lat.tid 1 a (Lat.tid 2 b c)) c, Lat.tid 2 b c, c⟩ := rfl
def a3 (S : Lat.St) : Lat.V := S.a
def b3 (S : Lat.St) : Lat.V := S.b
def c3 (S : Lat.St) : Lat.V := S.c

set_option maxRecDepth 100000 in
set_option maxHeartbeats 4000000 in
theorem tidy1 (S : Lat.St) (B g : Nat) (xs : Nat → Value) (bs : Nat → Nat) (w : World) (hb : S.b.x = 0) (hc : S.c.x = 0 ∧ S.c.y = 0) (hc0 : S.c = ⟨0, 0, 0⟩) (hb0 : S.b = ⟨0, 0, 0⟩) (h : AtS 1 w B g xs bs (rw3 S)) :
    Calls Tryz.prog 80 #[.int .i64 1, .slice (some ⟨g, 0, none⟩) 1 1] w fun e w' => e = .returned (.tuple #[]) ∧ AtS 1 w' B g xs bs (rw3 (Lat.red S.a S.b S.c)) ∧ Below B w w' := by
  have hg : Blk w g #[xs 0] 23 := h.blk
  have hB := h.base
  have hr0 := h.row 0 (by omega)
  have ra0 : rw3 S 0 = S.a := rfl
  have rn0 : rw3 (Lat.red S.a S.b S.c) 0 = (Lat.red S.a S.b S.c).a := rfl
  simp only [ra0] at hr0
  rw [red_tid]
  have pa : (Lat.tid 2 (Lat.tid 1 S.a (Lat.tid 2 S.b S.c)) S.c).at 0 = S.a.at 0 := by simp [Lat.tid, Lat.less, Lat.V.at0, hb, hc.1]
  rcases hr0 with ⟨x0, z0⟩ | ⟨x0, p0, k0, q0, d0⟩
  ·
    rw [x0] at hg
    refine (tidy1_0 g g g  w hg ).mono ?_
    rintro e w' ⟨rfl, hU, hg'⟩
    refine ⟨rfl, ⟨?_, hB, fun c hcn => ?_, h.apart⟩, hU.below hB hB⟩
    · show Blk w' g #[xs 0] 23; rw [x0]; exact hg'
    · have hcs : c = 0 := by omega
      subst hcs
      · refine Or.inl ⟨x0, ?_⟩
        show a3 _ = _; simp only [a3, b3, c3, z0, hc0, hb0, tid_r0, tid_l0]
  ·
    rw [x0] at hg
    refine (tidy1_1 (bs 0) g g S.a w hg k0 d0 ).mono ?_
    rintro e w' ⟨rfl, hU, hg', e0⟩
    refine ⟨rfl, ⟨?_, hB, fun c hcn => ?_, h.apart⟩, hU.below q0 hB⟩
    · show Blk w' g #[xs 0] 23; rw [x0]; exact hg'
    · have hcs : c = 0 := by omega
      subst hcs
      · refine Or.inr ⟨x0, ?_, ?_, q0, d0⟩
        · exact pa ▸ p0
        · have he := e0; show Blk _ _ ((cutV 1 (a3 _)).map _).toArray _; simp only [a3, b3, c3, hc0, hb0, tid_r0, tid_l0]; exact he

set_option maxRecDepth 100000 in
set_option maxHeartbeats 4000000 in
theorem tidy2 (S : Lat.St) (B g : Nat) (xs : Nat → Value) (bs : Nat → Nat) (w : World) (hb : S.b.x = 0) (hc : S.c.x = 0 ∧ S.c.y = 0) (hc0 : S.c = ⟨0, 0, 0⟩) (o01 : 0 < S.b.y → Lat.Ok 1 S.a S.b) (h : AtS 2 w B g xs bs (rw3 S)) :
    Calls Tryz.prog 80 #[.int .i64 2, .slice (some ⟨g, 0, none⟩) 2 2] w fun e w' => e = .returned (.tuple #[]) ∧ AtS 2 w' B g xs bs (rw3 (Lat.red S.a S.b S.c)) ∧ Below B w w' := by
  have hg : Blk w g #[xs 0, xs 1] 23 := h.blk
  have hB := h.base
  have hr0 := h.row 0 (by omega)
  have hr1 := h.row 1 (by omega)
  have ra0 : rw3 S 0 = S.a := rfl
  have rn0 : rw3 (Lat.red S.a S.b S.c) 0 = (Lat.red S.a S.b S.c).a := rfl
  have ra1 : rw3 S 1 = S.b := rfl
  have rn1 : rw3 (Lat.red S.a S.b S.c) 1 = (Lat.red S.a S.b S.c).b := rfl
  simp only [ra0, ra1] at hr0 hr1
  have ap01 := h.apart 0 1 (by omega) (by omega) (by omega)
  rw [red_tid]
  have pa : (Lat.tid 2 (Lat.tid 1 S.a (Lat.tid 2 S.b S.c)) S.c).at 0 = S.a.at 0 := by simp [Lat.tid, Lat.less, Lat.V.at0, hb, hc.1]
  have pb : (Lat.tid 2 S.b S.c).at 1 = S.b.at 1 := by simp [Lat.tid, Lat.less, Lat.V.at1, hc.2]
  rcases hr0 with ⟨x0, z0⟩ | ⟨x0, p0, k0, q0, d0⟩
  ·
    rcases hr1 with ⟨x1, z1⟩ | ⟨x1, p1, k1, q1, d1⟩
    ·
      rw [x0, x1] at hg
      refine (tidy2_0 g g g  w hg ).mono ?_
      rintro e w' ⟨rfl, hU, hg'⟩
      refine ⟨rfl, ⟨?_, hB, fun c hcn => ?_, h.apart⟩, hU.below hB hB⟩
      · show Blk w' g #[xs 0, xs 1] 23; rw [x0, x1]; exact hg'
      · have hcs : c = 0 ∨ c = 1 := by omega
        rcases hcs with rfl | rfl
        · refine Or.inl ⟨x0, ?_⟩
          show a3 _ = _; simp only [a3, b3, c3, z0, z1, hc0, tid_r0, tid_l0]
        · refine Or.inl ⟨x1, ?_⟩
          show b3 _ = _; simp only [a3, b3, c3, z0, z1, hc0, tid_r0, tid_l0]
    ·
      rw [x0, x1] at hg
      refine (tidy2_2 g (bs 1) g S.b w hg k1 d1 ).mono ?_
      rintro e w' ⟨rfl, hU, hg', e1⟩
      refine ⟨rfl, ⟨?_, hB, fun c hcn => ?_, h.apart⟩, hU.below hB q1⟩
      · show Blk w' g #[xs 0, xs 1] 23; rw [x0, x1]; exact hg'
      · have hcs : c = 0 ∨ c = 1 := by omega
        rcases hcs with rfl | rfl
        · refine Or.inl ⟨x0, ?_⟩
          show a3 _ = _; simp only [a3, b3, c3, z0, hc0, tid_r0, tid_l0]
        · refine Or.inr ⟨x1, ?_, ?_, q1, d1⟩
          · exact pb ▸ p1
          · have he := e1; show Blk _ _ ((cutV 2 (b3 _)).map _).toArray _; simp only [a3, b3, c3, z0, hc0, tid_r0, tid_l0]; exact he
  ·
    rcases hr1 with ⟨x1, z1⟩ | ⟨x1, p1, k1, q1, d1⟩
    ·
      rw [x0, x1] at hg
      refine (tidy2_1 (bs 0) g g S.a w hg k0 d0 ).mono ?_
      rintro e w' ⟨rfl, hU, hg', e0⟩
      refine ⟨rfl, ⟨?_, hB, fun c hcn => ?_, h.apart⟩, hU.below q0 hB⟩
      · show Blk w' g #[xs 0, xs 1] 23; rw [x0, x1]; exact hg'
      · have hcs : c = 0 ∨ c = 1 := by omega
        rcases hcs with rfl | rfl
        · refine Or.inr ⟨x0, ?_, ?_, q0, d0⟩
          · exact pa ▸ p0
          · have he := e0; show Blk _ _ ((cutV 2 (a3 _)).map _).toArray _; simp only [a3, b3, c3, z1, hc0, tid_r0, tid_l0]; exact he
        · refine Or.inl ⟨x1, ?_⟩
          show b3 _ = _; simp only [a3, b3, c3, z1, hc0, tid_r0, tid_l0]
    ·
      rw [x0, x1] at hg
      refine (tidy2_3 (bs 0) (bs 1) g S.a S.b w hg k0 d0 k1 d1 (ap01 (by rw [x0]; exact slice_ne_nil _ _) (by rw [x1]; exact slice_ne_nil _ _)) (by have t := o01 p1; exact t)).mono ?_
      rintro e w' ⟨rfl, hU, hg', e0, e1⟩
      refine ⟨rfl, ⟨?_, hB, fun c hcn => ?_, h.apart⟩, hU.below q0 q1⟩
      · show Blk w' g #[xs 0, xs 1] 23; rw [x0, x1]; exact hg'
      · have hcs : c = 0 ∨ c = 1 := by omega
        rcases hcs with rfl | rfl
        · refine Or.inr ⟨x0, ?_, ?_, q0, d0⟩
          · exact pa ▸ p0
          · have he := e0; show Blk _ _ ((cutV 2 (a3 _)).map _).toArray _; simp only [a3, b3, c3, hc0, tid_r0, tid_l0]; exact he
        · refine Or.inr ⟨x1, ?_, ?_, q1, d1⟩
          · exact pb ▸ p1
          · have he := e1; show Blk _ _ ((cutV 2 (b3 _)).map _).toArray _; simp only [a3, b3, c3, hc0, tid_r0, tid_l0]; exact he

set_option maxRecDepth 100000 in
set_option maxHeartbeats 4000000 in
theorem tidy3 (S : Lat.St) (B g : Nat) (xs : Nat → Value) (bs : Nat → Nat) (w : World) (hb : S.b.x = 0) (hc : S.c.x = 0 ∧ S.c.y = 0) (o12 : 0 < S.c.z → Lat.Ok 2 S.b S.c) (o01 : 0 < S.b.y → Lat.Ok 1 S.a (Lat.tid 2 S.b S.c)) (o02 : 0 < S.c.z → Lat.Ok 2 (Lat.tid 1 S.a (Lat.tid 2 S.b S.c)) S.c) (h : AtS 3 w B g xs bs (rw3 S)) :
    Calls Tryz.prog 80 #[.int .i64 3, .slice (some ⟨g, 0, none⟩) 3 3] w fun e w' => e = .returned (.tuple #[]) ∧ AtS 3 w' B g xs bs (rw3 (Lat.red S.a S.b S.c)) ∧ Below B w w' := by
  have hg : Blk w g #[xs 0, xs 1, xs 2] 23 := h.blk
  have hB := h.base
  have hr0 := h.row 0 (by omega)
  have hr1 := h.row 1 (by omega)
  have hr2 := h.row 2 (by omega)
  have ra0 : rw3 S 0 = S.a := rfl
  have rn0 : rw3 (Lat.red S.a S.b S.c) 0 = (Lat.red S.a S.b S.c).a := rfl
  have ra1 : rw3 S 1 = S.b := rfl
  have rn1 : rw3 (Lat.red S.a S.b S.c) 1 = (Lat.red S.a S.b S.c).b := rfl
  have ra2 : rw3 S 2 = S.c := rfl
  have rn2 : rw3 (Lat.red S.a S.b S.c) 2 = (Lat.red S.a S.b S.c).c := rfl
  simp only [ra0, ra1, ra2] at hr0 hr1 hr2
  have ap01 := h.apart 0 1 (by omega) (by omega) (by omega)
  have ap02 := h.apart 0 2 (by omega) (by omega) (by omega)
  have ap12 := h.apart 1 2 (by omega) (by omega) (by omega)
  rw [red_tid]
  have pa : (Lat.tid 2 (Lat.tid 1 S.a (Lat.tid 2 S.b S.c)) S.c).at 0 = S.a.at 0 := by simp [Lat.tid, Lat.less, Lat.V.at0, hb, hc.1]
  have pb : (Lat.tid 2 S.b S.c).at 1 = S.b.at 1 := by simp [Lat.tid, Lat.less, Lat.V.at1, hc.2]
  have pc : S.c.at 2 = S.c.at 2 := rfl
  rcases hr0 with ⟨x0, z0⟩ | ⟨x0, p0, k0, q0, d0⟩
  ·
    rcases hr1 with ⟨x1, z1⟩ | ⟨x1, p1, k1, q1, d1⟩
    ·
      rcases hr2 with ⟨x2, z2⟩ | ⟨x2, p2, k2, q2, d2⟩
      ·
        rw [x0, x1, x2] at hg
        refine (tidy3_0 g g g  w hg ).mono ?_
        rintro e w' ⟨rfl, hU, hg'⟩
        refine ⟨rfl, ⟨?_, hB, fun c hcn => ?_, h.apart⟩, hU.below hB hB⟩
        · show Blk w' g #[xs 0, xs 1, xs 2] 23; rw [x0, x1, x2]; exact hg'
        · have hcs : c = 0 ∨ c = 1 ∨ c = 2 := by omega
          rcases hcs with rfl | rfl | rfl
          · refine Or.inl ⟨x0, ?_⟩
            show a3 _ = _; simp only [a3, b3, c3, z0, z1, z2, tid_r0, tid_l0]
          · refine Or.inl ⟨x1, ?_⟩
            show b3 _ = _; simp only [a3, b3, c3, z0, z1, z2, tid_r0, tid_l0]
          · refine Or.inl ⟨x2, ?_⟩
            show c3 _ = _; simp only [a3, b3, c3, z0, z1, z2, tid_r0, tid_l0]
      ·
        rw [x0, x1, x2] at hg
        refine (tidy3_4 g g (bs 2) g S.c w hg k2 d2 ).mono ?_
        rintro e w' ⟨rfl, hU, hg', e2⟩
        refine ⟨rfl, ⟨?_, hB, fun c hcn => ?_, h.apart⟩, hU.below hB hB⟩
        · show Blk w' g #[xs 0, xs 1, xs 2] 23; rw [x0, x1, x2]; exact hg'
        · have hcs : c = 0 ∨ c = 1 ∨ c = 2 := by omega
          rcases hcs with rfl | rfl | rfl
          · refine Or.inl ⟨x0, ?_⟩
            show a3 _ = _; simp only [a3, b3, c3, z0, z1, tid_r0, tid_l0]
          · refine Or.inl ⟨x1, ?_⟩
            show b3 _ = _; simp only [a3, b3, c3, z0, z1, tid_r0, tid_l0]
          · refine Or.inr ⟨x2, ?_, ?_, q2, d2⟩
            · exact pc ▸ p2
            · have he := e2; show Blk _ _ ((cutV 3 (c3 _)).map _).toArray _; simp only [a3, b3, c3, z0, z1, tid_r0, tid_l0]; exact he
    ·
      rcases hr2 with ⟨x2, z2⟩ | ⟨x2, p2, k2, q2, d2⟩
      ·
        rw [x0, x1, x2] at hg
        refine (tidy3_2 g (bs 1) g S.b w hg k1 d1 ).mono ?_
        rintro e w' ⟨rfl, hU, hg', e1⟩
        refine ⟨rfl, ⟨?_, hB, fun c hcn => ?_, h.apart⟩, hU.below hB q1⟩
        · show Blk w' g #[xs 0, xs 1, xs 2] 23; rw [x0, x1, x2]; exact hg'
        · have hcs : c = 0 ∨ c = 1 ∨ c = 2 := by omega
          rcases hcs with rfl | rfl | rfl
          · refine Or.inl ⟨x0, ?_⟩
            show a3 _ = _; simp only [a3, b3, c3, z0, z2, tid_r0, tid_l0]
          · refine Or.inr ⟨x1, ?_, ?_, q1, d1⟩
            · exact pb ▸ p1
            · have he := e1; show Blk _ _ ((cutV 3 (b3 _)).map _).toArray _; simp only [a3, b3, c3, z0, z2, tid_r0, tid_l0]; exact he
          · refine Or.inl ⟨x2, ?_⟩
            show c3 _ = _; simp only [a3, b3, c3, z0, z2, tid_r0, tid_l0]
      ·
        rw [x0, x1, x2] at hg
        refine (tidy3_6 g (bs 1) (bs 2) g S.b S.c w hg k1 d1 k2 d2 (ap12 (by rw [x1]; exact slice_ne_nil _ _) (by rw [x2]; exact slice_ne_nil _ _)) (by have t := o12 p2; simpa only [z0, tid_r0, tid_l0] using t)).mono ?_
        rintro e w' ⟨rfl, hU, hg', e1, e2⟩
        refine ⟨rfl, ⟨?_, hB, fun c hcn => ?_, h.apart⟩, hU.below hB q1⟩
        · show Blk w' g #[xs 0, xs 1, xs 2] 23; rw [x0, x1, x2]; exact hg'
        · have hcs : c = 0 ∨ c = 1 ∨ c = 2 := by omega
          rcases hcs with rfl | rfl | rfl
          · refine Or.inl ⟨x0, ?_⟩
            show a3 _ = _; simp only [a3, b3, c3, z0, tid_r0, tid_l0]
          · refine Or.inr ⟨x1, ?_, ?_, q1, d1⟩
            · exact pb ▸ p1
            · have he := e1; show Blk _ _ ((cutV 3 (b3 _)).map _).toArray _; simp only [a3, b3, c3, z0, tid_r0, tid_l0]; exact he
          · refine Or.inr ⟨x2, ?_, ?_, q2, d2⟩
            · exact pc ▸ p2
            · have he := e2; show Blk _ _ ((cutV 3 (c3 _)).map _).toArray _; simp only [a3, b3, c3, z0, tid_r0, tid_l0]; exact he
  ·
    rcases hr1 with ⟨x1, z1⟩ | ⟨x1, p1, k1, q1, d1⟩
    ·
      rcases hr2 with ⟨x2, z2⟩ | ⟨x2, p2, k2, q2, d2⟩
      ·
        rw [x0, x1, x2] at hg
        refine (tidy3_1 (bs 0) g g S.a w hg k0 d0 ).mono ?_
        rintro e w' ⟨rfl, hU, hg', e0⟩
        refine ⟨rfl, ⟨?_, hB, fun c hcn => ?_, h.apart⟩, hU.below q0 hB⟩
        · show Blk w' g #[xs 0, xs 1, xs 2] 23; rw [x0, x1, x2]; exact hg'
        · have hcs : c = 0 ∨ c = 1 ∨ c = 2 := by omega
          rcases hcs with rfl | rfl | rfl
          · refine Or.inr ⟨x0, ?_, ?_, q0, d0⟩
            · exact pa ▸ p0
            · have he := e0; show Blk _ _ ((cutV 3 (a3 _)).map _).toArray _; simp only [a3, b3, c3, z1, z2, tid_r0, tid_l0]; exact he
          · refine Or.inl ⟨x1, ?_⟩
            show b3 _ = _; simp only [a3, b3, c3, z1, z2, tid_r0, tid_l0]
          · refine Or.inl ⟨x2, ?_⟩
            show c3 _ = _; simp only [a3, b3, c3, z1, z2, tid_r0, tid_l0]
      ·
        rw [x0, x1, x2] at hg
        refine (tidy3_5 (bs 0) g (bs 2) g S.a S.c w hg k0 d0 k2 d2 (ap02 (by rw [x0]; exact slice_ne_nil _ _) (by rw [x2]; exact slice_ne_nil _ _)) (by have t := o02 p2; simpa only [z1, tid_r0, tid_l0] using t)).mono ?_
        rintro e w' ⟨rfl, hU, hg', e0, e2⟩
        refine ⟨rfl, ⟨?_, hB, fun c hcn => ?_, h.apart⟩, hU.below q0 hB⟩
        · show Blk w' g #[xs 0, xs 1, xs 2] 23; rw [x0, x1, x2]; exact hg'
        · have hcs : c = 0 ∨ c = 1 ∨ c = 2 := by omega
          rcases hcs with rfl | rfl | rfl
          · refine Or.inr ⟨x0, ?_, ?_, q0, d0⟩
            · exact pa ▸ p0
            · have he := e0; show Blk _ _ ((cutV 3 (a3 _)).map _).toArray _; simp only [a3, b3, c3, z1, tid_r0, tid_l0]; exact he
          · refine Or.inl ⟨x1, ?_⟩
            show b3 _ = _; simp only [a3, b3, c3, z1, tid_r0, tid_l0]
          · refine Or.inr ⟨x2, ?_, ?_, q2, d2⟩
            · exact pc ▸ p2
            · have he := e2; show Blk _ _ ((cutV 3 (c3 _)).map _).toArray _; simp only [a3, b3, c3, z1, tid_r0, tid_l0]; exact he
    ·
      rcases hr2 with ⟨x2, z2⟩ | ⟨x2, p2, k2, q2, d2⟩
      ·
        rw [x0, x1, x2] at hg
        refine (tidy3_3 (bs 0) (bs 1) g S.a S.b w hg k0 d0 k1 d1 (ap01 (by rw [x0]; exact slice_ne_nil _ _) (by rw [x1]; exact slice_ne_nil _ _)) (by have t := o01 p1; simpa only [z2, tid_r0, tid_l0] using t)).mono ?_
        rintro e w' ⟨rfl, hU, hg', e0, e1⟩
        refine ⟨rfl, ⟨?_, hB, fun c hcn => ?_, h.apart⟩, hU.below q0 q1⟩
        · show Blk w' g #[xs 0, xs 1, xs 2] 23; rw [x0, x1, x2]; exact hg'
        · have hcs : c = 0 ∨ c = 1 ∨ c = 2 := by omega
          rcases hcs with rfl | rfl | rfl
          · refine Or.inr ⟨x0, ?_, ?_, q0, d0⟩
            · exact pa ▸ p0
            · have he := e0; show Blk _ _ ((cutV 3 (a3 _)).map _).toArray _; simp only [a3, b3, c3, z2, tid_r0, tid_l0]; exact he
          · refine Or.inr ⟨x1, ?_, ?_, q1, d1⟩
            · exact pb ▸ p1
            · have he := e1; show Blk _ _ ((cutV 3 (b3 _)).map _).toArray _; simp only [a3, b3, c3, z2, tid_r0, tid_l0]; exact he
          · refine Or.inl ⟨x2, ?_⟩
            show c3 _ = _; simp only [a3, b3, c3, z2, tid_r0, tid_l0]
      ·
        rw [x0, x1, x2] at hg
        refine (tidy3_7 (bs 0) (bs 1) (bs 2) g S.a S.b S.c w hg k0 d0 k1 d1 k2 d2 (ap01 (by rw [x0]; exact slice_ne_nil _ _) (by rw [x1]; exact slice_ne_nil _ _)) (ap02 (by rw [x0]; exact slice_ne_nil _ _) (by rw [x2]; exact slice_ne_nil _ _)) (ap12 (by rw [x1]; exact slice_ne_nil _ _) (by rw [x2]; exact slice_ne_nil _ _)) (by have t := o12 p2; exact t) (by have t := o01 p1; exact t) (by have t := o02 p2; exact t)).mono ?_
        rintro e w' ⟨rfl, hU, hg', e0, e1, e2⟩
        refine ⟨rfl, ⟨?_, hB, fun c hcn => ?_, h.apart⟩, hU.below q0 q1⟩
        · show Blk w' g #[xs 0, xs 1, xs 2] 23; rw [x0, x1, x2]; exact hg'
        · have hcs : c = 0 ∨ c = 1 ∨ c = 2 := by omega
          rcases hcs with rfl | rfl | rfl
          · refine Or.inr ⟨x0, ?_, ?_, q0, d0⟩
            · exact pa ▸ p0
            · have he := e0; show Blk _ _ ((cutV 3 (a3 _)).map _).toArray _; simp only [a3, b3, c3, ]; exact he
          · refine Or.inr ⟨x1, ?_, ?_, q1, d1⟩
            · exact pb ▸ p1
            · have he := e1; show Blk _ _ ((cutV 3 (b3 _)).map _).toArray _; simp only [a3, b3, c3, ]; exact he
          · refine Or.inr ⟨x2, ?_, ?_, q2, d2⟩
            · exact pc ▸ p2
            · have he := e2; show Blk _ _ ((cutV 3 (c3 _)).map _).toArray _; simp only [a3, b3, c3, ]; exact he

end Go.Proofs.YtmlcblnndihjoaaGreat

namespace Go.Proofs.YtmlcblnndihjoaaGreat
open Go.RowKit

/-- the rows by columns, and the vector that is folded in -/
structure Col (n : Nat) (w : World) (B g : Nat) (xs : Nat → Value) (bs : Nat → Nat) (R : Nat → Lat.V) (vb : Nat) (v : Lat.V) : Prop where
  ats : AtS n w B g xs bs R
  vblk : Blk w vb ((cutV n v).map (Value.int .i64)).toArray 3
  vbase : B ≤ vb
  vg : vb ≠ g
  vrow : ∀ c, c < n → xs c ≠ nilS → vb ≠ bs c

theorem map_set {n c : Nat} (xs : Nat → Value) (x : Value) (h : c < n) : ((List.range n).map xs).toArray.setIfInBounds c x = ((List.range n).map (fun d => if d = c then x else xs d)).toArray := by
  apply Array.ext
  · simp
  · intro i h1 h2
    simp only [List.size_toArray, Array.size_setIfInBounds, List.length_map, List.length_range] at h1
    by_cases e : i = c
    · subst e; simp
    · simp [e, Ne.symm e]

theorem swept_pos {c : Nat} {a b a' b' : Lat.V} (h : Lat.Swept c a b a' b') (hb : b.at c ≠ 0) : 0 < a'.at c := by
  obtain ⟨p, q, r, s, _, h2⟩ := h.back
  obtain ⟨_, _, _, _, _, _, _, z, n, _⟩ := h
  rcases Int.lt_or_eq_of_le n with e | e
  · exact e
  · exfalso; apply hb; rw [h2, Lat.V.at_comb, z, ← e]; simp

/-- behind fold and the store of its first row -/
theorem Col.fold {n : Nat} {w0 wa w1 w2 : World} {B g : Nat} {xs : Nat → Value} {bs : Nat → Nat} {R : Nat → Lat.V} {vb : Nat} {v : Lat.V} (h : Col n w0 B g xs bs R vb v) {c : Nat} (hc : c < n)
    {pa p q : Nat} {a' b' : Lat.V} {x : Value} (ka : ∀ m, m < w0.heap.size → m ≠ g → wa.heap[m]? = w0.heap[m]?) (kg : Blk wa g ((List.range n).map (fun d => if d = c then x else xs d)).toArray 23)
    (hpa : B ≤ pa) (hpg : pa ≠ g) (hpv : pa ≠ vb) (hpd : ∀ d, d < n → d ≠ c → xs d ≠ nilS → pa ≠ bs d)
    (hU : Upd2 wa w1 pa vb) (hpq : (p = pa ∧ q = vb) ∨ (p = vb ∧ q = pa)) (hp : Blk w1 p ((cutV n a').map (Value.int .i64)).toArray 3) (hq : Blk w1 q ((cutV n b').map (Value.int .i64)).toArray 3)
    (pos : 0 < a'.at c) (h2 : w2.heap = (w1.setCell ⟨g, c, none⟩ (.slice (some ⟨p, 0, none⟩) n n)).heap) :
    Col n w2 B g (fun d => if d = c then .slice (some ⟨p, 0, none⟩) n n else xs d) (fun d => if d = c then p else bs d) (fun d => if d = c then a' else R d) q b' := by
  have hgp : p ≠ g := by rcases hpq with ⟨e, _⟩ | ⟨e, _⟩ <;> rw [e]; exact hpg; exact h.vg
  have hgq : q ≠ g := by rcases hpq with ⟨_, e⟩ | ⟨_, e⟩ <;> rw [e]; exact h.vg; exact hpg
  have hBp : B ≤ p := by rcases hpq with ⟨e, _⟩ | ⟨e, _⟩ <;> rw [e]; exact hpa; exact h.vbase
  have hBq : B ≤ q := by rcases hpq with ⟨_, e⟩ | ⟨_, e⟩ <;> rw [e]; exact h.vbase; exact hpa
  have hne : q ≠ p := by rcases hpq with ⟨e, e'⟩ | ⟨e, e'⟩ <;> rw [e, e']; exact fun e => hpv e.symm; exact hpv
  have hpr : ∀ d, d < n → d ≠ c → xs d ≠ nilS → p ≠ bs d ∧ q ≠ bs d := fun d hd he hx => by
    have t1 := hpd d hd he hx
    have t2 := h.vrow d hd hx
    rcases hpq with ⟨e, e'⟩ | ⟨e, e'⟩ <;> rw [e, e']
    · exact ⟨t1, t2⟩
    · exact ⟨t2, t1⟩
  have hset : ∀ m, m ≠ g → w2.heap[m]? = w1.heap[m]? := fun m hm => by
    rw [h2]; exact Below.heap_setCell w1 ⟨g, c, none⟩ _ m hm
  have hother : ∀ d, d < n → d ≠ c → xs d ≠ nilS → bs d ≠ g → ∀ cs, Blk w0 (bs d) cs 3 → Blk w2 (bs d) cs 3 := fun d hd he hx hg cs hb => by
    obtain ⟨t1, t2⟩ := hpr d hd he hx
    have t3 : bs d ≠ pa := fun e => hpd d hd he hx e.symm
    have t4 : bs d ≠ vb := fun e => h.vrow d hd hx e.symm
    unfold Blk; rw [hset _ hg, hU.keep _ t3 t4, ka _ hb.lt hg]; exact hb
  refine ⟨⟨?_, h.ats.base, fun d hd => ?_, fun d e hd he hde h3 h4 => ?_⟩, ?_, hBq, hgq, fun d hd hx => ?_⟩
  · have kg1 : Blk w1 g ((List.range n).map (fun d => if d = c then x else xs d)).toArray 23 := by
      unfold Blk; rw [hU.keep g (fun e => hpg e.symm) (fun e => h.vg e.symm)]; exact kg
    have := kg1.set c (.slice (some ⟨p, 0, none⟩) n n)
    rw [map_set _ _ hc] at this
    have e : (fun d => if d = c then Value.slice (some ⟨p, 0, none⟩) n n else (if d = c then x else xs d)) = (fun d => if d = c then Value.slice (some ⟨p, 0, none⟩) n n else xs d) := by
      funext d; by_cases e : d = c <;> simp [e]
    rw [e] at this
    unfold Blk at this ⊢; rw [h2]; exact this
  · by_cases e : d = c
    · subst e
      refine Or.inr ?_
      simp only [if_true]
      refine ⟨trivial, pos, ?_, hBp, hgp⟩
      unfold Blk; rw [hset _ hgp]; exact hp
    · simp only [if_neg e]
      rcases h.ats.row d hd with t | ⟨e1, e2, e3, e4, e5⟩
      · exact Or.inl t
      · exact Or.inr ⟨e1, e2, hother d hd e (by rw [e1]; exact slice_ne_nil _ _) e5 _ e3, e4, e5⟩
  · by_cases e1 : d = c
    · subst e1
      have e2 : ¬ e = d := fun t => hde t.symm
      simp only [if_true, if_neg e2] at h4 ⊢
      exact (hpr e he e2 h4).1
    · by_cases e2 : e = c
      · subst e2
        simp only [if_true, if_neg e1] at h3 ⊢
        exact fun t => (hpr d hd e1 h3).1 t.symm
      · simp only [if_neg e1, if_neg e2] at h3 h4 ⊢
        exact h.ats.apart d e hd he hde h3 h4
  · unfold Blk; rw [hset _ hgq]; exact hq
  · by_cases e : d = c
    · simp only [if_pos e]; exact hne
    · simp only [if_neg e] at hx ⊢; exact (hpr d hd e hx).2

theorem Col.heap {n : Nat} {w w' : World} {B g : Nat} {xs : Nat → Value} {bs : Nat → Nat} {R : Nat → Lat.V} {vb : Nat} {v : Lat.V} (h : Col n w B g xs bs R vb v) (e : w'.heap = w.heap) : Col n w' B g xs bs R vb v :=
  ⟨h.ats.heap e, by unfold Blk; rw [e]; exact h.vblk, h.vbase, h.vg, h.vrow⟩

theorem Col.congr {n : Nat} {w : World} {B g : Nat} {xs : Nat → Value} {bs : Nat → Nat} {R R' : Nat → Lat.V} {vb : Nat} {v : Lat.V} (h : Col n w B g xs bs R vb v) (e : ∀ c, c < n → R c = R' c) : Col n w B g xs bs R' vb v :=
  ⟨h.ats.congr e, h.vblk, h.vbase, h.vg, h.vrow⟩

theorem swept_idle {c : Nat} {a v : Lat.V} (hv : v.at c = 0) (ha : 0 ≤ a.at c) : Lat.Swept c a v a v := (Lat.Euc.start c a v).done hv ha

end Go.Proofs.YtmlcblnndihjoaaGreat

namespace Go.Proofs.YtmlcblnndihjoaaGreat
open Go.RowKit

set_option maxHeartbeats 1000000 in
theorem oks {a b c : Lat.V} (cx : c.x = 0) (cy : c.y = 0) (cz : 0 ≤ c.z) (bx : b.x = 0) (by0 : 0 ≤ b.y) (cE : c.z.natAbs ≤ Lat.E) (bE : b.y.natAbs ≤ Lat.E) (bzE : b.z.natAbs ≤ Lat.E)
    (aE : a.x.natAbs ≤ Lat.E) (ayE : a.y.natAbs ≤ Lat.E) (azE : a.z.natAbs ≤ Lat.E) (hm : a.y.natAbs * (Lat.redB b c).z.natAbs ≤ Lat.E) :
    (0 < c.z → Lat.Ok 2 b c) ∧ (0 < b.y → Lat.Ok 1 a (Lat.tid 2 b c)) ∧ (0 < c.z → Lat.Ok 2 (Lat.tid 1 a (Lat.tid 2 b c)) c) := by
  have d0 := Lat.div_mul_le b.z c.z cz
  have e2 : Lat.tid 2 b c = Lat.redB b c := rfl
  have b2x : (Lat.redB b c).x = 0 := by simp only [Lat.redB, Lat.less]; rw [bx, cx]; simp
  have b2y : (Lat.redB b c).y = b.y := by simp only [Lat.redB, Lat.less]; rw [cy]; simp
  rw [e2]
  generalize Lat.redB b c = b2 at *
  have d2 : (a.y / b2.y * b2.z).natAbs ≤ Lat.E := by
    rw [Int.natAbs_mul]
    exact Nat.le_trans (Nat.mul_le_mul (Lat.div_le a.y b2.y (by omega)) (Nat.le_refl _)) hm
  have d1 := Lat.div_mul_le a.y b2.y (by omega)
  have tx : (Lat.tid 1 a b2).x = a.x := by simp only [Lat.tid, Lat.less]; rw [b2x]; simp
  have ty : (Lat.tid 1 a b2).y = a.y - a.y / b2.y * b2.y := rfl
  have tz : (Lat.tid 1 a b2).z = a.z - a.y / b2.y * b2.z := rfl
  have d3 := Lat.div_mul_le (Lat.tid 1 a b2).z c.z cz
  generalize Lat.tid 1 a b2 = a2 at *
  unfold Lat.E at *
  have uy : a2.y.natAbs ≤ 3458764513820540928 := by rw [ty]; omega
  have uz : a2.z.natAbs ≤ 2305843009213693952 := by rw [tz]; omega
  clear ty tz hm
  refine ⟨fun h => ⟨h, ?_, ?_, ?_, ?_, ?_, ?_, ?_⟩, fun h => ⟨?_, ?_, ?_, ?_, ?_, ?_, ?_, ?_⟩, fun h => ⟨h, ?_, ?_, ?_, ?_, ?_, ?_, ?_⟩⟩
  · show c.z ≤ _; omega
  · omega
  · rw [cx]; simp
  · omega
  · rw [cy]; simp
  · omega
  · exact Nat.le_trans d0 (by omega)
  · show 0 < b2.y; omega
  · show b2.y ≤ _; omega
  · omega
  · rw [b2x]; simp
  · omega
  · exact Nat.le_trans d1 (by omega)
  · omega
  · exact Nat.le_trans d2 (by decide)
  · show c.z ≤ _; omega
  · omega
  · rw [cx]; simp
  · omega
  · rw [cy]; simp
  · omega
  · exact Nat.le_trans d3 (by omega)

theorem swept_at {c : Nat} {a b a' b' : Lat.V} (h : Lat.Swept c a b a' b') (j : Nat) (ha : a.at j = 0) (hb : b.at j = 0) : a'.at j = 0 ∧ b'.at j = 0 := by
  obtain ⟨p, q, r, s, e1, e2, _⟩ := h
  rw [e1, e2, Lat.V.at_comb, Lat.V.at_comb, ha, hb]; simp

/-- all that tidy wants, behind the three columns -/
theorem oksR {S : Lat.St} {G : List Lat.V} (s : Lat.CanonOf S G) (hG : ∀ g ∈ G, Lat.Le 511 g) {v a1 v1 b1 v2 c1 v3 : Lat.V} (hv : Lat.Le 511 v) (h0 : Lat.Swept 0 S.a v a1 v1) (h1 : Lat.Swept 1 S.b v1 b1 v2) (h2 : Lat.Swept 2 S.c v2 c1 v3) :
    b1.x = 0 ∧ (c1.x = 0 ∧ c1.y = 0) ∧ (0 < c1.z → Lat.Ok 2 b1 c1) ∧ (0 < b1.y → Lat.Ok 1 a1 (Lat.tid 2 b1 c1)) ∧ (0 < c1.z → Lat.Ok 2 (Lat.tid 1 a1 (Lat.tid 2 b1 c1)) c1) := by
  obtain ⟨q1, q2, q3, q4, q5, q6, q7, q8, _⟩ := Lat.swept_shape s.shape h0 h1 h2
  obtain ⟨r1, r2, r3, r4, r5⟩ := Lat.roomR s hG hv h0 h1 h2
  obtain ⟨t1, t2, t3⟩ := Lat.after1 s hG hv h0 h1
  exact ⟨q3, ⟨q6, q7⟩, oks q6 q7 q8 q3 q4 r1 t3 t1 r2 r3 r4 r5⟩

end Go.Proofs.YtmlcblnndihjoaaGreat
