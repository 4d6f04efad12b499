import Derived.Test.YtdjicplcognddaaRefD
set_option linter.unusedSimpArgs false
set_option linter.unusedVariables false
namespace Go.Proofs.Ytdjicplcognddaa
open Go.RowKit

def rw3 (S : Lat.St) (c : Nat) : Lat.V := if c = 0 then S.a else if c = 1 then S.b else S.c
theorem less_r0 (a : Lat.V) (k : Int) : Lat.less a k ⟨0, 0, 0⟩ = a := by cases a; simp [Lat.less]
theorem tid_r0 (c : Nat) (a : Lat.V) : Lat.tid c a ⟨0, 0, 0⟩ = a := less_r0 _ _
theorem tid_l0 (c : Nat) (b : Lat.V) : Lat.tid c ⟨0, 0, 0⟩ b = ⟨0, 0, 0⟩ := by
  have : (⟨0, 0, 0⟩ : Lat.V).at c = 0 := by
    by_cases h0 : c = 0
    · subst h0; rfl
    · by_cases h1 : c = 1
      · subst h1; rfl
      · simp [Lat.V.at, h0, h1]
  simp [Lat.tid, this, Lat.less]
theorem red_tid (a b c : Lat.V) : Lat.red a b c = ⟨Lat.tid 2 (Lat.tid 1 a (Lat.tid 2 b c)) c, Lat.tid 2 b c, c⟩ := rfl
def a3 (S : Lat.St) : Lat.V := S.a
def b3 (S : Lat.St) : Lat.V := S.b
def c3 (S : Lat.St) : Lat.V := S.c

set_option maxRecDepth 100000 in
set_option maxHeartbeats 4000000 in
theorem tidy1 (S : Lat.St) (B g : Nat) (xs : Nat → Value) (bs : Nat → Nat) (w : World) (hb : S.b.x = 0) (hc : S.c.x = 0 ∧ S.c.y = 0) (hc0 : S.c = ⟨0, 0, 0⟩) (hb0 : S.b = ⟨0, 0, 0⟩) (h : AtS 1 w B g xs bs (rw3 S)) :
    Calls Try.prog 75 #[.int .i64 1, .slice (some ⟨g, 0, none⟩) 1 1] w fun e w' => e = .returned (.tuple #[]) ∧ AtS 1 w' B g xs bs (rw3 (Lat.red S.a S.b S.c)) ∧ Below B w w' := by
  have hg : Blk w g #[xs 0] 22 := h.blk
  have hB := h.base
  have hr0 := h.row 0 (by omega)
  have ra0 : rw3 S 0 = S.a := rfl
  have rn0 : rw3 (Lat.red S.a S.b S.c) 0 = (Lat.red S.a S.b S.c).a := rfl
  simp only [ra0] at hr0
  rw [red_tid]
  have pa : (Lat.tid 2 (Lat.tid 1 S.a (Lat.tid 2 S.b S.c)) S.c).at 0 = S.a.at 0 := by simp [Lat.tid, Lat.less, Lat.V.at0, hb, hc.1]
  rcases hr0 with ⟨x0, z0⟩ | ⟨x0, p0, k0, q0, d0⟩
  ·
    rw [x0] at hg
    refine (tidy1_0 g g g  w hg ).mono ?_
    rintro e w' ⟨rfl, hU, hg'⟩
    refine ⟨rfl, ⟨?_, hB, fun c hcn => ?_, h.apart⟩, hU.below hB hB⟩
    · show Blk w' g #[xs 0] 22; rw [x0]; exact hg'
    · have hcs : c = 0 := by omega
      subst hcs
      · refine Or.inl ⟨x0, ?_⟩
        show a3 _ = _; simp only [a3, b3, c3, z0, hc0, hb0, tid_r0, tid_l0]
  ·
    rw [x0] at hg
    refine (tidy1_1 (bs 0) g g S.a w hg k0 d0 ).mono ?_
    rintro e w' ⟨rfl, hU, hg', e0⟩
    refine ⟨rfl, ⟨?_, hB, fun c hcn => ?_, h.apart⟩, hU.below q0 hB⟩
    · show Blk w' g #[xs 0] 22; rw [x0]; exact hg'
    · have hcs : c = 0 := by omega
      subst hcs
      · refine Or.inr ⟨x0, ?_, ?_, q0, d0⟩
        · exact pa ▸ p0
        · have he := e0; show Blk _ _ ((cutV 1 (a3 _)).map _).toArray _; simp only [a3, b3, c3, hc0, hb0, tid_r0, tid_l0]; exact he

set_option maxRecDepth 100000 in
set_option maxHeartbeats 4000000 in
theorem tidy2 (S : Lat.St) (B g : Nat) (xs : Nat → Value) (bs : Nat → Nat) (w : World) (hb : S.b.x = 0) (hc : S.c.x = 0 ∧ S.c.y = 0) (hc0 : S.c = ⟨0, 0, 0⟩) (o01 : 0 < S.b.y → Lat.Ok 1 S.a S.b) (h : AtS 2 w B g xs bs (rw3 S)) :
    Calls Try.prog 75 #[.int .i64 2, .slice (some ⟨g, 0, none⟩) 2 2] w fun e w' => e = .returned (.tuple #[]) ∧ AtS 2 w' B g xs bs (rw3 (Lat.red S.a S.b S.c)) ∧ Below B w w' := by
  have hg : Blk w g #[xs 0, xs 1] 22 := h.blk
  have hB := h.base
  have hr0 := h.row 0 (by omega)
  have hr1 := h.row 1 (by omega)
  have ra0 : rw3 S 0 = S.a := rfl
  have rn0 : rw3 (Lat.red S.a S.b S.c) 0 = (Lat.red S.a S.b S.c).a := rfl
  have ra1 : rw3 S 1 = S.b := rfl
  have rn1 : rw3 (Lat.red S.a S.b S.c) 1 = (Lat.red S.a S.b S.c).b := rfl
  simp only [ra0, ra1] at hr0 hr1
  have ap01 := h.apart 0 1 (by omega) (by omega) (by omega)
  rw [red_tid]
  have pa : (Lat.tid 2 (Lat.tid 1 S.a (Lat.tid 2 S.b S.c)) S.c).at 0 = S.a.at 0 := by simp [Lat.tid, Lat.less, Lat.V.at0, hb, hc.1]
  have pb : (Lat.tid 2 S.b S.c).at 1 = S.b.at 1 := by simp [Lat.tid, Lat.less, Lat.V.at1, hc.2]
  rcases hr0 with ⟨x0, z0⟩ | ⟨x0, p0, k0, q0, d0⟩
  ·
    rcases hr1 with ⟨x1, z1⟩ | ⟨x1, p1, k1, q1, d1⟩
    ·
      rw [x0, x1] at hg
      refine (tidy2_0 g g g  w hg ).mono ?_
      rintro e w' ⟨rfl, hU, hg'⟩
      refine ⟨rfl, ⟨?_, hB, fun c hcn => ?_, h.apart⟩, hU.below hB hB⟩
      · show Blk w' g #[xs 0, xs 1] 22; rw [x0, x1]; exact hg'
      · have hcs : c = 0 ∨ c = 1 := by omega
        rcases hcs with rfl | rfl
        · refine Or.inl ⟨x0, ?_⟩
          show a3 _ = _; simp only [a3, b3, c3, z0, z1, hc0, tid_r0, tid_l0]
        · refine Or.inl ⟨x1, ?_⟩
          show b3 _ = _; simp only [a3, b3, c3, z0, z1, hc0, tid_r0, tid_l0]
    ·
      rw [x0, x1] at hg
      refine (tidy2_2 g (bs 1) g S.b w hg k1 d1 ).mono ?_
      rintro e w' ⟨rfl, hU, hg', e1⟩
      refine ⟨rfl, ⟨?_, hB, fun c hcn => ?_, h.apart⟩, hU.below hB q1⟩
      · show Blk w' g #[xs 0, xs 1] 22; rw [x0, x1]; exact hg'
      · have hcs : c = 0 ∨ c = 1 := by omega
        rcases hcs with rfl | rfl
        · refine Or.inl ⟨x0, ?_⟩
          show a3 _ = _; simp only [a3, b3, c3, z0, hc0, tid_r0, tid_l0]
        · refine Or.inr ⟨x1, ?_, ?_, q1, d1⟩
          · exact pb ▸ p1
          · have he := e1; show Blk _ _ ((cutV 2 (b3 _)).map _).toArray _; simp only [a3, b3, c3, z0, hc0, tid_r0, tid_l0]; exact he
  ·
    rcases hr1 with ⟨x1, z1⟩ | ⟨x1, p1, k1, q1, d1⟩
    ·
      rw [x0, x1] at hg
      refine (tidy2_1 (bs 0) g g S.a w hg k0 d0 ).mono ?_
      rintro e w' ⟨rfl, hU, hg', e0⟩
      refine ⟨rfl, ⟨?_, hB, fun c hcn => ?_, h.apart⟩, hU.below q0 hB⟩
      · show Blk w' g #[xs 0, xs 1] 22; rw [x0, x1]; exact hg'
      · have hcs : c = 0 ∨ c = 1 := by omega
        rcases hcs with rfl | rfl
        · refine Or.inr ⟨x0, ?_, ?_, q0, d0⟩
          · exact pa ▸ p0
          · have he := e0; show Blk _ _ ((cutV 2 (a3 _)).map _).toArray _; simp only [a3, b3, c3, z1, hc0, tid_r0, tid_l0]; exact he
        · refine Or.inl ⟨x1, ?_⟩
          show b3 _ = _; simp only [a3, b3, c3, z1, hc0, tid_r0, tid_l0]
    ·
      rw [x0, x1] at hg
      refine (tidy2_3 (bs 0) (bs 1) g S.a S.b w hg k0 d0 k1 d1 (ap01 (by rw [x0]; exact slice_ne_nil _ _) (by rw [x1]; exact slice_ne_nil _ _)) (by have t := o01 p1; exact t)).mono ?_
      rintro e w' ⟨rfl, hU, hg', e0, e1⟩
      refine ⟨rfl, ⟨?_, hB, fun c hcn => ?_, h.apart⟩, hU.below q0 q1⟩
      · show Blk w' g #[xs 0, xs 1] 22; rw [x0, x1]; exact hg'
      · have hcs : c = 0 ∨ c = 1 := by omega
        rcases hcs with rfl | rfl
        · refine Or.inr ⟨x0, ?_, ?_, q0, d0⟩
          · exact pa ▸ p0
          · have he := e0; show Blk _ _ ((cutV 2 (a3 _)).map _).toArray _; simp only [a3, b3, c3, hc0, tid_r0, tid_l0]; exact he
        · refine Or.inr ⟨x1, ?_, ?_, q1, d1⟩
          · exact pb ▸ p1
          · have he := e1; show Blk _ _ ((cutV 2 (b3 _)).map _).toArray _; simp only [a3, b3, c3, hc0, tid_r0, tid_l0]; exact he

set_option maxRecDepth 100000 in
set_option maxHeartbeats 4000000 in
theorem tidy3 (S : Lat.St) (B g : Nat) (xs : Nat → Value) (bs : Nat → Nat) (w : World) (hb : S.b.x = 0) (hc : S.c.x = 0 ∧ S.c.y = 0) (o12 : 0 < S.c.z → Lat.Ok 2 S.b S.c) (o01 : 0 < S.b.y → Lat.Ok 1 S.a (Lat.tid 2 S.b S.c)) (o02 : 0 < S.c.z → Lat.Ok 2 (Lat.tid 1 S.a (Lat.tid 2 S.b S.c)) S.c) (h : AtS 3 w B g xs bs (rw3 S)) :
    Calls Try.prog 75 #[.int .i64 3, .slice (some ⟨g, 0, none⟩) 3 3] w fun e w' => e = .returned (.tuple #[]) ∧ AtS 3 w' B g xs bs (rw3 (Lat.red S.a S.b S.c)) ∧ Below B w w' := by
  have hg : Blk w g #[xs 0, xs 1, xs 2] 22 := h.blk
  have hB := h.base
  have hr0 := h.row 0 (by omega)
  have hr1 := h.row 1 (by omega)
  have hr2 := h.row 2 (by omega)
  have ra0 : rw3 S 0 = S.a := rfl
  have rn0 : rw3 (Lat.red S.a S.b S.c) 0 = (Lat.red S.a S.b S.c).a := rfl
  have ra1 : rw3 S 1 = S.b := rfl
  have rn1 : rw3 (Lat.red S.a S.b S.c) 1 = (Lat.red S.a S.b S.c).b := rfl
  have ra2 : rw3 S 2 = S.c := rfl
  have rn2 : rw3 (Lat.red S.a S.b S.c) 2 = (Lat.red S.a S.b S.c).c := rfl
  simp only [ra0, ra1, ra2] at hr0 hr1 hr2
  have ap01 := h.apart 0 1 (by omega) (by omega) (by omega)
  have ap02 := h.apart 0 2 (by omega) (by omega) (by omega)
  have ap12 := h.apart 1 2 (by omega) (by omega) (by omega)
  rw [red_tid]
  have pa : (Lat.tid 2 (Lat.tid 1 S.a (Lat.tid 2 S.b S.c)) S.c).at 0 = S.a.at 0 := by simp [Lat.tid, Lat.less, Lat.V.at0, hb, hc.1]
  have pb : (Lat.tid 2 S.b S.c).at 1 = S.b.at 1 := by simp [Lat.tid, Lat.less, Lat.V.at1, hc.2]
  have pc : S.c.at 2 = S.c.at 2 := rfl
  rcases hr0 with ⟨x0, z0⟩ | ⟨x0, p0, k0, q0, d0⟩
  ·
    rcases hr1 with ⟨x1, z1⟩ | ⟨x1, p1, k1, q1, d1⟩
    ·
      rcases hr2 with ⟨x2, z2⟩ | ⟨x2, p2, k2, q2, d2⟩
      ·
        rw [x0, x1, x2] at hg
        refine (tidy3_0 g g g  w hg ).mono ?_
        rintro e w' ⟨rfl, hU, hg'⟩
        refine ⟨rfl, ⟨?_, hB, fun c hcn => ?_, h.apart⟩, hU.below hB hB⟩
        · show Blk w' g #[xs 0, xs 1, xs 2] 22; rw [x0, x1, x2]; exact hg'
        · have hcs : c = 0 ∨ c = 1 ∨ c = 2 := by omega
          rcases hcs with rfl | rfl | rfl
          · refine Or.inl ⟨x0, ?_⟩
            show a3 _ = _; simp only [a3, b3, c3, z0, z1, z2, tid_r0, tid_l0]
          · refine Or.inl ⟨x1, ?_⟩
            show b3 _ = _; simp only [a3, b3, c3, z0, z1, z2, tid_r0, tid_l0]
          · refine Or.inl ⟨x2, ?_⟩
            show c3 _ = _; simp only [a3, b3, c3, z0, z1, z2, tid_r0, tid_l0]
      ·
        rw [x0, x1, x2] at hg
        refine (tidy3_4 g g (bs 2) g S.c w hg k2 d2 ).mono ?_
        rintro e w' ⟨rfl, hU, hg', e2⟩
        refine ⟨rfl, ⟨?_, hB, fun c hcn => ?_, h.apart⟩, hU.below hB hB⟩
        · show Blk w' g #[xs 0, xs 1, xs 2] 22; rw [x0, x1, x2]; exact hg'
        · have hcs : c = 0 ∨ c = 1 ∨ c = 2 := by omega
          rcases hcs with rfl | rfl | rfl
          · refine Or.inl ⟨x0, ?_⟩
            show a3 _ = _; simp only [a3, b3, c3, z0, z1, tid_r0, tid_l0]
          · refine Or.inl ⟨x1, ?_⟩
            show b3 _ = _; simp only [a3, b3, c3, z0, z1, tid_r0, tid_l0]
          · refine Or.inr ⟨x2, ?_, ?_, q2, d2⟩
            · exact pc ▸ p2
            · have he := e2; show Blk _ _ ((cutV 3 (c3 _)).map _).toArray _; simp only [a3, b3, c3, z0, z1, tid_r0, tid_l0]; exact he
    ·
      rcases hr2 with ⟨x2, z2⟩ | ⟨x2, p2, k2, q2, d2⟩
      ·
        rw [x0, x1, x2] at hg
        refine (tidy3_2 g (bs 1) g S.b w hg k1 d1 ).mono ?_
        rintro e w' ⟨rfl, hU, hg', e1⟩
        refine ⟨rfl, ⟨?_, hB, fun c hcn => ?_, h.apart⟩, hU.below hB q1⟩
        · show Blk w' g #[xs 0, xs 1, xs 2] 22; rw [x0, x1, x2]; exact hg'
        · have hcs : c = 0 ∨ c = 1 ∨ c = 2 := by omega
          rcases hcs with rfl | rfl | rfl
          · refine Or.inl ⟨x0, ?_⟩
            show a3 _ = _; simp only [a3, b3, c3, z0, z2, tid_r0, tid_l0]
          · refine Or.inr ⟨x1, ?_, ?_, q1, d1⟩
            · exact pb ▸ p1
            · have he := e1; show Blk _ _ ((cutV 3 (b3 _)).map _).toArray _; simp only [a3, b3, c3, z0, z2, tid_r0, tid_l0]; exact he
          · refine Or.inl ⟨x2, ?_⟩
            show c3 _ = _; simp only [a3, b3, c3, z0, z2, tid_r0, tid_l0]
      ·
        rw [x0, x1, x2] at hg
        refine (tidy3_6 g (bs 1) (bs 2) g S.b S.c w hg k1 d1 k2 d2 (ap12 (by rw [x1]; exact slice_ne_nil _ _) (by rw [x2]; exact slice_ne_nil _ _)) (by have t := o12 p2; simpa only [z0, tid_r0, tid_l0] using t)).mono ?_
        rintro e w' ⟨rfl, hU, hg', e1, e2⟩
        refine ⟨rfl, ⟨?_, hB, fun c hcn => ?_, h.apart⟩, hU.below hB q1⟩
        · show Blk w' g #[xs 0, xs 1, xs 2] 22; rw [x0, x1, x2]; exact hg'
        · have hcs : c = 0 ∨ c = 1 ∨ c = 2 := by omega
          rcases hcs with rfl | rfl | rfl
          · refine Or.inl ⟨x0, ?_⟩
            show a3 _ = _; simp only [a3, b3, c3, z0, tid_r0, tid_l0]
          · refine Or.inr ⟨x1, ?_, ?_, q1, d1⟩
            · exact pb ▸ p1
            · have he := e1; show Blk _ _ ((cutV 3 (b3 _)).map _).toArray _; simp only [a3, b3, c3, z0, tid_r0, tid_l0]; exact he
          · refine Or.inr ⟨x2, ?_, ?_, q2, d2⟩
            · exact pc ▸ p2
            · have he := e2; show Blk _ _ ((cutV 3 (c3 _)).map _).toArray _; simp only [a3, b3, c3, z0, tid_r0, tid_l0]; exact he
  ·
    rcases hr1 with ⟨x1, z1⟩ | ⟨x1, p1, k1, q1, d1⟩
    ·
      rcases hr2 with ⟨x2, z2⟩ | ⟨x2, p2, k2, q2, d2⟩
      ·
        rw [x0, x1, x2] at hg
        refine (tidy3_1 (bs 0) g g S.a w hg k0 d0 ).mono ?_
        rintro e w' ⟨rfl, hU, hg', e0⟩
        refine ⟨rfl, ⟨?_, hB, fun c hcn => ?_, h.apart⟩, hU.below q0 hB⟩
        · show Blk w' g #[xs 0, xs 1, xs 2] 22; rw [x0, x1, x2]; exact hg'
        · have hcs : c = 0 ∨ c = 1 ∨ c = 2 := by omega
          rcases hcs with rfl | rfl | rfl
          · refine Or.inr ⟨x0, ?_, ?_, q0, d0⟩
            · exact pa ▸ p0
            · have he := e0; show Blk _ _ ((cutV 3 (a3 _)).map _).toArray _; simp only [a3, b3, c3, z1, z2, tid_r0, tid_l0]; exact he
          · refine Or.inl ⟨x1, ?_⟩
            show b3 _ = _; simp only [a3, b3, c3, z1, z2, tid_r0, tid_l0]
          · refine Or.inl ⟨x2, ?_⟩
            show c3 _ = _; simp only [a3, b3, c3, z1, z2, tid_r0, tid_l0]
      ·
        rw [x0, x1, x2] at hg
        refine (tidy3_5 (bs 0) g (bs 2) g S.a S.c w hg k0 d0 k2 d2 (ap02 (by rw [x0]; exact slice_ne_nil _ _) (by rw [x2]; exact slice_ne_nil _ _)) (by have t := o02 p2; simpa only [z1, tid_r0, tid_l0] using t)).mono ?_
        rintro e w' ⟨rfl, hU, hg', e0, e2⟩
        refine ⟨rfl, ⟨?_, hB, fun c hcn => ?_, h.apart⟩, hU.below q0 hB⟩
        · show Blk w' g #[xs 0, xs 1, xs 2] 22; rw [x0, x1, x2]; exact hg'
        · have hcs : c = 0 ∨ c = 1 ∨ c = 2 := by omega
          rcases hcs with rfl | rfl | rfl
          · refine Or.inr ⟨x0, ?_, ?_, q0, d0⟩
            · exact pa ▸ p0
            · have he := e0; show Blk _ _ ((cutV 3 (a3 _)).map _).toArray _; simp only [a3, b3, c3, z1, tid_r0, tid_l0]; exact he
          · refine Or.inl ⟨x1, ?_⟩
            show b3 _ = _; simp only [a3, b3, c3, z1, tid_r0, tid_l0]
          · refine Or.inr ⟨x2, ?_, ?_, q2, d2⟩
            · exact pc ▸ p2
            · have he := e2; show Blk _ _ ((cutV 3 (c3 _)).map _).toArray _; simp only [a3, b3, c3, z1, tid_r0, tid_l0]; exact he
    ·
      rcases hr2 with ⟨x2, z2⟩ | ⟨x2, p2, k2, q2, d2⟩
      ·
        rw [x0, x1, x2] at hg
        refine (tidy3_3 (bs 0) (bs 1) g S.a S.b w hg k0 d0 k1 d1 (ap01 (by rw [x0]; exact slice_ne_nil _ _) (by rw [x1]; exact slice_ne_nil _ _)) (by have t := o01 p1; simpa only [z2, tid_r0, tid_l0] using t)).mono ?_
        rintro e w' ⟨rfl, hU, hg', e0, e1⟩
        refine ⟨rfl, ⟨?_, hB, fun c hcn => ?_, h.apart⟩, hU.below q0 q1⟩
        · show Blk w' g #[xs 0, xs 1, xs 2] 22; rw [x0, x1, x2]; exact hg'
        · have hcs : c = 0 ∨ c = 1 ∨ c = 2 := by omega
          rcases hcs with rfl | rfl | rfl
          · refine Or.inr ⟨x0, ?_, ?_, q0, d0⟩
            · exact pa ▸ p0
            · have he := e0; show Blk _ _ ((cutV 3 (a3 _)).map _).toArray _; simp only [a3, b3, c3, z2, tid_r0, tid_l0]; exact he
          · refine Or.inr ⟨x1, ?_, ?_, q1, d1⟩
            · exact pb ▸ p1
            · have he := e1; show Blk _ _ ((cutV 3 (b3 _)).map _).toArray _; simp only [a3, b3, c3, z2, tid_r0, tid_l0]; exact he
          · refine Or.inl ⟨x2, ?_⟩
            show c3 _ = _; simp only [a3, b3, c3, z2, tid_r0, tid_l0]
      ·
        rw [x0, x1, x2] at hg
        refine (tidy3_7 (bs 0) (bs 1) (bs 2) g S.a S.b S.c w hg k0 d0 k1 d1 k2 d2 (ap01 (by rw [x0]; exact slice_ne_nil _ _) (by rw [x1]; exact slice_ne_nil _ _)) (ap02 (by rw [x0]; exact slice_ne_nil _ _) (by rw [x2]; exact slice_ne_nil _ _)) (ap12 (by rw [x1]; exact slice_ne_nil _ _) (by rw [x2]; exact slice_ne_nil _ _)) (by have t := o12 p2; exact t) (by have t := o01 p1; exact t) (by have t := o02 p2; exact t)).mono ?_
        rintro e w' ⟨rfl, hU, hg', e0, e1, e2⟩
        refine ⟨rfl, ⟨?_, hB, fun c hcn => ?_, h.apart⟩, hU.below q0 q1⟩
        · show Blk w' g #[xs 0, xs 1, xs 2] 22; rw [x0, x1, x2]; exact hg'
        · have hcs : c = 0 ∨ c = 1 ∨ c = 2 := by omega
          rcases hcs with rfl | rfl | rfl
          · refine Or.inr ⟨x0, ?_, ?_, q0, d0⟩
            · exact pa ▸ p0
            · have he := e0; show Blk _ _ ((cutV 3 (a3 _)).map _).toArray _; simp only [a3, b3, c3, ]; exact he
          · refine Or.inr ⟨x1, ?_, ?_, q1, d1⟩
            · exact pb ▸ p1
            · have he := e1; show Blk _ _ ((cutV 3 (b3 _)).map _).toArray _; simp only [a3, b3, c3, ]; exact he
          · refine Or.inr ⟨x2, ?_, ?_, q2, d2⟩
            · exact pc ▸ p2
            · have he := e2; show Blk _ _ ((cutV 3 (c3 _)).map _).toArray _; simp only [a3, b3, c3, ]; exact he

end Go.Proofs.Ytdjicplcognddaa
