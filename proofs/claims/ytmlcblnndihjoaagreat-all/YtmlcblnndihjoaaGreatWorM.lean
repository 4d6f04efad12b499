import Derived.Test.YtmlcblnndihjoaaGreatWorF
set_option linter.unusedSimpArgs false
set_option linter.unusedVariables false
namespace Go.Proofs.YtmlcblnndihjoaaGreat
open Go.RowKit

theorem txt_eq (m : Nat) (T : Lat.St) : strOfNums (textN m (basisRows m T)) = txt m T := by unfold txt; rw [Int.toNat_natCast]

theorem rtextN_any (m : Nat) (T : Lat.St) (v : Value) (w : World) (hok : NodeOK m T) (hv : RowsAt w v (basisRows m T)) :
    Calls Tryz.prog 50 #[.int .i64 (m : Nat), v] w fun e w' => e = .returned (.string (txt m T)) ∧ Below w.heap.size w w' :=
  (rtext_any m v _ w hv (Fine.of hok.n1 hok.n3 hok.fits)).mono fun e w' ⟨he, hb⟩ => ⟨by rw [he, txt_eq], hb⟩

set_option maxRecDepth 100000 in
set_option maxHeartbeats 8000000 in
theorem shows_any (M : List Nat) (W m p q : Nat) (f : Bool) (g : LN) (w : World) (h : LAt M w m p g) (hx : g.x = some (q, f)) (kx : Blk w q (nodeC m g.now f) 133) (hok : NodeOK m g.now)
    (hW : w.cell? ⟨W, 0, none⟩ = some (.int .i64 (m : Nat))) :
    Calls Tryz.prog 68 #[.pointer (some ⟨W, 0, none⟩), .pointer (some ⟨p, 0, none⟩)] w fun e w' => e = .returned (.bool true) ∧ Below w.heap.size w w' := by
  have HSH := hide0 (fun w0 (k : Blk w0 q (nodeC m g.now f) 133) => show_any q m g.now f w0 k hok.n1 hok.n3 hok.fits)
  have HRT := hide0 (fun w0 (k : RowsAt w0 g.nv (basisRows m g.now)) => rtextN_any m g.now g.nv w0 hok k)
  obtain ⟨c0, c1, c2, c3, c4, c5⟩ := LN.six h
  have ex : g.xv = .pointer (some ⟨q, 0, none⟩) := by unfold LN.xv; rw [hx]; rfl
  rw [ex] at c0
  have HNW := hide0 h.nw.now
  have HKX := hide0 kx
  have hee := eqlB (txt m g.now)
  obtain ⟨na, nc, hnv⟩ := h.nw.now.slice
  clear h kx hok ex c1 c2 c3 c4
  generalize g.nv = gnv at *
  subst hnv
  generalize (basisRows m g.now).length = nl at *
  generalize hT : g.now = T at *
  go_enter Tryz.func68, Tryz.ntmps68
  go_upto_region 1 with fail
  refine wp_region_still_tail 8 (by kernel_rfl) (by kernel_rfl) ?_
  change wpStill _ _ (World.drew _) (fun a' => wpList _ _ _ _ a' (World.drew _)) _ _
  simp only [List.take_succ_cons, List.take_zero, List.drop_succ_cons, List.drop_zero]
  repeat still_step
  try refine wpStill_nil ?_
  have hRd : RowsAt w.drew (.slice na nl nc) (basisRows m T) := HNW.out.below (Below.refl _ w).drew
  go_wp2_with fail
  refine (HRT.out _ hRd).mono ?_
  rintro e w1 ⟨rfl, hb1⟩
  have hB1 : Below w.heap.size w w1 := (Below.refl _ w).drew.trans hb1
  have kx1 := HKX.out.below hB1 HKX.out.lt
  have c0' := cell_below hB1 c0
  have hs1 := hB1.size
  have HB1 := hide0 hB1
  clear hb1 hB1 c0 c5 hW hRd
  generalize txt m T = tx at *
  go_wp2_with fail
  refine (HSH.out _ kx1).mono ?_
  rintro e w2 ⟨rfl, hb2⟩
  have HB2 := hide0 (HB1.out.trans (hb2.mono hs1))
  clear hb2 kx1
  go_wp2
  go_ret
  exact ⟨rfl, HB2.out⟩

end Go.Proofs.YtmlcblnndihjoaaGreat

namespace Go.Proofs.YtmlcblnndihjoaaGreat
open Go.RowKit

/-- what a call made of a node's lattice, its slot and its disk -/
def StepT (m : Nat) (T R : Lat.St) (f f' : Bool) (ws : List (Nat × ByteArray)) : Prop := (ws = [] ∧ R = T ∧ f' = f) ∨ (R ≠ T ∧ ws = saveF f (txt m R) ∧ f' = !f)

structure CallOut (Out : Int → Lat.St → Prop) (m : Nat) (T R : Lat.St) (f f' : Bool) (q B : Nat) (w' : World) (l : Value) (c : Int) (ws : List (Nat × ByteArray)) : Prop where
  out : Out c R
  own : WOwn w' B l ws
  blk : Blk w' q (nodeC m R f') 133
  len : ws.length ≤ 8
  law : ∀ q ∈ ws, q.1 < 8 ∧ q.2.size = 8
  nil : c = 0 ∨ l = .slice none 0 0
  step : StepT m T R f f' ws
  okR : NodeOK m R

theorem CallOut.iff {Out : Int → Lat.St → Prop} {m : Nat} {T R : Lat.St} {f f' : Bool} {q B : Nat} {w' : World} {l : Value} {c : Int} {ws : List (Nat × ByteArray)} (h : CallOut Out m T R f f' q B w' l c ws) : R = T ↔ ws = [] := by
  rcases h.step with ⟨a, b, _⟩ | ⟨a, b, _⟩
  · exact ⟨fun _ => a, fun _ => b⟩
  · exact ⟨fun e => absurd e a, fun e => by rw [e] at b; cases b⟩

theorem call_out {Out : Int → Lat.St → Prop} {m : Nat} {T : Lat.St} {f : Bool} {q B : Nat} {w' : World} {e : Ending} (h : CallEnd Out m T f q B w' e) (hok : ∀ c R, Out c R → NodeOK m R) :
    ∃ l c R f' ws, e = .returned (.tuple #[l, .int .i64 c]) ∧ CallOut Out m T R f f' q B w' l c ws := by
  obtain ⟨c, R, ho, ⟨rfl, he, k⟩ | ⟨hne, rfl, ⟨out, he, hw⟩, k⟩⟩ := h
  · exact ⟨_, c, R, f, [], he, ho, World.ownsRow_nil _ _ _ _, k, by simp, by simp, Or.inr rfl, Or.inl ⟨rfl, rfl, rfl⟩, hok _ _ ho⟩
  · have hs : (txt m R).size ≤ 23 := by have := (hok _ _ ho).dec.size21; omega
    exact ⟨out, 0, R, !f, _, he, ho, hw, k, by simp [saveF], saveF_lawful f hs, Or.inl rfl, Or.inr ⟨hne, rfl, rfl⟩, hok _ _ ho⟩

/-- what holds of a node of the script, of a width that is one -/
structure LOK (m : Nat) (g : LN) : Prop where
  d8 : g.disk.length = 8
  o8 : g.old.length = 8
  wl : g.wrote.length ≤ 8
  wok : ∀ q ∈ g.wrote, q.1 < 8 ∧ q.2.size = 8
  wasOK : NodeOK m g.was
  nowOK : NodeOK m g.now
  run : ∀ q f, g.x = some (q, f) → Opens m g.disk g.now f ∧ ((g.wrote = [] ∧ g.was = g.now ∧ Opens m g.old g.now f) ∨ (g.wrote = saveF (!f) (txt m g.now) ∧ Opens m g.old g.was (!f)))
  stop : g.x = none → ∃ T f, Opens m g.disk T f ∧ (T = g.was ∨ T = g.now)

theorem LOK.call {m : Nat} {g : LN} {q : Nat} {f f' : Bool} {R : Lat.St} {ws : List (Nat × ByteArray)} {nv dv wv : Value} (h : LOK m g) (hx : g.x = some (q, f)) (hR : NodeOK m R) (hl : ws.length ≤ 8) (hlaw : ∀ q ∈ ws, q.1 < 8 ∧ q.2.size = 8) (hs : StepT m g.now R f f' ws) :
    LOK m { g.called ws R nv dv wv with x := some (q, f') } := by
  obtain ⟨ho, _⟩ := h.run q f hx
  refine ⟨?_, h.d8, hl, hlaw, h.nowOK, hR, ?_, fun e => by cases e⟩
  · show (putAll ws g.disk).length = 8
    rw [putAll_length]; exact h.d8
  · intro q' f'' e
    cases e
    rcases hs with ⟨rfl, rfl, rfl⟩ | ⟨hne, rfl, rfl⟩
    · exact ⟨ho, Or.inl ⟨rfl, rfl, ho⟩⟩
    · have hsz : (txt m R).size ≤ 23 := by have := hR.dec.size21; omega
      refine ⟨ho.all_put hsz hR.dec, Or.inr ⟨?_, ?_⟩⟩
      · show saveF f (txt m R) = saveF (! !f) (txt m R)
        rw [Bool.not_not]
      · show Opens m g.disk g.now (! !f)
        rw [Bool.not_not]; exact ho

theorem LAt.setx {M : List Nat} {w : World} {m p q : Nat} {f : Bool} {g : LN} (h : LAt M w m p g) (hx : ∃ f0, g.x = some (q, f0)) : LAt M w m p { g with x := some (q, f) } := by
  obtain ⟨f0, hx⟩ := hx
  refine ⟨?_, h.pM, h.dk, h.od, h.wr, h.wa, h.nw⟩
  have := h.blk
  have e : g.cells = ({ g with x := some (q, f) } : LN).cells := by unfold LN.cells LN.xv; rw [hx]; rfl
  rw [e] at this
  exact this

theorem WOwn.slice {w : World} {B : Nat} {v : Value} {ws : List (Nat × ByteArray)} (h : WOwn w B v ws) : ∃ a c, v = .slice a ws.length c := h.at.slice

theorem blk_ne {w : World} {a b : Nat} {cs ds : Array Value} {S T : TypeId} (h : Blk w a cs S) (k : Blk w b ds T) (hne : S ≠ T) : a ≠ b := fun e => by
  subst e
  unfold Blk at h k
  rw [h] at k
  injection k with k
  injection k with _ k
  exact hne k

end Go.Proofs.YtmlcblnndihjoaaGreat

namespace Go.Proofs.YtmlcblnndihjoaaGreat
open Go.RowKit

theorem nilW (w : World) : (binOp .eql 99 (.slice none 0 0) (.slice none 0 0)).run Tryz.prog w = .ok (.bool true) w := Lib.run_eql_slice_nil w _ _ none _ _ _ _ Tryz.underlying99

/-- what add, deliver leave -/
def CallPost (M : List Nat) (m p q : Nat) (w : World) (w' : World) : Prop :=
  ∃ g' f', g'.x = some (q, f') ∧ LAt M w' m p g' ∧ LOK m g' ∧ Blk w' q (nodeC m g'.now f') 133 ∧ Keeps [p, q] w w'

set_option maxRecDepth 100000 in
set_option maxHeartbeats 8000000 in
theorem deliver_any (M : List Nat) (W m p q : Nat) (f : Bool) (g : LN) (s : ByteArray) (w : World) (h : LAt M w m p g) (hx : g.x = some (q, f)) (kx : Blk w q (nodeC m g.now f) 133) (hok : LOK m g) (hM : ∀ b ∈ M, b < w.heap.size) (hqM : q ∈ M)
    (hW : w.cell? ⟨W, 0, none⟩ = some (.int .i64 (m : Nat))) (hWp : W ≠ p) (hWq : W ≠ q) :
    Calls Tryz.prog 69 #[.pointer (some ⟨W, 0, none⟩), .pointer (some ⟨p, 0, none⟩), .string s] w fun e w' => e = .returned (.bool true) ∧ CallPost M m p q w w' := by
  have hpq : p ≠ q := blk_ne h.blk kx (by decide)
  have HRC := hide0 (receive_any q m g.now f s w kx hok.nowOK)
  obtain ⟨c0, c1, c2, c3, c4, c5⟩ := LN.six h
  have ex : g.xv = .pointer (some ⟨q, 0, none⟩) := by unfold LN.xv; rw [hx]; rfl
  rw [ex] at c0
  have HH := hide0 h
  have HOK := hide0 hok
  have HM := hide0 hM
  have HX := hide0 hx
  have HQM := hide0 hqM
  have hplt := h.blk.lt
  have hqlt := kx.lt
  have hWlt := World.block_lt_of_cell? w _ hW
  have HKX := hide0 kx
  clear h kx hok hM hx hqM c1 c2 c3 c4 ex
  go_enter Tryz.func69, Tryz.ntmps69
  go_wp2_with fail
  refine HRC.out.mono ?_
  rintro e w1 ⟨hE, hK1⟩
  obtain ⟨l, c, R, f', ws, rfl, hC⟩ := call_out hE (fun c R h => h.ok HOK.out.nowOK)
  have A1 := HH.out.keep hK1 (fun b hb => by simp at hb; subst hb; exact Or.inl HQM.out) (by simp; exact hpq)
  have hW1 : w1.cell? ⟨W, 0, none⟩ = some (.int .i64 (m : Nat)) := by rw [World.cell?_of_block (w := w) (hK1.block W hWlt (by simp; exact hWq))]; exact hW
  have HC := hide0 hC
  have HK1 := hide0 hK1
  have hs1 := hK1.size
  obtain ⟨la, lc, rfl⟩ := hC.own.slice
  have HRR := hide0 (fun w0 (k : RowsAt w0 g.nv (basisRows m g.now)) => rreceived_any m g.now g.nv s w0 HOK.out.nowOK k)
  obtain ⟨na, nc, hnv⟩ := A1.nw.now.slice
  have d5 : w1.cell? ⟨p, 5, none⟩ = some g.nv := (LN.six A1).2.2.2.2.2
  have HNV := hide0 hnv
  have HA1 := hide0 A1
  rw [hnv] at d5 HRR
  generalize (basisRows m g.now).length = nl at *
  generalize hln : ws.length = ln at *
  have HLN := hide0 hln
  clear hE hC hK1 A1 hW c0 c5 hnv hln
  go_upto_region 2 with fail
  have hRN : RowsAt w1 (.slice na nl nc) (basisRows m g.now) := by have := HA1.out.nw.now; rw [HNV.out] at this; exact this
  have HRN := hide0 hRN
  clear hRN
  go_cut [9, 10] (fun u9 u10 wx => RefEnd (RecTo m g.now s) m g.now (.slice na nl nc) w1.heap.size wx (.returned (.tuple #[u9, u10])) ∧ Below w1.heap.size w1 wx)
  case first =>
    go_region_held3 (fun w' => w'.cell? ⟨W, 0, none⟩ = some (.int .i64 (m : Nat)) ∧ w'.cell? ⟨p, 5, none⟩ = some (.slice na nl nc))
      (go_keep)
      ((go_at_call 89; refine (HRR.out _ (HRN.out.below (Below.refl _ w1).drew)).mono ?_; rintro e w2 ⟨hE, hb2⟩
        have hB2 : Below w1.heap.size w1 w2 := (Below.refl _ w1).drew.trans hb2
        have g1 := cell_below hB2 hW1
        have g2 := cell_below hB2 d5
        have hE2 : RefEnd (RecTo m g.now s) m g.now (.slice na nl nc) w1.heap.size w2 e := hE
        obtain ⟨l2, c2, rfl⟩ := hE2.tuple))
    all_goals (go_wp2_with fail)
    all_goals go_meet
    all_goals exact ⟨hE2, hB2⟩
  case rest =>
  rename World => wC
  obtain ⟨hE2, hB2⟩ := hcut
  obtain ⟨c', R', out, ho, he, hrows⟩ := hE2
  simp only [Ending.returned.injEq, Value.tuple.injEq, Array.mk.injEq, List.cons.injEq, and_true] at he
  obtain ⟨e9, e10⟩ := he
  have e9' := e9.symm
  subst e9' e10
  obtain ⟨hc', hR'⟩ := HC.out.out.one ho
  subst hc' hR'
  have A2 := HA1.out.step hB2
  have hs2 := hB2.size
  have hlb : ∀ b ∈ ownB (.slice la ln lc), w.heap.size ≤ b ∧ b < w1.heap.size := fun b hb => HC.out.own.lt b (by simpa [ownB] using hb)
  have HLB := hide0 hlb
  have hMM : ∀ b ∈ M ++ ownB (.slice la ln lc), b ∈ M ∨ w.heap.size ≤ b := fun b hb => by
    rw [List.mem_append] at hb
    rcases hb with hb | hb
    · exact Or.inl hb
    · exact Or.inr (HLB.out b hb).1
  have hKq : Keeps [q] w wC := HK1.out.step hB2
  have A3 : LAt (M ++ ownB (.slice la ln lc)) wC m p g := (HH.out.less hMM (List.mem_append_left _ HH.out.pM)).keep hKq (fun b hb => by
    simp at hb; subst hb; exact Or.inl (List.mem_append_left _ HQM.out)) (by simp; exact hpq)
  have hM3 : ∀ b ∈ M ++ ownB (.slice la ln lc), b < w1.heap.size := fun b hb => by
    rw [List.mem_append] at hb
    rcases hb with hb | hb
    · have := HM.out b hb; omega
    · exact (HLB.out b hb).2
  have hW3 : WOwn wC w.heap.size (.slice la ln lc) ws := HC.out.own.keep (keeps_of hB2 []) (fun b _ => by simp)
  have hN3 : Held (M ++ ownB (.slice la ln lc)) wC (fun w => RowsAt w out (basisRows m R)) := by
    rcases hrows with ⟨hr, ho⟩ | hf
    · have := A3.nw
      rw [HNV.out] at this
      rw [hr, ho]; exact this
    · exact hf.held (fun b hb => Or.inl (hM3 b hb))
  have HCA := hide0 (called_any (M ++ ownB (.slice la ln lc)) (.pointer (some ⟨W, 0, none⟩)) (.slice la ln lc) out m p w.heap.size g ws R wC A3 (fun b hb => by have := hM3 b hb; omega) HOK.out.d8 HC.out.len HC.out.law hW3 (fun lb hb => ⟨List.mem_append_right _ (by simpa [ownB] using hb), fun e => by
      have := (HLB.out lb (by simpa [ownB] using hb)).1
      subst e; omega⟩) hN3 HOK.out.nowOK HC.out.okR HC.out.iff)
  obtain ⟨oa, oc, rfl⟩ := hN3.now.slice
  generalize (basisRows m R).length = rl at *
  have HKQ := hide0 hKq
  clear A2 A3 hM3 hW3 hN3 hrows ho hMM hlb hKq d5 hW1
  go_wp2_with fail
  refine HCA.out.mono ?_
  rintro e w4 ⟨rfl, ⟨dv', wv', A4⟩, hK4⟩
  have hcc : (c == c) = true := by simp
  have HPOST : Hid (CallPost M m p q w w4) := by
    refine ⟨{ g.called ws R (.slice oa rl oc) dv' wv' with x := some (q, f') }, f', rfl, ?_, HOK.out.call HX.out HC.out.okR HC.out.len HC.out.law HC.out.step, ?_, ?_⟩
    · exact (A4.sub (fun b hb => List.mem_append_left _ hb) HH.out.pM).setx ⟨f, HX.out⟩
    · show Blk w4 q (nodeC m R f') _
      refine hK4.blk (HC.out.blk.below hB2 HC.out.blk.lt) ?_
      rw [List.mem_cons]
      rintro (e | e)
      · exact hpq e.symm
      · have := (HLB.out q e).1; omega
    · have k1 : Keeps ([p, q] ++ ownB (.slice la ln lc)) w wC := HKQ.out.mono (fun b hb => by simp at hb; simp [hb])
      have k2 : Keeps ([p, q] ++ ownB (.slice la ln lc)) wC w4 := hK4.mono (fun b hb => by
        rw [List.mem_cons] at hb
        rcases hb with rfl | hb
        · simp
        · exact List.mem_append_right _ hb)
      exact (k1.trans k2).less (fun b hb => by
        rw [List.mem_append] at hb
        rcases hb with hb | hb
        · exact Or.inl hb
        · exact Or.inr (HLB.out b hb).1)
  clear A4 hK4
  rcases HC.out.nil with hc0 | hl0
  · subst hc0
    go_wp2
    go_ret
    exact ⟨rfl, HPOST.out⟩
  · by_cases hc0 : c = 0
    · subst hc0
      clear hl0
      go_wp2
      go_ret
      exact ⟨rfl, HPOST.out⟩
    · have hc1 : (c == 0) = false := by simpa using hc0
      have hsn := nilW
      simp only [Value.slice.injEq] at hl0
      obtain ⟨rfl, rfl, rfl⟩ := hl0
      go_wp2
      go_ret
      exact ⟨rfl, HPOST.out⟩

end Go.Proofs.YtmlcblnndihjoaaGreat

namespace Go.Proofs.YtmlcblnndihjoaaGreat
open Go.RowKit

set_option maxRecDepth 100000 in
set_option maxHeartbeats 8000000 in
theorem nadd_any (M : List Nat) (W m p q : Nat) (f : Bool) (g : LN) (vv : Value) (zs : List Int) (w : World) (h : LAt M w m p g) (hx : g.x = some (q, f)) (kx : Blk w q (nodeC m g.now f) 133) (hok : LOK m g) (hM : ∀ b ∈ M, b < w.heap.size) (hqM : q ∈ M)
    (hW : w.cell? ⟨W, 0, none⟩ = some (.int .i64 (m : Nat))) (hW2 : w.cell? ⟨W, 2, none⟩ = some vv) (hV : Held [q] w (fun w => IntsAt w vv zs)) (hzl : zs.length ≤ 1073741824) (hWp : W ≠ p) (hWq : W ≠ q) :
    Calls Tryz.prog 66 #[.pointer (some ⟨W, 0, none⟩), .pointer (some ⟨p, 0, none⟩)] w fun e w' => e = .returned (.bool true) ∧ CallPost M m p q w w' := by
  have hpq : p ≠ q := blk_ne h.blk kx (by decide)
  have HLE := hide0 (lent_any vv zs w hV.now hzl)
  obtain ⟨c0, c1, c2, c3, c4, c5⟩ := LN.six h
  have ex : g.xv = .pointer (some ⟨q, 0, none⟩) := by unfold LN.xv; rw [hx]; rfl
  rw [ex] at c0
  have HH := hide0 h
  have HOK := hide0 hok
  have HM := hide0 hM
  have HX := hide0 hx
  have HQM := hide0 hqM
  have HV := hide0 hV
  have hplt := h.blk.lt
  have hqlt := kx.lt
  have hWlt := World.block_lt_of_cell? w _ hW
  have HKX := hide0 kx
  have HZL := hide0 hzl
  obtain ⟨va, vc, rfl⟩ := hV.now.slice
  clear h kx hok hM hx hqM c1 c2 c3 c4 c5 ex hV
  generalize hzn : zs.length = zn at *
  have HZN := hide0 hzn
  clear hzn
  go_enter Tryz.func66, Tryz.ntmps66
  go_wp2_with fail
  refine HLE.out.mono ?_
  rintro e w0 ⟨⟨rfl, hLent⟩, hb0⟩
  have hs0 := hb0.size
  have hu0 := hLent.blk.lt
  have kx0 := HKX.out.below hb0 hqlt
  have c0' := cell_below hb0 c0
  have HAD := hide0 (add_any q m g.now f (.slice (some ⟨w.heap.size, 0, none⟩) zn (zn + 1)) zs w0 kx0 HOK.out.nowOK (by have := hLent.ints; rw [HZN.out] at this; exact this))
  have HL0 := hide0 hLent
  have HB0 := hide0 hb0
  have hW0 := cell_below hb0 hW
  have hW20 := cell_below hb0 hW2
  clear hLent hb0 kx0 c0 hW hW2
  go_wp2_with fail
  refine HAD.out.mono ?_
  rintro e w1 ⟨hE, hK1⟩
  obtain ⟨l, c, R, f', ws, rfl, hC⟩ := call_out hE (fun c R h => h.ok HOK.out.nowOK)
  have hs1 := hK1.size
  have hW1 : w1.cell? ⟨W, 0, none⟩ = some (.int .i64 (m : Nat)) := by rw [World.cell?_of_block (w := w0) (hK1.block W (by omega) (by simp; exact hWq))]; exact hW0
  have hW21 : w1.cell? ⟨W, 2, none⟩ = some (.slice va zn vc) := by rw [World.cell?_of_block (w := w0) (hK1.block W (by omega) (by simp; exact hWq))]; exact hW20
  have kL1 : Lent w1 w.heap.size zs := ⟨hK1.blk HL0.out.blk (by simp; omega)⟩
  have hKq1 : Keeps [q] w w1 := (keeps_of HB0.out [q]).trans hK1
  have hVI : IntsAt w1 (.slice va zn vc) zs := (HV.out.keep hKq1).now
  have HRE := hide0 (returned_any (.slice va zn vc) w.heap.size zs w1 kL1 hVI (by rw [HZN.out]; exact HZL.out))
  rw [HZN.out] at HRE
  have HC := hide0 hC
  have HK1 := hide0 hKq1
  obtain ⟨la, lc, rfl⟩ := hC.own.slice
  generalize hln : ws.length = ln at *
  have HLN := hide0 hln
  have HKL1 := hide0 kL1
  clear hE hC hK1 hKq1 hln hVI kL1 c0' hW0 hW20
  go_wp2_with fail
  refine HRE.out.mono ?_
  rintro e w2 ⟨rfl, hb2⟩
  have hs2 := hb2.size
  have HKL2 := hide0 (HKL1.out.blk.below hb2 HKL1.out.blk.lt)
  have HK2 := hide0 (HK1.out.step hb2)
  have hW2' := cell_below hb2 hW1
  have hW22 := cell_below hb2 hW21
  have HB2 := hide0 hb2
  clear hb2 hW1 hW21
  go_wp2
  go_loopg [9] (zn) (fun mm i wr => ∃ k : Nat, i = .int .i64 k ∧ k + mm = zn ∧ Keeps [w.heap.size] w2 wr ∧ (∃ cur, Blk wr w.heap.size cur 3 ∧ cur.size = zn + 1))
  case atStart => exact ⟨0, rfl, by omega, Keeps.refl _ _, ⟨_, HKL2.out, by simp [HZN.out]⟩⟩
  case round =>
  obtain ⟨k, rfl, hk, hQ, ⟨cur, kc, hcs⟩⟩ := hrel
  have HQ := hide0 hQ
  by_cases hlt : k < zn
  · have hlt' : (k : Int) < (zn : Int) := by omega
    have g1 : wr.cell? ⟨w.heap.size, k, none⟩ = some (cur[k]'(by omega)) := (kc.cell _).trans (Array.getElem?_eq_getElem _)
    have q1 := kc.frozen k
    have HKC := hide0 kc
    generalize cur[k]'_ = y1 at *
    clear hQ kc
    go_wp2
    go_roundg (gk - 1)
    case measure => omega
    case rel => exact ⟨k + 1, by go_num, by omega, HQ.out.set (p := ⟨w.heap.size, k, none⟩) (Or.inl (by simp)) _, ⟨_, HKC.out.set _ _, by simp [hcs]⟩⟩
  have hd : decide ((k : Int) < (zn : Int)) = false := by simp; omega
  have hsr := hQ.size
  have hKr : Keeps [q] w wr := HK2.out.fresh hQ (Nat.le_refl _)
  have hW1 : wr.cell? ⟨W, 0, none⟩ = some (.int .i64 (m : Nat)) := by rw [World.cell?_of_block (w := w2) (hQ.block W (by omega) (by simp; omega))]; exact hW2'
  have hW21 : wr.cell? ⟨W, 2, none⟩ = some (.slice va zn vc) := by rw [World.cell?_of_block (w := w2) (hQ.block W (by omega) (by simp; omega))]; exact hW22
  have A1 := HH.out.keep hKr (fun b hb => by simp at hb; subst hb; exact Or.inl HQM.out) (by simp; exact hpq)
  have hVI : IntsAt wr (.slice va zn vc) zs := (HV.out.keep hKr).now
  have HVI := hide0 hVI
  have HRR := hide0 (fun w0 (k : RowsAt w0 g.nv (basisRows m g.now)) (kv : IntsAt w0 (.slice va zn vc) zs) => radded_any m g.now g.nv (.slice va zn vc) zs w0 HOK.out.nowOK k kv)
  obtain ⟨na, nc, hnv⟩ := A1.nw.now.slice
  have d5 : wr.cell? ⟨p, 5, none⟩ = some g.nv := (LN.six A1).2.2.2.2.2
  have HNV := hide0 hnv
  have HA1 := hide0 A1
  rw [hnv] at d5 HRR
  generalize (basisRows m g.now).length = nl at *
  have HKR := hide0 hKr
  clear hVI hKr A1 hQ kc hcs hnv hW2' hW22 HL0 HAD HLE HRE
  go_upto_region 8 with fail
  have hRN : RowsAt wr (.slice na nl nc) (basisRows m g.now) := by have := HA1.out.nw.now; rw [HNV.out] at this; exact this
  have HRN := hide0 hRN
  clear hRN
  go_cut [10, 11] (fun u9 u10 wx => RefEnd (AddTo m g.now zs) m g.now (.slice na nl nc) wr.heap.size wx (.returned (.tuple #[u9, u10])) ∧ Below wr.heap.size wr wx)
  case first =>
    go_region_held3 (fun w' => w'.cell? ⟨W, 0, none⟩ = some (.int .i64 (m : Nat)) ∧ w'.cell? ⟨p, 5, none⟩ = some (.slice na nl nc) ∧ w'.cell? ⟨W, 2, none⟩ = some (.slice va zn vc))
      (go_keep)
      ((go_at_call 86; refine (HRR.out _ (HRN.out.below (Below.refl _ wr).drew) (HVI.out.below (Below.refl _ wr).drew)).mono ?_; rintro e w5 ⟨hE, hb5⟩
        have hB5 : Below wr.heap.size wr w5 := (Below.refl _ wr).drew.trans hb5
        have g1 := cell_below hB5 hW1
        have g2 := cell_below hB5 d5
        have g3 := cell_below hB5 hW21
        have hE2 : RefEnd (AddTo m g.now zs) m g.now (.slice na nl nc) wr.heap.size w5 e := hE
        obtain ⟨l2, c2, rfl⟩ := hE2.tuple))
    all_goals (go_wp2_with fail)
    all_goals go_meet
    all_goals exact ⟨hE2, hB5⟩
  case rest =>
  rename World => wC
  obtain ⟨hE2, hB2⟩ := hcut
  obtain ⟨c', R', out, ho, he, hrows⟩ := hE2
  simp only [Ending.returned.injEq, Value.tuple.injEq, Array.mk.injEq, List.cons.injEq, and_true] at he
  obtain ⟨e9, e10⟩ := he
  have e9' := e9.symm
  subst e9' e10
  obtain ⟨hc', hR'⟩ := HC.out.out.one ho
  subst hc' hR'
  have hs2 := hB2.size
  have hlb : ∀ b ∈ ownB (.slice la ln lc), w0.heap.size ≤ b ∧ b < w1.heap.size := fun b hb => HC.out.own.lt b (by simpa [ownB] using hb)
  have HLB := hide0 hlb
  have hMM : ∀ b ∈ M ++ ownB (.slice la ln lc), b ∈ M ∨ w.heap.size ≤ b := fun b hb => by
    rw [List.mem_append] at hb
    rcases hb with hb | hb
    · exact Or.inl hb
    · exact Or.inr (by have := (HLB.out b hb).1; omega)
  have hKq : Keeps [q] w wC := HKR.out.step hB2
  have A3 : LAt (M ++ ownB (.slice la ln lc)) wC m p g := (HH.out.less hMM (List.mem_append_left _ HH.out.pM)).keep hKq (fun b hb => by
    simp at hb; subst hb; exact Or.inl (List.mem_append_left _ HQM.out)) (by simp; exact hpq)
  have hM3 : ∀ b ∈ M ++ ownB (.slice la ln lc), b < wr.heap.size := fun b hb => by
    rw [List.mem_append] at hb
    rcases hb with hb | hb
    · have := HM.out b hb; omega
    · have := (HLB.out b hb).2; omega
  have hW3 : WOwn wC w0.heap.size (.slice la ln lc) ws := ((HC.out.own.keep (keeps_of HB2.out []) (fun b _ => by simp)).keep HQ.out (fun b hb e => by
      simp at e; subst e
      have := (HLB.out _ (by simpa [ownB] using hb)).1
      omega)).keep (keeps_of hB2 []) (fun b _ => by simp)
  have hN3 : Held (M ++ ownB (.slice la ln lc)) wC (fun w => RowsAt w out (basisRows m R)) := by
    rcases hrows with ⟨hr, ho⟩ | hf
    · have := A3.nw
      rw [HNV.out] at this
      rw [hr, ho]; exact this
    · exact hf.held (fun b hb => Or.inl (hM3 b hb))
  have HCA := hide0 (called_any (M ++ ownB (.slice la ln lc)) (.pointer (some ⟨W, 0, none⟩)) (.slice la ln lc) out m p w0.heap.size g ws R wC A3 (fun b hb => by have := hM3 b hb; omega) HOK.out.d8 HC.out.len HC.out.law hW3 (fun lb hb => ⟨List.mem_append_right _ (by simpa [ownB] using hb), fun e => by
      have := (HLB.out lb (by simpa [ownB] using hb)).1
      subst e; omega⟩) hN3 HOK.out.nowOK HC.out.okR HC.out.iff)
  obtain ⟨oa, oc, rfl⟩ := hN3.now.slice
  generalize (basisRows m R).length = rl at *
  have HKQ := hide0 hKq
  clear A3 hM3 hW3 hN3 hrows ho hMM hlb hKq d5 hW1 hW21
  go_wp2_with fail
  refine HCA.out.mono ?_
  rintro e w4 ⟨rfl, ⟨dv', wv', A4⟩, hK4⟩
  have hcc : (c == c) = true := by simp
  have HPOST : Hid (CallPost M m p q w w4) := by
    refine ⟨{ g.called ws R (.slice oa rl oc) dv' wv' with x := some (q, f') }, f', rfl, ?_, HOK.out.call HX.out HC.out.okR HC.out.len HC.out.law HC.out.step, ?_, ?_⟩
    · exact (A4.sub (fun b hb => List.mem_append_left _ hb) HH.out.pM).setx ⟨f, HX.out⟩
    · show Blk w4 q (nodeC m R f') _
      have kq2 := HC.out.blk.below HB2.out HC.out.blk.lt
      have kq3 := HQ.out.blk kq2 (by simp; omega)
      refine hK4.blk (kq3.below hB2 kq3.lt) ?_
      rw [List.mem_cons]
      rintro (e | e)
      · exact hpq e.symm
      · have := (HLB.out q e).1; omega
    · have k1 : Keeps ([p, q] ++ ownB (.slice la ln lc)) w wC := HKQ.out.mono (fun b hb => by simp at hb; simp [hb])
      have k2 : Keeps ([p, q] ++ ownB (.slice la ln lc)) wC w4 := hK4.mono (fun b hb => by
        rw [List.mem_cons] at hb
        rcases hb with rfl | hb
        · simp
        · exact List.mem_append_right _ hb)
      exact (k1.trans k2).less (fun b hb => by
        rw [List.mem_append] at hb
        rcases hb with hb | hb
        · exact Or.inl hb
        · exact Or.inr (by have := (HLB.out b hb).1; omega))
  clear A4 hK4
  rcases HC.out.nil with hc0 | hl0
  · subst hc0
    go_wp2
    go_ret
    exact ⟨rfl, HPOST.out⟩
  · by_cases hc0 : c = 0
    · subst hc0
      clear hl0
      go_wp2
      go_ret
      exact ⟨rfl, HPOST.out⟩
    · have hc1 : (c == 0) = false := by simpa using hc0
      have hsn := nilW
      simp only [Value.slice.injEq] at hl0
      obtain ⟨rfl, rfl, rfl⟩ := hl0
      go_wp2
      go_ret
      exact ⟨rfl, HPOST.out⟩

end Go.Proofs.YtmlcblnndihjoaaGreat

namespace Go.Proofs.YtmlcblnndihjoaaGreat
open Go.RowKit

theorem saveF_length (f : Bool) (t : ByteArray) : (saveF f t).length = 4 := rfl

theorem LOK.cut {m : Nat} {g g' : LN} {q : Nat} {f : Bool} {K : Int} (h : LOK m g) (hx : g.x = some (q, f)) (ex : g'.x = none) (ed : g'.disk = putAll (g.wrote.take K.toNat) g.old) (eo : g'.old = g'.disk) (ew : g'.wrote = [])
    (en : g'.now = if K ≤ 0 then g.was else g.now) (ea : g'.was = if (g.wrote.length : Int) ≤ K then g'.now else g.was) : LOK m g' := by
  have hd : g'.disk.length = 8 := by rw [ed, putAll_length]; exact h.o8
  have hn : NodeOK m g'.now := by rw [en]; split; exact h.wasOK; exact h.nowOK
  refine ⟨hd, by rw [eo]; exact hd, by rw [ew]; simp, by rw [ew]; simp, by rw [ea]; split; exact hn; exact h.wasOK, hn, (fun q f e => by rw [ex] at e; cases e), fun _ => ?_⟩
  obtain ⟨ho, ⟨hw, hwn, hoo⟩ | ⟨hw, hoo⟩⟩ := h.run q f hx
  · refine ⟨g.now, f, ?_, Or.inr ?_⟩
    · rw [ed, hw]; simpa [putAll] using hoo
    · rw [en]; split
      · exact hwn.symm
      · rfl
  · have hsz : (txt m g.now).size ≤ 23 := by have := h.nowOK.dec.size21; omega
    by_cases h4 : K.toNat < 4
    · refine ⟨g.was, !f, ?_, ?_⟩
      · rw [ed, hw]; exact hoo.some_put hsz h4
      · left
        rw [ea]
        have : ¬ ((g.wrote.length : Int) ≤ K) := by rw [hw, saveF_length]; omega
        rw [if_neg this]
    · refine ⟨g.now, ! !f, ?_, Or.inr ?_⟩
      · have : (saveF (!f) (txt m g.now)).take K.toNat = saveF (!f) (txt m g.now) := List.take_of_length_le (by rw [saveF_length]; omega)
        rw [ed, hw, this]; exact hoo.all_put hsz h.nowOK.dec
      · rw [en, if_neg (by omega)]

/-- the node that was cut -/
def LN.cutN (g : LN) (K : Int) (d : Value) : LN :=
  { x := none, dv := d, ov := d, wv := .slice none 0 0, av := if (g.wrote.length : Int) ≤ K then (if K ≤ 0 then g.av else g.nv) else g.av, nv := if K ≤ 0 then g.av else g.nv, disk := putAll (g.wrote.take K.toNat) g.old, old := putAll (g.wrote.take K.toNat) g.old, wrote := [],
    was := if (g.wrote.length : Int) ≤ K then (if K ≤ 0 then g.was else g.now) else g.was, now := if K ≤ 0 then g.was else g.now }

theorem cut_end {M : List Nat} {m p q : Nat} {f : Bool} {g : LN} {K : Int} {w w' : World} {gd : Nat} (h : LAt M w m p g) (hx : g.x = some (q, f)) (hok : LOK m g) (hM : ∀ b ∈ M, b < w.heap.size)
    (hf : Held M w' (fun w9 => StrsAt w9 (.slice (some ⟨gd, 0, none⟩) 8 8) (putAll (g.wrote.take K.toNat) g.old))) (k : Keeps [p] w w') (hb : Blk w' p (g.cutN K (.slice (some ⟨gd, 0, none⟩) 8 8)).cells 101) :
    ∃ g', g'.x = none ∧ LAt M w' m p g' ∧ LOK m g' ∧ Keeps [p] w w' := by
  have kM : Keeps M w w' := k.mono (fun b hb => by simp at hb; subst hb; exact h.pM)
  have hwas : Held M w' (fun w => RowsAt w g.av (basisRows m g.was)) := h.wa.keep kM
  have hnow : Held M w' (fun w => RowsAt w g.nv (basisRows m g.now)) := h.nw.keep kM
  refine ⟨g.cutN K (.slice (some ⟨gd, 0, none⟩) 8 8), rfl, ⟨hb, h.pM, hf, hf, Held.pure (fun w => writesAt_nil w _ _), ?_, ?_⟩, hok.cut hx rfl rfl rfl rfl rfl rfl, k⟩
  · unfold LN.cutN; dsimp only
    by_cases h1 : (g.wrote.length : Int) ≤ K
    · rw [if_pos h1, if_pos h1]
      by_cases h2 : K ≤ 0
      · rw [if_pos h2, if_pos h2]; exact hwas
      · rw [if_neg h2, if_neg h2]; exact hnow
    · rw [if_neg h1, if_neg h1]; exact hwas
  · unfold LN.cutN; dsimp only
    by_cases h2 : K ≤ 0
    · rw [if_pos h2, if_pos h2]; exact hwas
    · rw [if_neg h2, if_neg h2]; exact hnow

set_option maxRecDepth 100000 in
set_option maxHeartbeats 8000000 in
theorem cut_any (M : List Nat) (pw : Value) (m p q : Nat) (f : Bool) (g : LN) (K : Int) (w : World) (h : LAt M w m p g) (hx : g.x = some (q, f)) (hok : LOK m g) (hM : ∀ b ∈ M, b < w.heap.size) :
    Calls Tryz.prog 70 #[pw, .pointer (some ⟨p, 0, none⟩), .int .i64 K] w fun e w' => (∃ v, e = .returned v) ∧ ∃ g', g'.x = none ∧ LAt M w' m p g' ∧ LOK m g' ∧ Keeps [p] w w' := by
  have HWR := hide0 (fun w0 (ha : StrsAt w0 g.ov g.old) (hb : WritesAt w0 g.wv g.wrote) => written_any g.ov g.wv g.old g.wrote K w0 ha hb hok.o8 hok.wl hok.wok)
  obtain ⟨c0, c1, c2, c3, c4, c5⟩ := LN.six h
  have HH := hide0 h
  have HOK := hide0 hok
  have HM := hide0 hM
  have HX := hide0 hx
  obtain ⟨oa, oc, hov⟩ := h.od.now.slice
  obtain ⟨wa, wc, hwv⟩ := h.wr.now.slice
  obtain ⟨aa, ac, hav⟩ := h.wa.now.slice
  obtain ⟨na, nc, hnv⟩ := h.nw.now.slice
  have HOV := hide0 hov
  have HWV := hide0 hwv
  have HAV := hide0 hav
  have HNV := hide0 hnv
  rw [hov] at c2 HWR
  rw [hwv] at c3 HWR
  rw [hav] at c4
  rw [hnv] at c5
  have hl8 : (putAll (g.wrote.take K.toNat) g.old).length = 8 := by rw [putAll_length]; exact hok.o8
  have HL8 := hide0 hl8
  have hplt := h.blk.lt
  have HSO : Hid (StrsAt w (.slice oa g.old.length oc) g.old) := by have := h.od.now; rw [hov] at this; exact this
  have HSW : Hid (WritesAt w (.slice wa g.wrote.length wc) g.wrote) := by have := h.wr.now; rw [hwv] at this; exact this
  have HK0 : Hid (Blk w p #[g.xv, g.dv, .slice oa g.old.length oc, .slice wa g.wrote.length wc, .slice aa (basisRows m g.was).length ac, .slice na (basisRows m g.now).length nc] 101) := by
    have := h.blk; unfold LN.cells at this; rw [hov, hwv, hav, hnv] at this; exact this
  clear h hok hM hx hov hwv hav hnv hl8
  generalize hwl : g.wrote.length = wl at *
  generalize g.old.length = ol at *
  generalize (basisRows m g.was).length = al at *
  generalize (basisRows m g.now).length = nl at *
  go_enter Tryz.func70, Tryz.ntmps70
  go_upto_region 0 with fail
  go_cut [] (fun wx => ∃ gd, Keeps [p] w wx ∧ Fresh w.heap.size wx (fun w9 => StrsAt w9 (.slice (some ⟨gd, 0, none⟩) 8 8) (putAll (g.wrote.take K.toNat) g.old)) ∧ Blk wx p #[g.xv, .slice (some ⟨gd, 0, none⟩) 8 8, .slice oa ol oc, .slice wa wl wc, .slice aa al ac, .slice na nl nc] 101)
  case first =>
    go_region_held3 (fun w' => w'.cell? ⟨p, 2, none⟩ = some (.slice oa ol oc) ∧ w'.cell? ⟨p, 3, none⟩ = some (.slice wa wl wc))
      (go_keep)
      ((go_at_call 84; refine (HWR.out _ (HSO.out.below (Below.refl _ w).drew) (HSW.out.below (Below.refl _ w).drew)).mono ?_; rintro e w2 ⟨⟨gd, rfl, hgd, kgd⟩, hb2⟩
        rw [HL8.out]
        have hB2 : Below w.heap.size w w2 := (Below.refl _ w).drew.trans hb2
        have g1 := cell_below hB2 c2
        have g2 := cell_below hB2 c3
        have g3 := cell_below hB2 c1
        have k2 := HK0.out.below hB2 HK0.out.lt
        have f1 := k2.frozen 1
        have g4 : (w2.setCell ⟨p, 1, none⟩ (.slice (some ⟨gd, 0, none⟩) 8 8)).cell? ⟨p, 2, none⟩ = some (.slice oa ol oc) := (k2.set 1 _).cell 2
        have g5 : (w2.setCell ⟨p, 1, none⟩ (.slice (some ⟨gd, 0, none⟩) 8 8)).cell? ⟨p, 3, none⟩ = some (.slice wa wl wc) := (k2.set 1 _).cell 3))
    all_goals (go_wp2_with fail)
    all_goals go_meet
    all_goals (
      refine ⟨gd, (keeps_of hB2 [p]).set (p := ⟨p, 1, none⟩) (Or.inl (by simp)) _, ?_, ?_⟩
      · have hf : Fresh w.heap.size (w2.setCell ⟨p, 1, none⟩ (.slice (some ⟨gd, 0, none⟩) 8 8)) (fun w9 => Blk w9 gd ((putAll (g.wrote.take K.toNat) g.old).map Value.string).toArray 9) := blk_fresh (kgd.other (a := ⟨p, 1, none⟩) (by have : w.heap.size ≤ gd := hgd; simp; omega) _) hgd
        have h2 := hf.imp (fun w9 k => strs_blk (cap := 8) k)
        rw [HL8.out] at h2
        exact h2
      · have := k2.set 1 (.slice (some ⟨gd, 0, none⟩) 8 8)
        simpa using this)
  case rest =>
  rename World => wC
  obtain ⟨gd, hQ, hF, kC⟩ := hcut
  have HQ := hide0 hQ
  have HF := hide0 hF
  have HKC := hide0 kC
  have HMM : Hid (∀ b ∈ [p], b ∈ M ∨ w.heap.size ≤ b) := fun b hb => by simp at hb; subst hb; exact Or.inl HH.out.pM
  have HMF : Hid (∀ b ∈ M, b < w.heap.size ∨ wC.heap.size ≤ b) := fun b hb => Or.inl (HM.out b hb)
  have b0 : wC.cell? ⟨p, 0, none⟩ = some g.xv := kC.cell 0
  have b1 : wC.cell? ⟨p, 1, none⟩ = some (.slice (some ⟨gd, 0, none⟩) 8 8) := kC.cell 1
  have b2 : wC.cell? ⟨p, 2, none⟩ = some (.slice oa ol oc) := kC.cell 2
  have b3 : wC.cell? ⟨p, 3, none⟩ = some (.slice wa wl wc) := kC.cell 3
  have b4 : wC.cell? ⟨p, 4, none⟩ = some (.slice aa al ac) := kC.cell 4
  have b5 : wC.cell? ⟨p, 5, none⟩ = some (.slice na nl nc) := kC.cell 5
  have f0 := kC.frozen 0
  have f2 := kC.frozen 2
  have f3 := kC.frozen 3
  have f4 := kC.frozen 4
  have f5 := kC.frozen 5
  have HWL := hide0 hwl
  clear hQ hF kC c0 c1 c2 c3 c4 c5 hwl
  by_cases hK : K ≤ 0
  · have HK := hide0 hK
    have hKd : decide (K ≤ 0) = true := by simp; omega
    by_cases hL : (wl : Int) ≤ K
    · have HLL := hide0 hL
      have hge : decide (K ≥ (wl : Int)) = true := by simp; omega
      clear hK hL
      go_wp2
      go_end0
      refine ⟨⟨_, rfl⟩, ?_⟩
      have kk := ((((HKC.out.set 0 (.pointer none)).set 5 (.slice aa al ac)).set 4 (.slice aa al ac)).set 2 (.slice (some ⟨gd, 0, none⟩) 8 8)).set 3 (.slice none 0 0)
      have kp := ((((HQ.out.set (p := ⟨p, 0, none⟩) (Or.inl (by simp)) (.pointer none)).set (p := ⟨p, 5, none⟩) (Or.inl (by simp)) (.slice aa al ac)).set (p := ⟨p, 4, none⟩) (Or.inl (by simp)) (.slice aa al ac)).set (p := ⟨p, 2, none⟩) (Or.inl (by simp)) (.slice (some ⟨gd, 0, none⟩) 8 8)).set (p := ⟨p, 3, none⟩) (Or.inl (by simp)) (.slice none 0 0)
      refine cut_end (gd := gd) (K := K) HH.out HX.out HOK.out HM.out ((HF.out.held HMF.out).keep ?_) kp ?_
      · have k0 : Keeps [p] wC wC := Keeps.refl _ _
        exact (((((k0.set (p := ⟨p, 0, none⟩) (Or.inl (by simp)) (.pointer none)).set (p := ⟨p, 5, none⟩) (Or.inl (by simp)) (.slice aa al ac)).set (p := ⟨p, 4, none⟩) (Or.inl (by simp)) (.slice aa al ac)).set (p := ⟨p, 2, none⟩) (Or.inl (by simp)) (.slice (some ⟨gd, 0, none⟩) 8 8)).set (p := ⟨p, 3, none⟩) (Or.inl (by simp)) (.slice none 0 0)).less (fun b hb => by simp at hb; subst hb; exact Or.inl HH.out.pM)
      · have e : (g.cutN K (.slice (some ⟨gd, 0, none⟩) 8 8)).cells = #[.pointer none, .slice (some ⟨gd, 0, none⟩) 8 8, .slice (some ⟨gd, 0, none⟩) 8 8, .slice none 0 0, .slice aa al ac, .slice aa al ac] := by
          unfold LN.cutN LN.cells LN.xv
          dsimp only
          rw [HWL.out, if_pos (show K ≤ 0 by have := HK.out; omega), if_pos (show (wl : Int) ≤ K by have := HLL.out; omega)]
          simp only [HAV.out, HNV.out]
          rfl
        rw [e]
        simpa using kk
    · have HLL := hide0 hL
      have hge : decide (K ≥ (wl : Int)) = false := by simp; omega
      clear hK hL
      go_wp2
      go_end0
      refine ⟨⟨_, rfl⟩, ?_⟩
      have kk := (((HKC.out.set 0 (.pointer none)).set 5 (.slice aa al ac)).set 2 (.slice (some ⟨gd, 0, none⟩) 8 8)).set 3 (.slice none 0 0)
      have kp := (((HQ.out.set (p := ⟨p, 0, none⟩) (Or.inl (by simp)) (.pointer none)).set (p := ⟨p, 5, none⟩) (Or.inl (by simp)) (.slice aa al ac)).set (p := ⟨p, 2, none⟩) (Or.inl (by simp)) (.slice (some ⟨gd, 0, none⟩) 8 8)).set (p := ⟨p, 3, none⟩) (Or.inl (by simp)) (.slice none 0 0)
      refine cut_end (gd := gd) (K := K) HH.out HX.out HOK.out HM.out ((HF.out.held HMF.out).keep ?_) kp ?_
      · have k0 : Keeps [p] wC wC := Keeps.refl _ _
        exact ((((k0.set (p := ⟨p, 0, none⟩) (Or.inl (by simp)) (.pointer none)).set (p := ⟨p, 5, none⟩) (Or.inl (by simp)) (.slice aa al ac)).set (p := ⟨p, 2, none⟩) (Or.inl (by simp)) (.slice (some ⟨gd, 0, none⟩) 8 8)).set (p := ⟨p, 3, none⟩) (Or.inl (by simp)) (.slice none 0 0)).less (fun b hb => by simp at hb; subst hb; exact Or.inl HH.out.pM)
      · have e : (g.cutN K (.slice (some ⟨gd, 0, none⟩) 8 8)).cells = #[.pointer none, .slice (some ⟨gd, 0, none⟩) 8 8, .slice (some ⟨gd, 0, none⟩) 8 8, .slice none 0 0, .slice aa al ac, .slice aa al ac] := by
          unfold LN.cutN LN.cells LN.xv
          dsimp only
          rw [HWL.out, if_pos (show K ≤ 0 by have := HK.out; omega), if_neg (show ¬ ((wl : Int) ≤ K) by have := HLL.out; omega)]
          simp only [HAV.out, HNV.out]
          rfl
        rw [e]
        simpa using kk
  · have HK := hide0 hK
    have hKd : decide (K ≤ 0) = false := by simp; omega
    by_cases hL : (wl : Int) ≤ K
    · have HLL := hide0 hL
      have hge : decide (K ≥ (wl : Int)) = true := by simp; omega
      clear hK hL
      go_wp2
      go_end0
      refine ⟨⟨_, rfl⟩, ?_⟩
      have kk := (((HKC.out.set 0 (.pointer none)).set 4 (.slice na nl nc)).set 2 (.slice (some ⟨gd, 0, none⟩) 8 8)).set 3 (.slice none 0 0)
      have kp := (((HQ.out.set (p := ⟨p, 0, none⟩) (Or.inl (by simp)) (.pointer none)).set (p := ⟨p, 4, none⟩) (Or.inl (by simp)) (.slice na nl nc)).set (p := ⟨p, 2, none⟩) (Or.inl (by simp)) (.slice (some ⟨gd, 0, none⟩) 8 8)).set (p := ⟨p, 3, none⟩) (Or.inl (by simp)) (.slice none 0 0)
      refine cut_end (gd := gd) (K := K) HH.out HX.out HOK.out HM.out ((HF.out.held HMF.out).keep ?_) kp ?_
      · have k0 : Keeps [p] wC wC := Keeps.refl _ _
        exact ((((k0.set (p := ⟨p, 0, none⟩) (Or.inl (by simp)) (.pointer none)).set (p := ⟨p, 4, none⟩) (Or.inl (by simp)) (.slice na nl nc)).set (p := ⟨p, 2, none⟩) (Or.inl (by simp)) (.slice (some ⟨gd, 0, none⟩) 8 8)).set (p := ⟨p, 3, none⟩) (Or.inl (by simp)) (.slice none 0 0)).less (fun b hb => by simp at hb; subst hb; exact Or.inl HH.out.pM)
      · have e : (g.cutN K (.slice (some ⟨gd, 0, none⟩) 8 8)).cells = #[.pointer none, .slice (some ⟨gd, 0, none⟩) 8 8, .slice (some ⟨gd, 0, none⟩) 8 8, .slice none 0 0, .slice na nl nc, .slice na nl nc] := by
          unfold LN.cutN LN.cells LN.xv
          dsimp only
          rw [HWL.out, if_neg (show ¬ (K ≤ 0) by have := HK.out; omega), if_pos (show (wl : Int) ≤ K by have := HLL.out; omega)]
          simp only [HAV.out, HNV.out]
          rfl
        rw [e]
        simpa using kk
    · have HLL := hide0 hL
      have hge : decide (K ≥ (wl : Int)) = false := by simp; omega
      clear hK hL
      go_wp2
      go_end0
      refine ⟨⟨_, rfl⟩, ?_⟩
      have kk := ((HKC.out.set 0 (.pointer none)).set 2 (.slice (some ⟨gd, 0, none⟩) 8 8)).set 3 (.slice none 0 0)
      have kp := ((HQ.out.set (p := ⟨p, 0, none⟩) (Or.inl (by simp)) (.pointer none)).set (p := ⟨p, 2, none⟩) (Or.inl (by simp)) (.slice (some ⟨gd, 0, none⟩) 8 8)).set (p := ⟨p, 3, none⟩) (Or.inl (by simp)) (.slice none 0 0)
      refine cut_end (gd := gd) (K := K) HH.out HX.out HOK.out HM.out ((HF.out.held HMF.out).keep ?_) kp ?_
      · have k0 : Keeps [p] wC wC := Keeps.refl _ _
        exact (((k0.set (p := ⟨p, 0, none⟩) (Or.inl (by simp)) (.pointer none)).set (p := ⟨p, 2, none⟩) (Or.inl (by simp)) (.slice (some ⟨gd, 0, none⟩) 8 8)).set (p := ⟨p, 3, none⟩) (Or.inl (by simp)) (.slice none 0 0)).less (fun b hb => by simp at hb; subst hb; exact Or.inl HH.out.pM)
      · have e : (g.cutN K (.slice (some ⟨gd, 0, none⟩) 8 8)).cells = #[.pointer none, .slice (some ⟨gd, 0, none⟩) 8 8, .slice (some ⟨gd, 0, none⟩) 8 8, .slice none 0 0, .slice aa al ac, .slice na nl nc] := by
          unfold LN.cutN LN.cells LN.xv
          dsimp only
          rw [HWL.out, if_neg (show ¬ (K ≤ 0) by have := HK.out; omega), if_neg (show ¬ ((wl : Int) ≤ K) by have := HLL.out; omega)]
          simp only [HAV.out, HNV.out]
          rfl
        rw [e]
        simpa using kk

end Go.Proofs.YtmlcblnndihjoaaGreat

namespace Go.Proofs.YtmlcblnndihjoaaGreat
open Go.RowKit

def spareS : ByteArray := ⟨#[115, 112, 97, 114, 101]⟩

theorem slice109h (w : World) (o m c r : Nat) (h2 : r < c) :
    (Instr.slice 93 (.slice (some ⟨o, 0, none⟩) m c) none (some (.int .i64 r)) none).run Tryz.prog w = .ok (.slice (some ⟨o, 0, none⟩) r c) w := by
  obtain ⟨i, hi, hzz⟩ := Option.map_eq_some_iff.1 tinfo9
  simp only [Prod.mk.injEq] at hzz
  have := run_slice_h w 93 (some ⟨o, 0, none⟩) m c (P := Tryz.prog) (by kernel_rfl) .i64 r (by omega) (by omega)
  rw [this]
  have he : Tryz.prog.elem 93 = 9 := by kernel_rfl
  have hc : ¬ c = 0 := by omega
  simp [he, sizeOf, typeInfo, hi, hzz, Result.andThen, sliced, hc, Addr.add]

/-- what start lays: the disk's blocks, and one more behind them -/
def LaidDisk (w : World) (b : Nat) (ss : List ByteArray) : Prop := Blk w b (ss.map Value.string ++ [Value.string spareS]).toArray 9

theorem LaidDisk.at {w : World} {b : Nat} {ss : List ByteArray} (h : LaidDisk w b ss) (h8 : ss.length = 8) : StrsAt w (.slice (some ⟨b, 0, none⟩) 8 9) ss := by
  have := strsAt_blk (cap := 9) (ss := ss) h (fun i hi => by
    rw [List.getElem?_toArray, List.getElem?_append_left (by simpa using hi), List.getElem?_map, List.getElem?_eq_getElem hi, List.getD_eq_getElem?_getD, List.getElem?_eq_getElem hi]; rfl)
  rw [h8] at this; exact this
theorem LaidDisk.spare {w : World} {b : Nat} {ss : List ByteArray} (h : LaidDisk w b ss) (h8 : ss.length = 8) : w.cell? ⟨b, 8, none⟩ = some (.string spareS) := by
  refine (h.cell 8).trans ?_
  rw [List.getElem?_toArray, List.getElem?_append_right (by simp [h8])]
  simp [h8]

set_option maxRecDepth 100000 in
set_option maxHeartbeats 8000000 in
theorem start_bad (M : List Nat) (W m p : Nat) (n : Int) (g : LN) (w : World) (h : LAt M w m p g) (h8 : g.disk.length = 8) (hW : w.cell? ⟨W, 0, none⟩ = some (.int .i64 n)) (hn : ¬ (1 ≤ n ∧ n ≤ 3)) :
    Calls Tryz.prog 65 #[.pointer (some ⟨W, 0, none⟩), .pointer (some ⟨p, 0, none⟩)] w fun e w' => e = .returned (.bool true) ∧ Below w.heap.size w w' := by
  obtain ⟨c0, c1, c2, c3, c4, c5⟩ := LN.six h
  obtain ⟨da, dc, hdv⟩ := h.dk.now.slice
  rw [h8] at hdv
  rw [hdv] at c1
  have HD : Hid (StrsAt w (.slice da 8 dc) g.disk) := by have := h.dk.now; rw [hdv] at this; exact this
  have H8 := hide0 h8
  have HN := hide0 hn
  have hplt := h.blk.lt
  have hWlt := World.block_lt_of_cell? w _ hW
  have mk := run_make_row' (P := Tryz.prog) 93 9 (.string ⟨#[]⟩) 16 Tryz.underlying93 tinfo9 rfl .i64 .i64 9 (by omega) (by omega)
  rw [show ((9 : Nat) : Int) = 9 from rfl] at mk
  have hK : Blk (w.alloc (.cells (madeCells #[.string ⟨#[]⟩] 9) 9)) w.heap.size (madeCells #[.string ⟨#[]⟩] 9) 9 := Blk.new _ _ _ rfl
  have hBA : Below w.heap.size w (w.alloc (.cells (madeCells #[.string ⟨#[]⟩] 9) 9)) := (Below.refl _ w).alloc (Nat.le_refl _) _
  have hcp := copy_strs (D := 9) (by omega) (size_madeCells _ _) (HD.out.below hBA) hK
  have hdrop : (madeCells #[Value.string ⟨#[]⟩] 9).toList.drop g.disk.length = [.string ⟨#[]⟩] := by
    rw [toList_madeCells_one, h8]; rfl
  rw [hdrop, h8] at hcp
  have hK2 : Blk ((w.alloc (.cells (madeCells #[.string ⟨#[]⟩] 9) 9)).setRow w.heap.size (g.disk.map Value.string ++ [Value.string ⟨#[]⟩]).toArray) w.heap.size (g.disk.map Value.string ++ [Value.string ⟨#[]⟩]).toArray 9 := setRow_heap _ _ _ _ _ _ hK
  have hB2 : Below w.heap.size w ((w.alloc (.cells (madeCells #[.string ⟨#[]⟩] 9) 9)).setRow w.heap.size (g.disk.map Value.string ++ [Value.string ⟨#[]⟩]).toArray) := below_setRow hBA (Nat.le_refl _) _
  have c1A := cell_below hBA c1
  have c1B := cell_below hB2 c1
  have g8 : ((w.alloc (.cells (madeCells #[.string ⟨#[]⟩] 9) 9)).setRow w.heap.size (g.disk.map Value.string ++ [Value.string ⟨#[]⟩]).toArray).cell? ⟨w.heap.size, 8, none⟩ = some (.string ⟨#[]⟩) := by
    refine (hK2.cell 8).trans ?_
    rw [List.getElem?_toArray, List.getElem?_append_right (by simp [h8])]
    simp [h8]
  have f8 := hK2.frozen 8
  have hsl := fun w0 m => slice109h w0 w.heap.size m 9 8 (by omega)
  rw [show ((8 : Nat) : Int) = 8 from rfl] at hsl
  have hL3 : LaidDisk (((w.alloc (.cells (madeCells #[.string ⟨#[]⟩] 9) 9)).setRow w.heap.size (g.disk.map Value.string ++ [Value.string ⟨#[]⟩]).toArray).setCell ⟨w.heap.size, 8, none⟩ (.string spareS)) w.heap.size g.disk := by
    have := hK2.set 8 (.string spareS)
    have e : (g.disk.map Value.string ++ [Value.string ⟨#[]⟩]).toArray.setIfInBounds 8 (.string spareS) = (g.disk.map Value.string ++ [Value.string spareS]).toArray := by
      simp [List.set_append, h8]
    rw [e] at this; exact this
  have hB3 := hB2.setCell (p := ⟨w.heap.size, 8, none⟩) (Nat.le_refl _) (.string spareS)
  have HL3 := hide0 hL3
  have HB3 := hide0 hB3
  have c1C := cell_below hB3 c1
  have hWC := cell_below hB3 hW
  unfold spareS at HL3 HB3 c1C hWC
  clear hK hdrop hK2 h hdv c0 c2 c3 c4 c5 hBA hB2 h8 hL3 hB3 hn
  go_enter Tryz.func65, Tryz.ntmps65
  go_upto_region 5 with fail
  clear c1 c1A c1B g8 f8 hcp mk hW hsl
  generalize ((((w.alloc (.cells (madeCells #[Value.string ⟨#[]⟩] 9) 9)).setRow w.heap.size (g.disk.map Value.string ++ [Value.string ⟨#[]⟩]).toArray).setCell ⟨w.heap.size, 8, none⟩ (.string ⟨#[115, 112, 97, 114, 101]⟩))) = w3 at *
  have HL : Hid (LaidDisk w3 w.heap.size g.disk) := HL3.out
  have HOP := hide0 (open_any n (.slice (some ⟨w.heap.size, 0, none⟩) 8 9) g.disk w3 (HL.out.at H8.out))
  have hs3 := HB3.out.size
  go_wp2_with fail
  refine HOP.out.mono ?_
  rintro e w4 ⟨hE, hb4⟩
  have he : e = .returned (.tuple #[.pointer none, .slice none 0 0, .int .i64 1]) := by
    rcases hE with ⟨_, he⟩ | ⟨m', hm, h1, h3, _⟩
    · exact he
    · exact absurd ⟨by omega, by omega⟩ HN.out
  subst he
  have HL4 : Hid (LaidDisk w4 w.heap.size g.disk) := Blk.below HL.out hb4 (Blk.lt HL.out)
  have hs4 := hb4.size
  have c1D := cell_below hb4 c1C
  have hWD := cell_below hb4 hWC
  have HB4 := hide0 (HB3.out.trans (hb4.mono hs3))
  have HST := hide0 (sameTexts_any (.slice (some ⟨w.heap.size, 0, none⟩) 8 9) (.slice da 8 dc) g.disk w4 (HL4.out.at H8.out) (HD.out.below HB4.out) H8.out)
  clear hE hb4 c1C hWC
  go_wp2_with fail
  refine HST.out.mono ?_
  rintro e w5 ⟨rfl, hb5⟩
  have HL5 : Hid (LaidDisk w5 w.heap.size g.disk) := Blk.below HL4.out hb5 (Blk.lt HL4.out)
  have hs5 := hb5.size
  have c1E := cell_below hb5 c1D
  have hWE := cell_below hb5 hWD
  have HB5 := hide0 (HB4.out.trans (hb5.mono (by omega)))
  have hsp : w5.cell? ⟨w.heap.size, 8, none⟩ = some (.string ⟨#[115, 112, 97, 114, 101]⟩) := HL5.out.spare H8.out
  clear hb5 c1D hWD
  have hsn := nilW
  by_cases hn1 : n < 1
  · go_wp2
    go_ret
    exact ⟨rfl, HB5.out⟩
  · have hn3 : n > 3 := by
      rcases Int.lt_or_le 3 n with q | q
      · exact q
      · exact absurd ⟨by omega, q⟩ HN.out
    go_wp2
    go_ret
    exact ⟨rfl, HB5.out⟩

end Go.Proofs.YtmlcblnndihjoaaGreat

namespace Go.Proofs.YtmlcblnndihjoaaGreat
open Go.RowKit

theorem Opens.one {m : Nat} {ss : List ByteArray} {T T' : Lat.St} {f f' : Bool} (h : Opens m ss T f) (h' : Opens m ss T' f') : T = T' ∧ f = f' := by
  obtain ⟨t, h1, h2⟩ := h
  obtain ⟨t', h1', h2'⟩ := h'
  obtain ⟨rfl, rfl⟩ := h1.one h1'
  refine ⟨?_, rfl⟩
  rcases h2 with ⟨a, rfl⟩ | a
  · rcases h2' with ⟨_, rfl⟩ | b
    · rfl
    · exact absurd a (dec_ne b)
  · rcases h2' with ⟨b, rfl⟩ | b
    · exact absurd b (dec_ne a)
    · exact (a.one b).2

def StartPost (M : List Nat) (m p : Nat) (w w' : World) : Prop :=
  ∃ g' x f, g'.x = some (x, f) ∧ w.heap.size ≤ x ∧ LAt (x :: M) w' m p g' ∧ LOK m g' ∧ Blk w' x (nodeC m g'.now f) 133 ∧ Keeps [p] w w'

theorem start_end {M : List Nat} {m p x gd : Nat} {f : Bool} {g : LN} {T : Lat.St} {w w10 w11 w12 : World} {da : Option Addr} {dc : Nat} {fv : Value}
    (h : LAt M w m p g) (hok : LOK m g) (hM : ∀ b ∈ M, b < w.heap.size) (hT : NodeOK m T) (ho : Opens m g.disk T f) (hdv : g.dv = .slice da 8 dc) (hx : w.heap.size ≤ x ∧ x < w10.heap.size)
    (hB : Below w.heap.size w w10) (h11 : Keeps [p] w10 w11) (hs : w10.heap.size ≤ w11.heap.size) (h12 : Keeps [p] w10 w12) (hf : Fresh w11.heap.size w12 (fun w9 => StrsAt w9 (.slice (some ⟨gd, 0, none⟩) 8 8) g.disk))
    (k : Blk w12 p #[.pointer (some ⟨x, 0, none⟩), .slice da 8 dc, .slice da 8 dc, g.wv, fv, fv] 101) (kx : Blk w12 x (nodeC m T f) 133) (hxp : x ≠ p)
    (hfv : Held M w (fun w => RowsAt w fv (basisRows m T))) :
    StartPost M m p w ((w12.setCell ⟨p, 1, none⟩ (.slice (some ⟨gd, 0, none⟩) 8 8)).setCell ⟨p, 3, none⟩ (.slice none 0 0)) := by
  have hpM : ∀ b ∈ [p], b ∈ M := fun b hb => by simp at hb; subst hb; exact h.pM
  have hMM : ∀ b ∈ x :: M, b ∈ M ∨ w.heap.size ≤ b := fun b hb => by
    rw [List.mem_cons] at hb
    rcases hb with rfl | hb
    · exact Or.inr hx.1
    · exact Or.inl hb
  have kEnd : Keeps [p] w12 ((w12.setCell ⟨p, 1, none⟩ (.slice (some ⟨gd, 0, none⟩) 8 8)).setCell ⟨p, 3, none⟩ (.slice none 0 0)) := ((Keeps.refl [p] w12).set (p := ⟨p, 1, none⟩) (Or.inl (by simp)) _).set (p := ⟨p, 3, none⟩) (Or.inl (by simp)) _
  have kAll : Keeps [p] w ((w12.setCell ⟨p, 1, none⟩ (.slice (some ⟨gd, 0, none⟩) 8 8)).setCell ⟨p, 3, none⟩ (.slice none 0 0)) := ((keeps_of hB [p]).trans h12).trans kEnd
  have kAllM : Keeps (x :: M) w ((w12.setCell ⟨p, 1, none⟩ (.slice (some ⟨gd, 0, none⟩) 8 8)).setCell ⟨p, 3, none⟩ (.slice none 0 0)) := kAll.mono (fun b hb => List.mem_cons_of_mem _ (hpM b hb))
  have kEndM : Keeps (x :: M) w12 ((w12.setCell ⟨p, 1, none⟩ (.slice (some ⟨gd, 0, none⟩) 8 8)).setCell ⟨p, 3, none⟩ (.slice none 0 0)) := kEnd.mono (fun b hb => List.mem_cons_of_mem _ (hpM b hb))
  refine ⟨{ x := some (x, f), dv := .slice (some ⟨gd, 0, none⟩) 8 8, ov := g.dv, wv := .slice none 0 0, av := fv, nv := fv, disk := g.disk, old := g.disk, wrote := [], was := T, now := T }, x, f, rfl, hx.1, ⟨?_, List.mem_cons_of_mem _ h.pM, ?_, ?_, ?_, ?_, ?_⟩, ?_, ?_, kAll⟩
  · have := (k.set 1 (.slice (some ⟨gd, 0, none⟩) 8 8)).set 3 (.slice none 0 0)
    unfold LN.cells LN.xv
    dsimp only
    rw [hdv]
    simpa using this
  · exact (hf.held (fun b hb => Or.inl (by
      rw [List.mem_cons] at hb
      rcases hb with rfl | hb
      · omega
      · have := hM b hb; have := hB.size; omega))).keep kEndM
  · exact (h.dk.less hMM).keep kAllM
  · exact Held.pure (fun w => writesAt_nil w _ _)
  · exact (hfv.less hMM).keep kAllM
  · exact (hfv.less hMM).keep kAllM
  · exact ⟨hok.d8, hok.d8, by simp, by simp, hT, hT, fun q' f' e => by
      cases e
      exact ⟨ho, Or.inl ⟨rfl, rfl, ho⟩⟩, fun e => by cases e⟩
  · exact kEnd.blk kx (by simp; exact hxp)

set_option maxRecDepth 100000 in
set_option maxHeartbeats 8000000 in
theorem start_any (M : List Nat) (W m p : Nat) (g : LN) (w : World) (h : LAt M w m p g) (hok : LOK m g) (hx : g.x = none) (hM : ∀ b ∈ M, b < w.heap.size) (hW : w.cell? ⟨W, 0, none⟩ = some (.int .i64 (m : Nat))) (hWp : W ≠ p) :
    Calls Tryz.prog 65 #[.pointer (some ⟨W, 0, none⟩), .pointer (some ⟨p, 0, none⟩)] w fun e w' => e = .returned (.bool true) ∧ StartPost M m p w w' := by
  have h8 := hok.d8
  have h1 := hok.nowOK.n1
  have h3 := hok.nowOK.n3
  have HH := hide0 h
  have HOK := hide0 hok
  have HX := hide0 hx
  have HM := hide0 hM
  clear hok hx hM
  obtain ⟨c0, c1, c2, c3, c4, c5⟩ := LN.six h
  obtain ⟨da, dc, hdv⟩ := h.dk.now.slice
  rw [h8] at hdv
  rw [hdv] at c1
  have HDV := hide0 hdv
  have HD : Hid (StrsAt w (.slice da 8 dc) g.disk) := by have := h.dk.now; rw [hdv] at this; exact this
  have H8 := hide0 h8
  have hplt := h.blk.lt
  have hWlt := World.block_lt_of_cell? w _ hW
  have C1 := hide0 c1
  have CW := hide0 hW
  have mk := run_make_row' (P := Tryz.prog) 93 9 (.string ⟨#[]⟩) 16 Tryz.underlying93 tinfo9 rfl .i64 .i64 9 (by omega) (by omega)
  rw [show ((9 : Nat) : Int) = 9 from rfl] at mk
  have hK : Blk (w.alloc (.cells (madeCells #[.string ⟨#[]⟩] 9) 9)) w.heap.size (madeCells #[.string ⟨#[]⟩] 9) 9 := Blk.new _ _ _ rfl
  have hBA : Below w.heap.size w (w.alloc (.cells (madeCells #[.string ⟨#[]⟩] 9) 9)) := (Below.refl _ w).alloc (Nat.le_refl _) _
  have hcp := copy_strs (D := 9) (by omega) (size_madeCells _ _) (HD.out.below hBA) hK
  have hdrop : (madeCells #[Value.string ⟨#[]⟩] 9).toList.drop g.disk.length = [.string ⟨#[]⟩] := by
    rw [toList_madeCells_one, h8]; rfl
  rw [hdrop, h8] at hcp
  have hK2 : Blk ((w.alloc (.cells (madeCells #[.string ⟨#[]⟩] 9) 9)).setRow w.heap.size (g.disk.map Value.string ++ [Value.string ⟨#[]⟩]).toArray) w.heap.size (g.disk.map Value.string ++ [Value.string ⟨#[]⟩]).toArray 9 := setRow_heap _ _ _ _ _ _ hK
  have hB2 : Below w.heap.size w ((w.alloc (.cells (madeCells #[.string ⟨#[]⟩] 9) 9)).setRow w.heap.size (g.disk.map Value.string ++ [Value.string ⟨#[]⟩]).toArray) := below_setRow hBA (Nat.le_refl _) _
  have c1A := cell_below hBA c1
  have c1B := cell_below hB2 c1
  have g8 : ((w.alloc (.cells (madeCells #[.string ⟨#[]⟩] 9) 9)).setRow w.heap.size (g.disk.map Value.string ++ [Value.string ⟨#[]⟩]).toArray).cell? ⟨w.heap.size, 8, none⟩ = some (.string ⟨#[]⟩) := by
    refine (hK2.cell 8).trans ?_
    rw [List.getElem?_toArray, List.getElem?_append_right (by simp [h8])]
    simp [h8]
  have f8 := hK2.frozen 8
  have hsl := fun w0 m => slice109h w0 w.heap.size m 9 8 (by omega)
  rw [show ((8 : Nat) : Int) = 8 from rfl] at hsl
  have hL3 : LaidDisk (((w.alloc (.cells (madeCells #[.string ⟨#[]⟩] 9) 9)).setRow w.heap.size (g.disk.map Value.string ++ [Value.string ⟨#[]⟩]).toArray).setCell ⟨w.heap.size, 8, none⟩ (.string spareS)) w.heap.size g.disk := by
    have := hK2.set 8 (.string spareS)
    have e : (g.disk.map Value.string ++ [Value.string ⟨#[]⟩]).toArray.setIfInBounds 8 (.string spareS) = (g.disk.map Value.string ++ [Value.string spareS]).toArray := by
      simp [List.set_append, h8]
    rw [e] at this; exact this
  have hB3 := hB2.setCell (p := ⟨w.heap.size, 8, none⟩) (Nat.le_refl _) (.string spareS)
  have HL3 := hide0 hL3
  have HB3 := hide0 hB3
  have c1C := cell_below hB3 c1
  have hWC := cell_below hB3 hW
  unfold spareS at HL3 HB3 c1C hWC
  clear hK hdrop hK2 h hdv c0 c2 c3 c4 c5 hBA hB2 h8 hL3 hB3
  go_enter Tryz.func65, Tryz.ntmps65
  go_upto_region 5 with fail
  clear c1 c1A c1B g8 f8 hcp mk hW hsl
  generalize ((((w.alloc (.cells (madeCells #[Value.string ⟨#[]⟩] 9) 9)).setRow w.heap.size (g.disk.map Value.string ++ [Value.string ⟨#[]⟩]).toArray).setCell ⟨w.heap.size, 8, none⟩ (.string ⟨#[115, 112, 97, 114, 101]⟩))) = w3 at *
  have HL : Hid (LaidDisk w3 w.heap.size g.disk) := HL3.out
  have HOP := hide0 (open_any (m : Int) (.slice (some ⟨w.heap.size, 0, none⟩) 8 9) g.disk w3 (HL.out.at H8.out))
  have hs3 := HB3.out.size
  have hl3 : w.heap.size < w3.heap.size := Blk.lt HL.out
  obtain ⟨T, f, hop, hT⟩ := HOK.out.stop HX.out
  have HOPN := hide0 hop
  have HT := hide0 hT
  clear hop hT
  go_wp2_with fail
  refine HOP.out.mono ?_
  rintro e w4 ⟨hE, hb4⟩
  obtain ⟨x, he, kx4, hxB⟩ : ∃ x, e = .returned (.tuple #[.pointer (some ⟨x, 0, none⟩), .slice none 0 0, .int .i64 0]) ∧ Blk w4 x (nodeC m T f) 133 ∧ w3.heap.size ≤ x := by
    rcases hE with ⟨hn, _⟩ | ⟨m', hm, _, _, ⟨T', f', x, ho, he, kx, hx⟩ | ⟨hN, _⟩⟩
    · exact absurd ⟨by omega, by omega⟩ hn
    · have : m' = m := by omega
      subst this
      obtain ⟨rfl, rfl⟩ := ho.one HOPN.out
      exact ⟨x, he, kx, hx⟩
    · have : m' = m := by omega
      subst this
      exact absurd HOPN.out (hN _ _)
  subst he
  have HL4 : Hid (LaidDisk w4 w.heap.size g.disk) := Blk.below HL.out hb4 (Blk.lt HL.out)
  have hs4 := hb4.size
  have c1D := cell_below hb4 c1C
  have hWD := cell_below hb4 hWC
  have HB4 := hide0 (HB3.out.trans (hb4.mono hs3))
  have HST := hide0 (sameTexts_any (.slice (some ⟨w.heap.size, 0, none⟩) 8 9) (.slice da 8 dc) g.disk w4 (HL4.out.at H8.out) (HD.out.below HB4.out) H8.out)
  have HKX4 := hide0 kx4
  have hxlt := kx4.lt
  clear hE hb4 c1C hWC kx4
  go_wp2_with fail
  refine HST.out.mono ?_
  rintro e w5 ⟨rfl, hb5⟩
  have HL5 : Hid (LaidDisk w5 w.heap.size g.disk) := Blk.below HL4.out hb5 (Blk.lt HL4.out)
  have hs5 := hb5.size
  have c1E := cell_below hb5 c1D
  have hWE := cell_below hb5 hWD
  have HB5 := hide0 (HB4.out.trans (hb5.mono (by omega)))
  have HKX5 := hide0 (HKX4.out.below hb5 hxlt)
  have hsp : w5.cell? ⟨w.heap.size, 8, none⟩ = some (.string ⟨#[115, 112, 97, 114, 101]⟩) := HL5.out.spare H8.out
  have HLA := hide0 (fun w0 => lawful_any (.slice none 0 0) [] w0 (writesAt_nil _ _ _) (by simp) (by simp))
  clear hb5 c1D hWD
  have hm1 : decide ((m : Int) < 1) = false := by simp; omega
  have hm3 : decide ((m : Int) > 3) = false := by simp; omega
  go_upto_region 10 with fail
  go_wp2_with fail
  refine (HLA.out _).mono ?_
  rintro e w6 ⟨rfl, hb6⟩
  have HL6 : Hid (LaidDisk w6 w.heap.size g.disk) := Blk.below HL5.out hb6 (Blk.lt HL5.out)
  have hs6 := hb6.size
  have c1F := cell_below hb6 c1E
  have hWF := cell_below hb6 hWE
  have HB6 := hide0 (HB5.out.trans (hb6.mono (by omega)))
  have HKX6 := hide0 (HKX5.out.below hb6 (by omega))
  have f0 := Blk.frozen HL6.out 0
  have g0 : ∃ y, w6.cell? ⟨w.heap.size, 0, none⟩ = some y := by
    obtain ⟨b, o, e, hc⟩ := (HL6.out.at H8.out).cellAt (i := 0) (by rw [H8.out]; omega)
    cases e
    exact ⟨_, hc⟩
  obtain ⟨y0, g0⟩ := g0
  clear hb6 c1E hWE hsp hm1 hm3
  have hxne : x ≠ w.heap.size := by omega
  have HKX7 := hide0 (HKX6.out.other (a := ⟨w.heap.size, 0, none⟩) hxne (.string ⟨#[]⟩))
  have HB7 := hide0 (HB6.out.setCell (p := ⟨w.heap.size, 0, none⟩) (Nat.le_refl _) (.string ⟨#[]⟩))
  have hs7 : (w6.setCell ⟨w.heap.size, 0, none⟩ (.string ⟨#[]⟩)).heap.size = w6.heap.size := by simp
  have c1G := cell_below HB7.out C1.out
  have hWG := cell_below HB7.out CW.out
  go_upto_region 14 with fail
  clear f0 g0 c1F hWF
  generalize w6.setCell ⟨w.heap.size, 0, none⟩ (.string ⟨#[]⟩) = w7 at *
  have hs7' : w6.heap.size ≤ w7.heap.size := by omega
  clear hs7
  have HTOK : Hid (NodeOK m T) := by
    show NodeOK m T
    rcases HT.out with e | e <;> rw [e]
    · exact HOK.out.wasOK
    · exact HOK.out.nowOK
  have HSH := hide0 (show_any x m T f w7 HKX7.out h1 h3 HTOK.out.fits)
  go_wp2_with fail
  refine HSH.out.mono ?_
  rintro e w8 ⟨rfl, hb8⟩
  have hs8 := hb8.size
  have HB8 := hide0 (HB7.out.trans (hb8.mono (by omega)))
  have HKX8 := hide0 (HKX7.out.below hb8 (by omega))
  have A8 := HH.out.step HB8.out
  have hW8 := cell_below HB8.out CW.out
  obtain ⟨aa, ac, hav⟩ := A8.wa.now.slice
  obtain ⟨na, nc, hnv⟩ := A8.nw.now.slice
  obtain ⟨b0, b1, b2, b3, b4, b5⟩ := LN.six A8
  have HAV := hide0 hav
  have HNV := hide0 hnv
  rw [hav] at b4
  rw [hnv] at b5
  have HRA := hide0 (fun w0 (k : RowsAt w0 g.av (basisRows m g.was)) => rtextN_any m g.was g.av w0 HOK.out.wasOK k)
  have HRN := hide0 (fun w0 (k : RowsAt w0 g.nv (basisRows m g.now)) => rtextN_any m g.now g.nv w0 HOK.out.nowOK k)
  rw [hav] at HRA
  rw [hnv] at HRN
  have HA8 := hide0 A8
  have HWA : Hid (RowsAt w8 (.slice aa (basisRows m g.was).length ac) (basisRows m g.was)) := by have := A8.wa.now; rw [hav] at this; exact this
  have HWN : Hid (RowsAt w8 (.slice na (basisRows m g.now).length nc) (basisRows m g.now)) := by have := A8.nw.now; rw [hnv] at this; exact this
  generalize (basisRows m g.was).length = al at *
  generalize (basisRows m g.now).length = nl at *
  clear hav hnv A8 hb8 c1G hWG b0 b1 b2 b3
  have HTXW : Hid (txt m T = txt m g.was ↔ T = g.was) := ⟨fun e => by
    have d1 := HTOK.out.dec
    rw [e] at d1
    exact (d1.one HOK.out.wasOK.dec).2, fun e => by rw [e]⟩
  have HTXN : Hid (T = g.now → txt m T = txt m g.now) := fun e => by rw [e]
  generalize txt m T = tx at *
  generalize txt m g.was = txw at *
  generalize txt m g.now = txn at *
  go_upto_region 15 with fail
  refine wp_region_still_tail 8 (by kernel_rfl) (by kernel_rfl) ?_
  change wpStill _ _ (World.drew _) (fun a' => wpList _ _ _ _ a' (World.drew _)) _ _
  simp only [List.take_succ_cons, List.take_zero, List.drop_succ_cons, List.drop_zero]
  repeat still_step
  try refine wpStill_nil ?_
  go_wp2_with fail
  refine (HRA.out _ (HWA.out.below (Below.refl _ w8).drew)).mono ?_
  rintro e w9 ⟨rfl, hb9⟩
  have hB9 : Below w8.heap.size w8 w9 := (Below.refl _ w8).drew.trans hb9
  have hs9 := hB9.size
  have hW9 := cell_below hB9 hW8
  have d4 := cell_below hB9 b4
  have d5 := cell_below hB9 b5
  have HB89 := hide0 hB9
  clear hb9 hB9 hW8 b4 b5
  go_upto_region 16 with fail
  refine wp_region_still_tail 8 (by kernel_rfl) (by kernel_rfl) ?_
  change wpStill _ _ (World.drew _) (fun a' => wpList _ _ _ _ a' (World.drew _)) _ _
  simp only [List.take_succ_cons, List.take_zero, List.drop_succ_cons, List.drop_zero]
  repeat still_step
  try refine wpStill_nil ?_
  go_wp2_with fail
  refine (HRN.out _ ((HWN.out.below HB89.out).below (Below.refl _ w9).drew)).mono ?_
  rintro e w10 ⟨rfl, hb10⟩
  have hB10 : Below w9.heap.size w9 w10 := (Below.refl _ w9).drew.trans hb10
  have hs10 := hB10.size
  have hB8t := HB89.out.trans (hB10.mono hs9)
  have A10 := HA8.out.step hB8t
  have HKX10 := hide0 (HKX8.out.below hB8t HKX8.out.lt)
  have HB10 := hide0 (HB8.out.trans (hB8t.mono (by omega)))
  have HA10 := hide0 A10
  have kp : Blk w10 p #[g.xv, .slice da 8 dc, g.ov, g.wv, .slice aa al ac, .slice na nl nc] 101 := by
    have := A10.blk; unfold LN.cells at this; rw [HDV.out, HAV.out, HNV.out] at this; exact this
  clear hb10 hB10 hW9 d4 d5 A10 hB8t
  obtain ⟨e0, e1, e2, e3, e4, e5⟩ : w10.cell? ⟨p, 0, none⟩ = some g.xv ∧ w10.cell? ⟨p, 1, none⟩ = some (.slice da 8 dc) ∧ w10.cell? ⟨p, 2, none⟩ = some g.ov ∧ w10.cell? ⟨p, 3, none⟩ = some g.wv ∧ w10.cell? ⟨p, 4, none⟩ = some (.slice aa al ac) ∧ w10.cell? ⟨p, 5, none⟩ = some (.slice na nl nc) := ⟨kp.cell 0, kp.cell 1, kp.cell 2, kp.cell 3, kp.cell 4, kp.cell 5⟩
  have q0 := kp.frozen 0
  have q2 := kp.frozen 2
  have q4 := kp.frozen 4
  have q5 := kp.frozen 5
  have hxp : x ≠ p := by omega
  by_cases hTw : T = g.was
  · have HTE := hide0 hTw
    have hte := HTXW.out.2 hTw
    have hee := eqlB txw
    subst hte
    clear hTw
    have kk : Blk ((((w10.setCell ⟨p, 5, none⟩ (.slice aa al ac)).setCell ⟨p, 0, none⟩ (.pointer (some ⟨x, 0, none⟩))).setCell ⟨p, 4, none⟩ (.slice aa al ac)).setCell ⟨p, 2, none⟩ (.slice da 8 dc)) p #[.pointer (some ⟨x, 0, none⟩), .slice da 8 dc, .slice da 8 dc, g.wv, .slice aa al ac, .slice aa al ac] 101 := by
      have := ((((kp.set 5 (.slice aa al ac)).set 0 (.pointer (some ⟨x, 0, none⟩))).set 4 (.slice aa al ac)).set 2 (.slice da 8 dc))
      simpa using this
    have kq := (((((Keeps.refl [p] w10).set (p := ⟨p, 5, none⟩) (Or.inl (by simp)) (.slice aa al ac)).set (p := ⟨p, 0, none⟩) (Or.inl (by simp)) (.pointer (some ⟨x, 0, none⟩))).set (p := ⟨p, 4, none⟩) (Or.inl (by simp)) (.slice aa al ac)).set (p := ⟨p, 2, none⟩) (Or.inl (by simp)) (.slice da 8 dc))
    have hsz : ((((w10.setCell ⟨p, 5, none⟩ (.slice aa al ac)).setCell ⟨p, 0, none⟩ (.pointer (some ⟨x, 0, none⟩))).setCell ⟨p, 4, none⟩ (.slice aa al ac)).setCell ⟨p, 2, none⟩ (.slice da 8 dc)).heap.size = w10.heap.size := by simp
    have HKK := hide0 kk
    have HKQ := hide0 kq
    clear kk kq kp
    go_upto_region 24 with fail
    clear e0 e1 e2 e3 e4 e5 q0 q2 q4 q5
    generalize ((((w10.setCell ⟨p, 5, none⟩ (.slice aa al ac)).setCell ⟨p, 0, none⟩ (.pointer (some ⟨x, 0, none⟩))).setCell ⟨p, 4, none⟩ (.slice aa al ac)).setCell ⟨p, 2, none⟩ (.slice da 8 dc)) = w11 at *
    have hs11 : w10.heap.size ≤ w11.heap.size := by omega
    clear hsz
    have HD11 : Hid (StrsAt w11 (.slice da 8 dc) g.disk) := by
      have := ((HH.out.dk.keep (keeps_of HB10.out M)).keep (HKQ.out.less (fun b hb => by simp at hb; subst hb; exact Or.inl HH.out.pM))).now
      rw [HDV.out] at this; exact this
    have HWR := hide0 (written_any (.slice da 8 dc) (.slice none 0 0) g.disk [] 0 w11 HD11.out (writesAt_nil _ _ _) H8.out (by simp) (by simp))
    have v1 : w11.cell? ⟨p, 1, none⟩ = some (.slice da 8 dc) := HKK.out.cell 1
    go_wp2_with fail
    refine HWR.out.mono ?_
    rintro e w12 ⟨⟨gd, rfl, hgd, kgd⟩, hb12⟩
    have hl8 : (putAll (([] : List (Nat × ByteArray)).take (0 : Int).toNat) g.disk).length = 8 := by rw [putAll_length]; exact H8.out
    have HFR : Hid (Fresh w11.heap.size w12 (fun w9 => StrsAt w9 (.slice (some ⟨gd, 0, none⟩) 8 8) g.disk)) := by
      have := strs_fresh (cap := 8) kgd hgd
      rw [hl8] at this
      exact this
    rw [hl8]
    have k12 := HKK.out.below hb12 HKK.out.lt
    have v1' : w12.cell? ⟨p, 1, none⟩ = some (.slice da 8 dc) := k12.cell 1
    have v3' : w12.cell? ⟨p, 3, none⟩ = some g.wv := k12.cell 3
    have r1 := k12.frozen 1
    have r3 := k12.frozen 3
    have hs12 := hb12.size
    have HK12 := hide0 k12
    have HQ12 := hide0 ((HKQ.out).step hb12)
    have HKX12 := hide0 ((HKQ.out.blk HKX10.out (by simp; omega)).below hb12 (by have := HKX10.out.lt; omega))
    clear k12 kgd hl8 hb12 v1
    go_wp2
    go_ret
    refine ⟨rfl, ?_⟩
    exact start_end (w11 := w11) HH.out HOK.out HM.out HTOK.out HOPN.out HDV.out (by omega) HB10.out HKQ.out (by omega) HQ12.out HFR.out HK12.out HKX12.out hxp (by have := HH.out.wa; rw [HAV.out, ← HTE.out] at this; exact this)
  · have hTn : T = g.now := by rcases HT.out with e | e; exact absurd e hTw; exact e
    have HTE := hide0 hTn
    have hne := neB (fun e => hTw (HTXW.out.1 e))
    have hte := HTXN.out hTn
    have hee := eqlB txn
    subst hte
    clear hTw hTn
    have kk : Blk (((w10.setCell ⟨p, 0, none⟩ (.pointer (some ⟨x, 0, none⟩))).setCell ⟨p, 4, none⟩ (.slice na nl nc)).setCell ⟨p, 2, none⟩ (.slice da 8 dc)) p #[.pointer (some ⟨x, 0, none⟩), .slice da 8 dc, .slice da 8 dc, g.wv, .slice na nl nc, .slice na nl nc] 101 := by
      have := (((kp.set 0 (.pointer (some ⟨x, 0, none⟩))).set 4 (.slice na nl nc)).set 2 (.slice da 8 dc))
      simpa using this
    have kq := ((((Keeps.refl [p] w10).set (p := ⟨p, 0, none⟩) (Or.inl (by simp)) (.pointer (some ⟨x, 0, none⟩))).set (p := ⟨p, 4, none⟩) (Or.inl (by simp)) (.slice na nl nc)).set (p := ⟨p, 2, none⟩) (Or.inl (by simp)) (.slice da 8 dc))
    have hsz : (((w10.setCell ⟨p, 0, none⟩ (.pointer (some ⟨x, 0, none⟩))).setCell ⟨p, 4, none⟩ (.slice na nl nc)).setCell ⟨p, 2, none⟩ (.slice da 8 dc)).heap.size = w10.heap.size := by simp
    have HKK := hide0 kk
    have HKQ := hide0 kq
    clear kk kq kp
    go_upto_region 24 with fail
    clear e0 e1 e2 e3 e4 e5 q0 q2 q4 q5
    generalize (((w10.setCell ⟨p, 0, none⟩ (.pointer (some ⟨x, 0, none⟩))).setCell ⟨p, 4, none⟩ (.slice na nl nc)).setCell ⟨p, 2, none⟩ (.slice da 8 dc)) = w11 at *
    have hs11 : w10.heap.size ≤ w11.heap.size := by omega
    clear hsz
    have HD11 : Hid (StrsAt w11 (.slice da 8 dc) g.disk) := by
      have := ((HH.out.dk.keep (keeps_of HB10.out M)).keep (HKQ.out.less (fun b hb => by simp at hb; subst hb; exact Or.inl HH.out.pM))).now
      rw [HDV.out] at this; exact this
    have HWR := hide0 (written_any (.slice da 8 dc) (.slice none 0 0) g.disk [] 0 w11 HD11.out (writesAt_nil _ _ _) H8.out (by simp) (by simp))
    have v1 : w11.cell? ⟨p, 1, none⟩ = some (.slice da 8 dc) := HKK.out.cell 1
    go_wp2_with fail
    refine HWR.out.mono ?_
    rintro e w12 ⟨⟨gd, rfl, hgd, kgd⟩, hb12⟩
    have hl8 : (putAll (([] : List (Nat × ByteArray)).take (0 : Int).toNat) g.disk).length = 8 := by rw [putAll_length]; exact H8.out
    have HFR : Hid (Fresh w11.heap.size w12 (fun w9 => StrsAt w9 (.slice (some ⟨gd, 0, none⟩) 8 8) g.disk)) := by
      have := strs_fresh (cap := 8) kgd hgd
      rw [hl8] at this
      exact this
    rw [hl8]
    have k12 := HKK.out.below hb12 HKK.out.lt
    have v1' : w12.cell? ⟨p, 1, none⟩ = some (.slice da 8 dc) := k12.cell 1
    have v3' : w12.cell? ⟨p, 3, none⟩ = some g.wv := k12.cell 3
    have r1 := k12.frozen 1
    have r3 := k12.frozen 3
    have hs12 := hb12.size
    have HK12 := hide0 k12
    have HQ12 := hide0 ((HKQ.out).step hb12)
    have HKX12 := hide0 ((HKQ.out.blk HKX10.out (by simp; omega)).below hb12 (by have := HKX10.out.lt; omega))
    clear k12 kgd hl8 hb12 v1
    go_wp2
    go_ret
    refine ⟨rfl, ?_⟩
    exact start_end (w11 := w11) HH.out HOK.out HM.out HTOK.out HOPN.out HDV.out (by omega) HB10.out HKQ.out (by omega) HQ12.out HFR.out HK12.out HKX12.out hxp (by have := HH.out.nw; rw [HNV.out, ← HTE.out] at this; exact this)

end Go.Proofs.YtmlcblnndihjoaaGreat
