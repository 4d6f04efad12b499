import Derived.Test.YtmlcblnndihjoabOpnK
import Derived.Test.YtmlcblnndihjoabMergedW
import Derived.Test.YtmlcblnndihjoabIdx
set_option linter.unusedSimpArgs false
set_option linter.unusedVariables false
namespace Go.Proofs.Ytmlcblnndihjoab
open Go.RowKit

def KRow (n : Nat) (zs : List Int) (w' : World) (e : Ending) : Prop :=
  ∃ nb cap vb, e = .returned (.slice (some ⟨nb, 0, none⟩) 1 cap) ∧ w'.cell? ⟨nb, 0, none⟩ = some (.slice (some ⟨vb, 0, none⟩) n n) ∧ Blk w' vb (zs.map (Value.int .i64)).toArray 3

set_option maxRecDepth 100000 in
set_option maxHeartbeats 4000000 in
theorem krow1 (a b c : Int) (g : Nat) (w : World) (hg : Blk w g #[.int .i64 a, .int .i64 b, .int .i64 c] 3) :
    Calls Try.prog 11 #[.int .i64 1, .int .i64 1, .int .i64 4, .slice (some ⟨g, 0, none⟩) 3 3] w fun e w' => KRow 1 [a.tmod 5] w' e ∧ Below w.heap.size w w' := by
  obtain ⟨i0, hi, hz0, hz1, hz2⟩ := info_parts Try.info22
  have hmk := make1
  obtain ⟨d0, d1, d2⟩ := hg.three
  have hlt := hg.lt
  have hown : w.ownsRow w.heap.size 22 1 (.slice none 0 0) 0 [] := World.ownsRow_nil _ _ _ _
  clear hg
  go_enter Try.func11, Try.ntmps11
  go_wp2
  refine wp_loop_rounds 2 ?_
  rw [rounds_succ]; go_wp2
  refine wp_loop_rounds 2 ?_
  rw [rounds_succ]; go_wp2
  rw [rounds_succ]
  go_wp2_with (at_builtin; refine wpList_append_lies _ rfl (.tmp 48) (.tmp 50) 24 rfl w.heap.size 22 i0 (.slice none 0 0) 1 24 Try.underlying24 hi hz0 hz1 hz2 rfl (by decide) _ _ _ rfl ((hown.alloc _).alloc _) ⟨w.heap.size + 1, 0, none⟩ 1 1 [.slice (some ⟨w.heap.size, 0, none⟩) 1 1] rfl rfl (World.news_of_block (cs := #[.slice (some ⟨w.heap.size, 0, none⟩) 1 1]) (t := 22) (fr := (0, 0)) (Blk.new _ _ _ (by simp))) (by intro u hu; simp at hu; subst hu; rfl) (by omega) (by unfold maxLen; omega) (by omega) (by simp; omega) _ rfl ?_; intro g2 cap1 w1 hown1 hgrow hat hglt)
  rw [rounds_succ]; go_wp2
  go_ret
  have hB : Below w.heap.size w w1 := (((Below.refl _ w).alloc (Nat.le_refl _) _).alloc (by simp) _).grown hgrow (by simp; omega) (fun k hk => by cases hk)
  have kv : Blk w1 w.heap.size #[.int .i64 (a.tmod 5)] 3 := (hgrow.block w.heap.size (by simp; omega) (fun e => by cases e)).trans (Blk.alloc (Blk.new w _ _ rfl) _)
  refine ⟨⟨g2, cap1, w.heap.size, rfl, ?_, kv⟩, hB⟩
  have := ownsRow_cell hown1 (by omega)
  obtain ⟨g', cap', e1, _, hc⟩ := this
  cases e1
  have := hc 0 (by omega)
  simpa using this

set_option maxRecDepth 100000 in
set_option maxHeartbeats 4000000 in
theorem krow2 (a b c : Int) (g : Nat) (w : World) (hg : Blk w g #[.int .i64 a, .int .i64 b, .int .i64 c] 3) :
    Calls Try.prog 11 #[.int .i64 2, .int .i64 1, .int .i64 4, .slice (some ⟨g, 0, none⟩) 3 3] w fun e w' => KRow 2 [a.tmod 5, b.tmod 5] w' e ∧ Below w.heap.size w w' := by
  obtain ⟨i0, hi, hz0, hz1, hz2⟩ := info_parts Try.info22
  have hmk := make2
  obtain ⟨d0, d1, d2⟩ := hg.three
  have hlt := hg.lt
  have hown : w.ownsRow w.heap.size 22 1 (.slice none 0 0) 0 [] := World.ownsRow_nil _ _ _ _
  clear hg
  go_enter Try.func11, Try.ntmps11
  go_wp2
  refine wp_loop_rounds 2 ?_
  rw [rounds_succ]; go_wp2
  refine wp_loop_rounds 3 ?_
  rw [rounds_succ]; go_wp2
  rw [rounds_succ]; go_wp2
  rw [rounds_succ]
  go_wp2_with (at_builtin; refine wpList_append_lies _ rfl (.tmp 48) (.tmp 50) 24 rfl w.heap.size 22 i0 (.slice none 0 0) 1 24 Try.underlying24 hi hz0 hz1 hz2 rfl (by decide) _ _ _ rfl ((hown.alloc _).alloc _) ⟨w.heap.size + 1, 0, none⟩ 1 1 [.slice (some ⟨w.heap.size, 0, none⟩) 2 2] rfl rfl (World.news_of_block (cs := #[.slice (some ⟨w.heap.size, 0, none⟩) 2 2]) (t := 22) (fr := (0, 0)) (Blk.new _ _ _ (by simp))) (by intro u hu; simp at hu; subst hu; rfl) (by omega) (by unfold maxLen; omega) (by omega) (by simp; omega) _ rfl ?_; intro g2 cap1 w1 hown1 hgrow hat hglt)
  rw [rounds_succ]; go_wp2
  go_ret
  have hB : Below w.heap.size w w1 := (((Below.refl _ w).alloc (Nat.le_refl _) _).alloc (by simp) _).grown hgrow (by simp; omega) (fun k hk => by cases hk)
  have kv : Blk w1 w.heap.size #[.int .i64 (a.tmod 5), .int .i64 (b.tmod 5)] 3 := (hgrow.block w.heap.size (by simp; omega) (fun e => by cases e)).trans (Blk.alloc (Blk.new w _ _ rfl) _)
  refine ⟨⟨g2, cap1, w.heap.size, rfl, ?_, kv⟩, hB⟩
  have := ownsRow_cell hown1 (by omega)
  obtain ⟨g', cap', e1, _, hc⟩ := this
  cases e1
  have := hc 0 (by omega)
  simpa using this

set_option maxRecDepth 100000 in
set_option maxHeartbeats 4000000 in
theorem krow3 (a b c : Int) (g : Nat) (w : World) (hg : Blk w g #[.int .i64 a, .int .i64 b, .int .i64 c] 3) :
    Calls Try.prog 11 #[.int .i64 3, .int .i64 1, .int .i64 4, .slice (some ⟨g, 0, none⟩) 3 3] w fun e w' => KRow 3 [a.tmod 5, b.tmod 5, c.tmod 5] w' e ∧ Below w.heap.size w w' := by
  obtain ⟨i0, hi, hz0, hz1, hz2⟩ := info_parts Try.info22
  have hmk := make3
  obtain ⟨d0, d1, d2⟩ := hg.three
  have hlt := hg.lt
  have hown : w.ownsRow w.heap.size 22 1 (.slice none 0 0) 0 [] := World.ownsRow_nil _ _ _ _
  clear hg
  go_enter Try.func11, Try.ntmps11
  go_wp2
  refine wp_loop_rounds 2 ?_
  rw [rounds_succ]; go_wp2
  refine wp_loop_rounds 4 ?_
  rw [rounds_succ]; go_wp2
  rw [rounds_succ]; go_wp2
  rw [rounds_succ]; go_wp2
  rw [rounds_succ]
  go_wp2_with (at_builtin; refine wpList_append_lies _ rfl (.tmp 48) (.tmp 50) 24 rfl w.heap.size 22 i0 (.slice none 0 0) 1 24 Try.underlying24 hi hz0 hz1 hz2 rfl (by decide) _ _ _ rfl ((hown.alloc _).alloc _) ⟨w.heap.size + 1, 0, none⟩ 1 1 [.slice (some ⟨w.heap.size, 0, none⟩) 3 3] rfl rfl (World.news_of_block (cs := #[.slice (some ⟨w.heap.size, 0, none⟩) 3 3]) (t := 22) (fr := (0, 0)) (Blk.new _ _ _ (by simp))) (by intro u hu; simp at hu; subst hu; rfl) (by omega) (by unfold maxLen; omega) (by omega) (by simp; omega) _ rfl ?_; intro g2 cap1 w1 hown1 hgrow hat hglt)
  rw [rounds_succ]; go_wp2
  go_ret
  have hB : Below w.heap.size w w1 := (((Below.refl _ w).alloc (Nat.le_refl _) _).alloc (by simp) _).grown hgrow (by simp; omega) (fun k hk => by cases hk)
  have kv : Blk w1 w.heap.size #[.int .i64 (a.tmod 5), .int .i64 (b.tmod 5), .int .i64 (c.tmod 5)] 3 := (hgrow.block w.heap.size (by simp; omega) (fun e => by cases e)).trans (Blk.alloc (Blk.new w _ _ rfl) _)
  refine ⟨⟨g2, cap1, w.heap.size, rfl, ?_, kv⟩, hB⟩
  have := ownsRow_cell hown1 (by omega)
  obtain ⟨g', cap', e1, _, hc⟩ := this
  cases e1
  have := hc 0 (by omega)
  simpa using this

def small (m : Nat) (a b c : Int) : List Int := [a.tmod 5, b.tmod 5, c.tmod 5].take m

theorem krow_any (m : Nat) (h1 : 1 ≤ m) (h3 : m ≤ 3) (a b c : Int) (g : Nat) (w : World) (hg : Blk w g #[.int .i64 a, .int .i64 b, .int .i64 c] 3) :
    Calls Try.prog 11 #[.int .i64 (m : Nat), .int .i64 1, .int .i64 4, .slice (some ⟨g, 0, none⟩) 3 3] w fun e w' => KRow m (small m a b c) w' e ∧ Below w.heap.size w w' := by
  have : m = 1 ∨ m = 2 ∨ m = 3 := by omega
  rcases this with rfl | rfl | rfl
  · exact krow1 a b c g w hg
  · exact krow2 a b c g w hg
  · exact krow3 a b c g w hg

theorem small_len (m : Nat) (h3 : m ≤ 3) (a b c : Int) : (small m a b c).length = m := by simp [small]; omega
theorem small_good (m : Nat) (h3 : m ≤ 3) (a b c : Int) : goodS m (small m a b c) = true := by
  unfold goodS
  rw [Bool.and_eq_true, decide_eq_true_eq, small_len m h3]
  refine ⟨rfl, ?_⟩
  rw [List.all_eq_true]
  intro z hz
  have hm := List.mem_of_mem_take hz
  simp at hm
  rw [Bool.and_eq_true, decide_eq_true_eq, decide_eq_true_eq]
  rcases hm with e | e | e <;> rw [e]
  · have := tmod_le a 4 (by omega); rw [show (4 : Int) + 1 = 5 from rfl] at this; omega
  · have := tmod_le b 4 (by omega); rw [show (4 : Int) + 1 = 5 from rfl] at this; omega
  · have := tmod_le c 4 (by omega); rw [show (4 : Int) + 1 = 5 from rfl] at this; omega

set_option maxRecDepth 100000 in
set_option maxHeartbeats 4000000 in
theorem kvector_any (m : Nat) (h1 : 1 ≤ m) (h3 : m ≤ 3) (a b c : Int) (w : World) :
    Calls Try.prog 23 #[.int .i64 (m : Nat), .int .i64 a, .int .i64 b, .int .i64 c] w fun e w' => (∃ vb, e = .returned (.slice (some ⟨vb, 0, none⟩) m m) ∧ IntsAt w' (.slice (some ⟨vb, 0, none⟩) m m) (small m a b c)) ∧ Below w.heap.size w w' := by
  have HR := hide0 (krow_any m h1 h3 a b c w.heap.size _ (Blk.new w #[.int .i64 a, .int .i64 b, .int .i64 c] 3 rfl))
  have HL := hide0 (small_len m h3 a b c)
  generalize small m a b c = zs at *
  go_enter Try.func23, Try.ntmps23
  go_wp2_with fail
  refine HR.out.mono ?_
  rintro e w1 ⟨⟨nb, cap, vb, rfl, hc, kv⟩, hb1⟩
  have HB1 : Hid (Below w.heap.size w w1) := ((Below.refl _ w).alloc (Nat.le_refl _) _).trans (hb1.mono (by simp))
  have HK := hide0 kv
  clear kv hb1
  go_wp2
  go_ret
  refine ⟨⟨vb, rfl, ?_⟩, HB1.out⟩
  have hl := HL.out
  refine Or.inr ⟨by omega, vb, 0, m, by rw [hl], fun i hi => ?_⟩
  rw [Nat.zero_add, HK.out.cell i, List.getElem?_toArray, List.getElem?_map, List.getElem?_eq_getElem hi, List.getD_eq_getElem?_getD, List.getElem?_eq_getElem hi]; rfl

set_option maxRecDepth 100000 in
set_option maxHeartbeats 4000000 in
theorem kwritten0 (dv : Value) (ss : List ByteArray) (w : World) (hd : StrsAt w dv ss) (h8 : ss.length = 8) :
    Calls Try.prog 31 #[dv, .slice none 0 0, .int .i64 0] w fun e w' => StrsNew w.heap.size w' ss e ∧ Below w.heap.size w w' := by
  obtain ⟨a', c', rfl⟩ := hd.slice
  have H8 := hide0 h8
  have mk := run_make_row' (P := Try.prog) 43 9 (.string ⟨#[]⟩) 16 Try.underlying43 tinfo9 rfl .i64 .i64 8 (by omega) (by omega)
  rw [show ((8 : Nat) : Int) = 8 from rfl] at mk
  have hK : Blk (w.alloc (.cells (madeCells #[.string ⟨#[]⟩] 8) 9)) w.heap.size (madeCells #[.string ⟨#[]⟩] 8) 9 := Blk.new _ _ _ rfl
  have hcp := copy_strs (D := 8) (by omega) (size_madeCells _ _) (hd.below (by go_grown)) hK
  have hdrop : (madeCells #[Value.string ⟨#[]⟩] 8).toList.drop ss.length = [] := by
    rw [toList_madeCells_one, h8]; rfl
  rw [hdrop, List.append_nil] at hcp
  have hK2 : Blk ((w.alloc (.cells (madeCells #[.string ⟨#[]⟩] 8) 9)).setRow w.heap.size (ss.map Value.string).toArray) w.heap.size (ss.map Value.string).toArray 9 := setRow_heap _ _ _ _ _ _ hK
  have HB : Hid (Below w.heap.size w ((w.alloc (.cells (madeCells #[.string ⟨#[]⟩] 8) 9)).setRow w.heap.size (ss.map Value.string).toArray)) := below_setRow (by go_grown) (Nat.le_refl _) _
  have HK2 := hide0 hK2
  rw [h8] at hcp ⊢
  clear hK hdrop hK2 hd h8
  go_enter Try.func31, Try.ntmps31
  go_upto_region 3 with fail
  clear hcp mk
  generalize ((w.alloc (.cells (madeCells #[Value.string ⟨#[]⟩] 8) 9)).setRow w.heap.size (ss.map Value.string).toArray) = wS at *
  go_wp2
  refine wp_loop_rounds 1 ?_
  rw [rounds_succ]; go_wp2
  go_ret
  exact ⟨⟨w.heap.size, by rw [H8.out]; rfl, Nat.le_refl _, HK2.out⟩, HB.out⟩

/-- a peer: its width, its node, its disk -/
def peerC (m x gd : Nat) : Array Value := #[.int .i64 (m : Nat), .pointer (some ⟨x, 0, none⟩), .slice (some ⟨gd, 0, none⟩) 8 8]

def PeerEnd (m B : Nat) (w' : World) (e : Ending) : Prop :=
  ∃ p x gd, e = .returned (.tuple #[.pointer (some ⟨p, 0, none⟩), .bool true]) ∧ Blk w' p (peerC m x gd) 53 ∧ Blk w' x (nodeC m zeroS false) 100 ∧ B ≤ p ∧ B ≤ x

set_option maxRecDepth 100000 in
set_option maxHeartbeats 4000000 in
theorem kopen_any (m : Nat) (h1 : 1 ≤ m) (h3 : m ≤ 3) (dv : Value) (w : World) (hd : StrsAt w dv (List.replicate 8 mark0)) :
    Calls Try.prog 22 #[.int .i64 (m : Nat), dv] w fun e w' => PeerEnd m w.heap.size w' e ∧ Below w.heap.size w w' := by
  have HOP := hide0 (open_any (m : Int) dv _ w hd)
  have HD := hide0 hd
  have HWR := hide0 (fun w0 (h : StrsAt w0 dv (List.replicate 8 mark0)) => kwritten0 dv _ w0 h (by simp))
  obtain ⟨a, c, rfl⟩ := hd.slice
  clear hd
  rw [List.length_replicate] at *
  go_enter Try.func22, Try.ntmps22
  go_wp2_with fail
  refine HOP.out.mono ?_
  rintro e w1 ⟨hE, hb1⟩
  obtain ⟨x, he, kx, hxB⟩ : ∃ x, e = .returned (.tuple #[.pointer (some ⟨x, 0, none⟩), .slice none 0 0, .int .i64 0]) ∧ Blk w1 x (nodeC m zeroS false) 100 ∧ w.heap.size ≤ x := by
    rcases hE with ⟨hn, _⟩ | ⟨m', hm, _, _, ⟨T', f', x, ho, he, kx, hx⟩ | ⟨hN, _⟩⟩
    · exact absurd ⟨by omega, by omega⟩ hn
    · have : m' = m := by omega
      subst this
      obtain ⟨t, hl, hk⟩ := ho
      obtain ⟨t2, hl2, hk2⟩ := blank_opens m'
      obtain ⟨rfl, rfl⟩ := hl.one hl2
      have : T' = zeroS := by
        rcases hk with ⟨_, h⟩ | h
        · exact h
        · rcases hk2 with ⟨h2, _⟩ | h2
          · exact absurd h2 (dec_ne h)
          · exact (h.one h2).2
      subst this
      exact ⟨x, he, kx, hx⟩
    · have : m' = m := by omega
      subst this
      exact absurd (blank_opens m') (hN _ _)
  subst he
  have hs1 := hb1.size
  have HW1 := hide0 (HWR.out w1 (HD.out.below hb1))
  have HB1 := hide0 hb1
  have HKX := hide0 kx
  clear hE hb1 kx
  go_wp2_with fail
  refine HW1.out.mono ?_
  rintro e w2 ⟨⟨gd, rfl, hgd, kgd⟩, hb2⟩
  rw [List.length_replicate]
  have HB2 := hide0 (HB1.out.trans (hb2.mono hs1))
  have HKX2 := hide0 (HKX.out.below hb2 HKX.out.lt)
  have hs2 := hb2.size
  clear hb2 kgd
  go_wp2
  go_ret2
  exact ⟨⟨w2.heap.size, x, gd, rfl, Blk.new _ _ _ rfl, HKX2.out.alloc _, by omega, hxB⟩, HB2.out.alloc (by omega) _⟩

set_option maxRecDepth 100000 in
set_option maxHeartbeats 4000000 in
theorem kindex_any (m : Nat) (T : Lat.St) (hok : NodeOK m T) (w : World) :
    Calls Try.prog 27 #[.string (txt m T)] w fun e w' => e = .returned (.int .i64 (idxOf m T)) ∧ Below w.heap.size w w' := by
  have HD := hide0 (decode_any (txt m T) w)
  have HOK := hide0 hok
  have h1 := hok.n1
  have h3 := hok.n3
  clear hok
  generalize htx : txt m T = tx at *
  have HTX := hide0 htx
  clear htx
  go_enter Try.func27, Try.ntmps27
  go_wp2_with fail
  refine HD.out.mono ?_
  rintro e w1 ⟨hE, hb1⟩
  rcases hE with ⟨n, T', out, vs, hd, rfl, hr⟩ | ⟨hN, _⟩
  · rw [← HTX.out] at hd
    obtain ⟨rfl, rfl⟩ := hd.one HOK.out.dec
    have HIX := hide0 (index_any (n : Int) out _ w1 (hr.rowsAt (by omega)))
    obtain ⟨oa, oc, rfl⟩ := (hr.rowsAt (by omega)).slice
    have HB1 := hide0 hb1
    have hs1 := hb1.size
    have HG : Hid (∀ T2 c, Gen (n : Int) (basisRows n T') T2 c → c = 0 ∧ T2 = T') := fun T2 c hG => by
      have hgv := basis_given (n := n) (T := T') (by omega) h3 HOK.out.fits
      rcases hG with ⟨hc, hc0⟩ | ⟨_, S, hS, hor⟩
      · rw [hgv] at hc; exact absurd hc hc0
      · have e := hS.one HOK.out.canon (fun _ => Iff.rfl)
        subst e
        rcases hor with ⟨_, hn⟩ | ⟨hc, he, _⟩
        · exact absurd HOK.out.fits hn
        · exact ⟨hc, he⟩
    generalize (basisRows n T').length = L at *
    clear hr hd hb1
    go_wp2_with fail
    refine HIX.out.mono ?_
    rintro e w2 ⟨⟨T2, c, hG, rfl⟩, hb2⟩
    obtain ⟨rfl, rfl⟩ := HG.out T2 c hG
    rw [if_pos rfl]
    have HB2 := hide0 (HB1.out.trans (hb2.mono hs1))
    clear hG hb2
    generalize hix : idxOf (n : Int) T2 = ix at *
    have HIXX := hide0 hix
    clear hix
    go_wp2
    go_ret
    exact ⟨by rw [HIXX.out]; rfl, HB2.out⟩
  · have d := HOK.out.dec
    rw [HTX.out] at d
    exact absurd d (hN _ _)

end Go.Proofs.Ytmlcblnndihjoab
