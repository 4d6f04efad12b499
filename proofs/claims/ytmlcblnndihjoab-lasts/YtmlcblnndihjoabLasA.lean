import Derived.Test.YtmlcblnndihjoabMetE
set_option linter.unusedSimpArgs false
set_option linter.unusedVariables false
namespace Go.Proofs.Ytmlcblnndihjoab
open Go.RowKit

theorem putAll_snoc (ws : List (Nat × ByteArray)) (q : Nat × ByteArray) (ss : List ByteArray) : putAll (ws ++ [q]) ss = (putAll ws ss).set q.1 q.2 := by simp [putAll]

theorem map_set_arrL (ss : List ByteArray) (i : Nat) (d : ByteArray) : (ss.map Value.string).toArray.setIfInBounds i (.string d) = ((ss.set i d).map Value.string).toArray := by
  simp [List.map_set]

theorem take_snocW {ws : List (Nat × ByteArray)} {k : Nat} (h : k < ws.length) : ws.take (k + 1) = ws.take k ++ [ws.getD k (0, ⟨#[]⟩)] := by
  rw [List.take_succ_eq_append_getElem h, List.getD_eq_getElem?_getD, List.getElem?_eq_getElem h]; rfl

set_option maxRecDepth 100000 in
set_option maxHeartbeats 4000000 in
theorem kwritten_any (dv v : Value) (ss : List ByteArray) (ws : List (Nat × ByteArray)) (K : Int) (w : World) (hd : StrsAt w dv ss) (hv : WritesAt w v ws) (h8 : ss.length = 8) (hl : ws.length ≤ 8) (hok : ∀ q ∈ ws, q.1 < 8 ∧ q.2.size = 8) :
    Calls Try.prog 31 #[dv, v, .int .i64 K] w fun e w' => StrsNew w.heap.size w' (putAll (ws.take K.toNat) ss) e ∧ Below w.heap.size w w' := by
  have HV := hide0 hv
  have HDV := hide0 hd
  obtain ⟨a, c, rfl⟩ := hv.slice
  obtain ⟨a', c', rfl⟩ := hd.slice
  have HOK : Hid (∀ i, i < ws.length → (ws.getD i (0, ⟨#[]⟩)).1 < 8 ∧ (ws.getD i (0, ⟨#[]⟩)).2.size = 8) := fun i hi => by
    have := hok (ws[i]) (List.getElem_mem hi)
    rw [List.getD_eq_getElem?_getD, List.getElem?_eq_getElem hi]; exact this
  have H8 := hide0 h8
  rw [h8] at hd ⊢
  have mk := run_make_row' (P := Try.prog) 43 9 (.string ⟨#[]⟩) 16 Try.underlying43 tinfo9 rfl .i64 .i64 8 (by omega) (by omega)
  rw [show ((8 : Nat) : Int) = 8 from rfl] at mk
  have hK : Blk (w.alloc (.cells (madeCells #[.string ⟨#[]⟩] 8) 9)) w.heap.size (madeCells #[.string ⟨#[]⟩] 8) 9 := Blk.new _ _ _ rfl
  have hcp := copy_strs (D := 8) (by omega) (size_madeCells _ _) (hd.below (by go_grown)) hK
  have hdrop : (madeCells #[Value.string ⟨#[]⟩] 8).toList.drop ss.length = [] := by
    rw [toList_madeCells_one, h8]; rfl
  rw [hdrop, List.append_nil, h8] at hcp
  have hK2 : Blk ((w.alloc (.cells (madeCells #[.string ⟨#[]⟩] 8) 9)).setRow w.heap.size (ss.map Value.string).toArray) w.heap.size (ss.map Value.string).toArray 9 := setRow_heap _ _ _ _ _ _ hK
  have HB : Hid (Below w.heap.size w ((w.alloc (.cells (madeCells #[.string ⟨#[]⟩] 8) 9)).setRow w.heap.size (ss.map Value.string).toArray)) := below_setRow (by go_grown) (Nat.le_refl _) _
  have HK2 := hide0 hK2
  clear hK hdrop hK2 hv hd hok
  generalize hn : ws.length = n at *
  have HN := hide0 hn
  clear hn h8
  go_enter Try.func31, Try.ntmps31
  go_upto_region 3 with fail
  clear hcp mk
  generalize ((w.alloc (.cells (madeCells #[Value.string ⟨#[]⟩] 8) 9)).setRow w.heap.size (ss.map Value.string).toArray) = wS at *
  go_wp2
  go_loopg [8] (n) (fun mm i wr => ∃ k : Nat, i = .int .i64 k ∧ k + mm = n ∧ (k : Int) ≤ max K 0 ∧ Blk wr w.heap.size ((putAll (ws.take k) ss).map Value.string).toArray 9 ∧ Below w.heap.size w wr)
  case atStart => exact ⟨0, rfl, by omega, by omega, HK2.out, HB.out⟩
  case round =>
    obtain ⟨k, rfl, hk, hkK, hM, hB⟩ := hrel
    have HM := hide0 hM
    have HBr := hide0 hB
    have hlen : (putAll (ws.take k) ss).length = 8 := by rw [putAll_length]; exact H8.out
    by_cases hlt : k < n
    · have hlt' : (k : Int) < (n : Int) := by omega
      by_cases hkk : (k : Int) < K
      · have hx := HV.out.below hB
        obtain ⟨b, rfl, c1, c2⟩ := hx.cellAt (i := k) (by rw [HN.out]; exact hlt)
        obtain ⟨o1, o2⟩ := HOK.out k hlt
        have HTK := hide0 (take_snocW (ws := ws) (k := k) (by rw [HN.out]; exact hlt))
        generalize ws.getD k (0, ⟨#[]⟩) = q at *
        have hc8 : ∃ x, wr.cell? ⟨w.heap.size, q.1, none⟩ = some x := by
          refine ⟨.string ((putAll (ws.take k) ss)[q.1]'(by rw [hlen]; exact o1)), (hM.cell q.1).trans ?_⟩
          rw [List.getElem?_toArray, List.getElem?_map, List.getElem?_eq_getElem (by rw [hlen]; exact o1)]; rfl
        obtain ⟨x8, hx8⟩ := hc8
        have hf8 := hM.frozen q.1
        have hq8 : ((q.1 : Nat) : Int) < 8 := by omega
        rw [Nat.mul_comm] at c1 c2
        obtain ⟨q1, q2⟩ := q
        have c1' : wr.cell? ⟨b, k * 2, none⟩ = some (.int .i64 (q1 : Nat)) := c1
        have c2' : wr.cell? ⟨b, k * 2 + 1, none⟩ = some (.string q2) := c2
        have hx8' : wr.cell? ⟨w.heap.size, q1, none⟩ = some x8 := hx8
        have hf8' : wr.frozen? ⟨w.heap.size, q1, none⟩ = false := hf8
        have hq8' : (q1 : Int) < 8 := hq8
        have hge : decide ((q1 : Int) ≥ 0) = true := decide_eq_true (by omega)
        have hltd : decide ((q1 : Int) < 8) = true := decide_eq_true (by omega)
        clear c1 c2 hx hB hM o2 hx8 hf8 hq8
        go_wp2_with fail
        refine wp_region_still_tail 12 (by kernel_rfl) (by kernel_rfl) ?_
        change wpStill _ _ (World.drew _) (fun a' => wpList _ _ _ _ a' (World.drew _)) _ _
        simp only [List.take_succ_cons, List.take_zero, List.drop_succ_cons, List.drop_zero]
        repeat still_step
        try refine wpStill_nil ?_
        go_wp2
        go_roundg (gk - 1)
        case measure => omega
        case rel =>
          refine ⟨k + 1, by go_num, by omega, by omega, ?_, HBr.out.drew.setCell (p := ⟨w.heap.size, q1, none⟩) (Nat.le_refl _) _⟩
          have := HM.out.drew.set q1 (.string q2)
          rw [map_set_arrL] at this
          rw [HTK.out, putAll_snoc]
          exact this
      · have hdk : decide ((k : Int) < K) = false := by simp; omega
        have HTE : Hid (ws.take k = ws.take K.toNat) := by
          show ws.take k = ws.take K.toNat
          rw [show K.toNat = k by omega]
        clear hM hB
        go_wp2
        go_ret
        refine ⟨⟨w.heap.size, ?_, Nat.le_refl _, ?_⟩, HBr.out⟩
        · rw [← HTE.out, hlen]; rfl
        · rw [← HTE.out]; exact HM.out
    · have hdk : decide ((k : Int) < (n : Int)) = false := by simp; omega
      have HTE : Hid (ws.take k = ws.take K.toNat) := by
        show ws.take k = ws.take K.toNat
        rw [List.take_of_length_le (by rw [HN.out]; omega), List.take_of_length_le (by rw [HN.out]; omega)]
      clear hM hB
      go_wp2
      go_ret
      refine ⟨⟨w.heap.size, ?_, Nat.le_refl _, ?_⟩, HBr.out⟩
      · rw [← HTE.out, hlen]; rfl
      · rw [← HTE.out]; exact HM.out

theorem Opens.one {m : Nat} {ss : List ByteArray} {T T' : Lat.St} {f f' : Bool} (h : Opens m ss T f) (h' : Opens m ss T' f') : T = T' ∧ f = f' := by
  obtain ⟨t, h1, h2⟩ := h
  obtain ⟨t', h1', h2'⟩ := h'
  obtain ⟨rfl, rfl⟩ := h1.one h1'
  refine ⟨?_, rfl⟩
  rcases h2 with ⟨a, rfl⟩ | a
  · rcases h2' with ⟨_, rfl⟩ | b
    · rfl
    · exact absurd a (dec_ne b)
  · rcases h2' with ⟨b, rfl⟩ | b
    · exact absurd b (dec_ne a)
    · exact (a.one b).2

/-- a node opened over a disk that shows T -/
def PeerOf (m B : Nat) (T : Lat.St) (f : Bool) (ss : List ByteArray) (w' : World) (e : Ending) : Prop :=
  ∃ p x gd, e = .returned (.tuple #[.pointer (some ⟨p, 0, none⟩), .bool true]) ∧ Blk w' p (peerC m x gd) 53 ∧ Blk w' x (nodeC m T f) 100 ∧ Blk w' gd (ss.map Value.string).toArray 9 ∧ B ≤ p ∧ B ≤ x ∧ B ≤ gd

set_option maxRecDepth 100000 in
set_option maxHeartbeats 4000000 in
theorem kopenT_any (m : Nat) (h1 : 1 ≤ m) (h3 : m ≤ 3) (dv : Value) (ss : List ByteArray) (T : Lat.St) (f : Bool) (w : World) (hd : StrsAt w dv ss) (h8 : ss.length = 8) (ho : Opens m ss T f) :
    Calls Try.prog 22 #[.int .i64 (m : Nat), dv] w fun e w' => PeerOf m w.heap.size T f ss w' e ∧ Below w.heap.size w w' := by
  have HOP := hide0 (open_any (m : Int) dv _ w hd)
  have HD := hide0 hd
  have HO := hide0 ho
  have HWR := hide0 (fun w0 (h : StrsAt w0 dv ss) => kwritten0 dv _ w0 h h8)
  have H8 := hide0 h8
  obtain ⟨a, c, rfl⟩ := hd.slice
  clear hd ho
  rw [h8] at HOP HWR HD ⊢
  clear h8
  go_enter Try.func22, Try.ntmps22
  go_wp2_with fail
  refine HOP.out.mono ?_
  rintro e w1 ⟨hE, hb1⟩
  obtain ⟨x, he, kx, hxB⟩ : ∃ x, e = .returned (.tuple #[.pointer (some ⟨x, 0, none⟩), .slice none 0 0, .int .i64 0]) ∧ Blk w1 x (nodeC m T f) 100 ∧ w.heap.size ≤ x := by
    rcases hE with ⟨hn, _⟩ | ⟨m', hm, _, _, ⟨T', f', x, ho, he, kx, hx⟩ | ⟨hN, _⟩⟩
    · exact absurd ⟨by omega, by omega⟩ hn
    · have : m' = m := by omega
      subst this
      obtain ⟨rfl, rfl⟩ := HO.out.one ho
      exact ⟨x, he, kx, hx⟩
    · have : m' = m := by omega
      subst this
      exact absurd HO.out (hN _ _)
  subst he
  have hs1 := hb1.size
  have HW1 := hide0 (HWR.out w1 (HD.out.below hb1))
  have HB1 := hide0 hb1
  have HKX := hide0 kx
  clear hE hb1 kx
  go_wp2_with fail
  refine HW1.out.mono ?_
  rintro e w2 ⟨⟨gd, rfl, hgd, kgd⟩, hb2⟩
  rw [H8.out]
  have HB2 := hide0 (HB1.out.trans (hb2.mono hs1))
  have HKX2 := hide0 (HKX.out.below hb2 HKX.out.lt)
  have HGD := hide0 kgd
  have hs2 := hb2.size
  clear hb2 kgd
  go_wp2
  go_ret2
  exact ⟨⟨w2.heap.size, x, gd, rfl, Blk.new _ _ _ rfl, HKX2.out.alloc _, HGD.out.alloc _, by omega, hxB, by omega⟩, HB2.out.alloc (by omega) _⟩

end Go.Proofs.Ytmlcblnndihjoab
