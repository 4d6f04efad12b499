import Derived.Test.YtmlcblnndihjoabJoinE
import Derived.Test.YtmlcblnndihjoabRoundsW
set_option linter.unusedSimpArgs false
set_option linter.unusedVariables false
namespace Go.Proofs.Ytmlcblnndihjoab
open Go.RowKit

/-- a text of a lattice that light vectors generate -/
structure Lite (s : ByteArray) (n : Nat) (T : Lat.St) : Prop where
  dec : DecOK s n T
  gens : ∃ G, (∀ g ∈ G, Lat.Le 4 g) ∧ Lat.CanonOf T G

/-- R is the sum of the two -/
def SumOf (R T1 T2 : Lat.St) : Prop := ∀ v, Lat.Mem R v ↔ Lat.InSpan [T1.a, T1.b, T1.c, T2.a, T2.b, T2.c] v

theorem rows_in {T : Lat.St} {H : List Lat.V} (ha : Lat.InSpan H T.a) (hb : Lat.InSpan H T.b) (hc : Lat.InSpan H T.c) {v : Lat.V} (h : Lat.Mem T v) : Lat.InSpan H v :=
  Lat.InSpan.sub_list (fun g hg => by
    simp only [List.mem_cons, List.not_mem_nil, or_false] at hg
    rcases hg with rfl | rfl | rfl
    · exact ha
    · exact hb
    · exact hc) ((Lat.Mem.iff_span T v).1 h)

theorem SumOf.left {R T1 T2 : Lat.St} (h : SumOf R T1 T2) : SubL T1 R := fun v hv => (h v).2 (rows_in (Lat.InSpan.of_mem (by simp)) (Lat.InSpan.of_mem (by simp)) (Lat.InSpan.of_mem (by simp)) hv)
theorem SumOf.right {R T1 T2 : Lat.St} (h : SumOf R T1 T2) : SubL T2 R := fun v hv => (h v).2 (rows_in (Lat.InSpan.of_mem (by simp)) (Lat.InSpan.of_mem (by simp)) (Lat.InSpan.of_mem (by simp)) hv)
theorem SumOf.least {R T1 T2 U : Lat.St} (h : SumOf R T1 T2) (h1 : SubL T1 U) (h2 : SubL T2 U) : SubL R U := fun v hv =>
  Lat.InSpan.lift (P := fun v => Lat.Mem U v) (Lat.Mem.zero U) (fun _ _ x y p q => x.comb y p q) (fun g hg => by
    simp only [List.mem_cons, List.not_mem_nil, or_false] at hg
    rcases hg with rfl | rfl | rfl | rfl | rfl | rfl
    · exact h1 _ (Lat.Mem.ra T1)
    · exact h1 _ (Lat.Mem.rb T1)
    · exact h1 _ (Lat.Mem.rc T1)
    · exact h2 _ (Lat.Mem.ra T2)
    · exact h2 _ (Lat.Mem.rb T2)
    · exact h2 _ (Lat.Mem.rc T2)) ((h v).1 hv)

theorem sub_both {s t : ByteArray} {n m : Nat} {T U : Lat.St} (h : DecOK s n T) (h' : DecOK t m U) (a : SubL T U) (b : SubL U T) : T = U :=
  Lat.one_basis h.shape h'.shape (fun v => ⟨a v, b v⟩)
theorem SubL.refl (T : Lat.St) : SubL T T := fun _ h => h
theorem SubL.trans {A B C : Lat.St} (h : SubL A B) (h' : SubL B C) : SubL A C := fun v hv => h' v (h v hv)

/-- Join of two such -/
theorem join_lite {s t : ByteArray} {n : Nat} {T1 T2 : Lat.St} {e : Ending} (h1 : Lite s n T1) (h2 : Lite t n T2) (h : JoinEnd s t e) :
    ∃ x R, e = .returned (.tuple #[.string x, .int .i64 0]) ∧ Lite x n R ∧ SumOf R T1 T2 := by
  rcases h with ⟨n', U1, U2, a, b, T, c, hG, rfl⟩ | ⟨c, hN, _⟩
  · obtain ⟨rfl, rfl⟩ := h1.dec.one a
    obtain ⟨_, rfl⟩ := h2.dec.one b
    have hgv := pair_given a.n1 a.n3 a.fits b.fits
    rcases hG with ⟨hc, hc0⟩ | ⟨_, R, hR, hor⟩
    · rw [hgv] at hc; exact absurd hc hc0
    obtain ⟨G1, g1, c1⟩ := h1.gens
    obtain ⟨G2, g2, c2⟩ := h2.gens
    have hsum : SumOf R T1 T2 := fun v => by
      rw [hR.span v, vecs_append]
      constructor
      · intro hv
        refine Lat.InSpan.sub_list (fun g hg => ?_) hv
        rw [List.mem_append] at hg
        rcases hg with hg | hg
        · exact rows_in (T := T2) (Lat.InSpan.of_mem (by simp)) (Lat.InSpan.of_mem (by simp)) (Lat.InSpan.of_mem (by simp)) ((basis_span b.n1 b.n3 b.shape b.flat g).1 (Lat.InSpan.of_mem hg))
        · exact rows_in (T := T1) (Lat.InSpan.of_mem (by simp)) (Lat.InSpan.of_mem (by simp)) (Lat.InSpan.of_mem (by simp)) ((basis_span a.n1 a.n3 a.shape a.flat g).1 (Lat.InSpan.of_mem hg))
      · intro hv
        have l2 : ∀ u, Lat.Mem T2 u → Lat.InSpan (vecs (basisRows n T2) ++ vecs (basisRows n T1)) u := fun u hu => Lat.InSpan.sub_list (fun g hg => Lat.InSpan.of_mem (by simp [hg])) ((basis_span b.n1 b.n3 b.shape b.flat u).2 hu)
        have l1 : ∀ u, Lat.Mem T1 u → Lat.InSpan (vecs (basisRows n T2) ++ vecs (basisRows n T1)) u := fun u hu => Lat.InSpan.sub_list (fun g hg => Lat.InSpan.of_mem (by simp [hg])) ((basis_span a.n1 a.n3 a.shape a.flat u).2 hu)
        refine Lat.InSpan.sub_list (fun g hg => ?_) hv
        simp only [List.mem_cons, List.not_mem_nil, or_false] at hg
        rcases hg with rfl | rfl | rfl | rfl | rfl | rfl
        · exact l1 _ (Lat.Mem.ra T1)
        · exact l1 _ (Lat.Mem.rb T1)
        · exact l1 _ (Lat.Mem.rc T1)
        · exact l2 _ (Lat.Mem.ra T2)
        · exact l2 _ (Lat.Mem.rb T2)
        · exact l2 _ (Lat.Mem.rc T2)
    have hgen : Lat.CanonOf R (G1 ++ G2) := ⟨hR.shape, fun v => by
      rw [hsum v]
      constructor
      · intro hv
        have l1 : ∀ u, Lat.Mem T1 u → Lat.InSpan (G1 ++ G2) u := fun u hu => Lat.InSpan.sub_list (fun g hg => Lat.InSpan.of_mem (by simp [hg])) ((c1.span u).1 hu)
        have l2 : ∀ u, Lat.Mem T2 u → Lat.InSpan (G1 ++ G2) u := fun u hu => Lat.InSpan.sub_list (fun g hg => Lat.InSpan.of_mem (by simp [hg])) ((c2.span u).1 hu)
        refine Lat.InSpan.sub_list (fun g hg => ?_) hv
        simp only [List.mem_cons, List.not_mem_nil, or_false] at hg
        rcases hg with rfl | rfl | rfl | rfl | rfl | rfl
        · exact l1 _ (Lat.Mem.ra T1)
        · exact l1 _ (Lat.Mem.rb T1)
        · exact l1 _ (Lat.Mem.rc T1)
        · exact l2 _ (Lat.Mem.ra T2)
        · exact l2 _ (Lat.Mem.rb T2)
        · exact l2 _ (Lat.Mem.rc T2)
      · intro hv
        refine Lat.InSpan.sub_list (fun g hg => ?_) hv
        rw [List.mem_append] at hg
        rcases hg with hg | hg
        · exact rows_in (T := T1) (Lat.InSpan.of_mem (by simp)) (Lat.InSpan.of_mem (by simp)) (Lat.InSpan.of_mem (by simp)) ((c1.span g).2 (Lat.InSpan.of_mem hg))
        · exact rows_in (T := T2) (Lat.InSpan.of_mem (by simp)) (Lat.InSpan.of_mem (by simp)) (Lat.InSpan.of_mem (by simp)) ((c2.span g).2 (Lat.InSpan.of_mem hg))⟩
    have hle : ∀ g ∈ G1 ++ G2, Lat.Le 4 g := fun g hg => by
      rw [List.mem_append] at hg
      rcases hg with hg | hg
      · exact g1 g hg
      · exact g2 g hg
    have hfit : FitsS R := Lat.light_fits hgen hle
    rcases hor with ⟨_, hf⟩ | ⟨rfl, rfl, hf⟩
    · exact absurd hfit hf
    · refine ⟨txt n T, T, by rw [if_pos rfl], ⟨⟨a.n1, a.n3, hR.shape, flat_of hR (fun zs hz => ?_), hf, rfl⟩, _, hle, hgen⟩, hsum⟩
      rw [List.mem_append] at hz
      rcases hz with hz | hz <;> exact basisRows_each a.n3 zs hz
  · exact (hN.not h1.dec h2.dec).elim

theorem within_lite {s t : ByteArray} {n : Nat} {T1 T2 : Lat.St} {e : Ending} (h1 : DecOK s n T1) (h2 : DecOK t n T2) (h : WithinEnd s t e) : ∃ r : Bool, e = .returned (.tuple #[.bool r, .int .i64 0]) ∧ (r = true ↔ SubL T1 T2) := by
  rcases h with ⟨n', U1, U2, r, a, b, rfl, hr⟩ | ⟨c, hN, _⟩
  · obtain ⟨rfl, rfl⟩ := h1.one a
    obtain ⟨_, rfl⟩ := h2.one b
    exact ⟨r, rfl, hr⟩
  · exact (hN.not h1 h2).elim

def JoinL (n : Nat) (T1 T2 : Lat.St) (e : Ending) : Prop := ∃ t R, e = .returned (.tuple #[.string t, .int .i64 0]) ∧ Lite t n R ∧ SumOf R T1 T2
def InL (T1 T2 : Lat.St) (e : Ending) : Prop := ∃ r : Bool, e = .returned (.tuple #[.bool r, .int .i64 0]) ∧ (r = true ↔ SubL T1 T2)

theorem joinL_any {s t : ByteArray} {n : Nat} {T1 T2 : Lat.St} (h1 : Lite s n T1) (h2 : Lite t n T2) (w : World) : Calls Try.prog 19 #[.string s, .string t] w fun e w' => JoinL n T1 T2 e ∧ Below w.heap.size w w' :=
  (join_any s t w).mono fun e w' ⟨hE, hb⟩ => ⟨join_lite h1 h2 hE, hb⟩
theorem inL_any {s t : ByteArray} {n : Nat} {T1 T2 : Lat.St} (h1 : DecOK s n T1) (h2 : DecOK t n T2) (w : World) : Calls Try.prog 26 #[.string s, .string t] w fun e w' => InL T1 T2 e ∧ Below w.heap.size w w' :=
  (latWithin_any s t w).mono fun e w' ⟨hE, hb⟩ => ⟨within_lite h1 h2 hE, hb⟩

/-- the answer of text -/
def LiteEnd (n : Nat) (e : Ending) : Prop := ∃ x T, e = .returned (.tuple #[.string x, .bool true]) ∧ Lite x n T

set_option maxRecDepth 100000 in
set_option maxHeartbeats 4000000 in
theorem ktext_any (n : Nat) (hn1 : 1 ≤ n) (hn3 : n ≤ 3) (v : Value) (cells : List Int) (w : World) (hv : IntsAt w v cells) (hlen : cells.length ≤ maxLen) :
    Calls Try.prog 18 #[.int .i64 n, v] w fun e w' => LiteEnd n e ∧ Below w.heap.size w w' := by
  have HR := hide0 (rows_gen n hn1 hn3 2 4 v cells w hv hlen (by omega) (by omega) (by omega) (by omega))
  obtain ⟨a, cap, rfl⟩ := hv.slice
  clear hv hlen
  go_enter Try.func18, Try.ntmps18
  go_wp2_with fail
  refine HR.out.mono ?_
  rintro e w1 ⟨⟨out, bs, zss, rfl, hO, hk, hz⟩, hb1⟩
  have hs1 := hb1.size
  have HG0 : Hid (givenE n zss = 0) := hO.given (by omega) (by omega) (by omega) (fun zs hm z hzm => by have := hz zs hm z hzm; omega)
  have HLn : Hid (∀ zs ∈ zss, zs.length = n) := fun zs hm => by
    have := (good_le (given_good HG0.out hm)).2; omega
  have hwi : withinB 4 zss = true := by
    unfold withinB
    rw [List.all_eq_true]; intro zs hm
    rw [List.all_eq_true]; intro z hzm
    have := hz zs hm z hzm
    simp [inB]; omega
  have HWI := hide0 hwi
  have HEN := hide0 (encode_any n _ zss _ (hO.rowsAt (by omega)))
  clear hz HR hO hk hwi
  go_wp2_with fail
  refine HEN.out.mono ?_
  rintro e w2 ⟨⟨T, c, hG, rfl⟩, hb2⟩
  have hc : c = 0 := by
    by_cases h : c = 0
    · exact h
    · have := gen_refused hG HG0.out h
      unfold refB at this
      rw [HWI.out] at this
      simp at this
  subst hc
  have HL : Hid (Lite (txt n T) n T) := ⟨txt_dec hn1 hn3 HLn.out hG, _, within_le HWI.out (by omega), (gen_ok hG).1⟩
  have HB2 := hide0 (hb1.trans (hb2.mono hs1))
  rw [if_pos rfl]
  clear hG hb2 hb1
  generalize txt n T = x at *
  go_wp2
  go_ret2
  exact ⟨⟨x, T, rfl, HL.out⟩, HB2.out⟩

theorem lite_eq {x y : ByteArray} {n : Nat} {T : Lat.St} (h : DecOK x n T) (h' : DecOK y n T) : x = y := by rw [h.str, h'.str]

set_option maxRecDepth 100000 in
set_option maxHeartbeats 4000000 in
theorem ordered_any (x y j : ByteArray) (n : Nat) (T1 T2 R : Lat.St) (w : World) (h1 : DecOK x n T1) (h2 : DecOK y n T2) (hj : DecOK j n R) (hs : SumOf R T1 T2) :
    Calls Try.prog 20 #[.string x, .string y, .string j] w fun e w' => e = .returned (.bool true) ∧ Below w.heap.size w w' := by
  have HA := hide0 (fun w0 => inL_any h1 h2 w0)
  have HP := hide0 (fun w0 => inL_any h1 hj w0)
  have HQ := hide0 (fun w0 => inL_any h2 hj w0)
  have HL := hide0 hs.left
  have HRR := hide0 hs.right
  have HI : Hid (∀ r : Bool, (r = true ↔ SubL T1 T2) → (r == (j.toList == y.toList)) = true) := fun r hr => by
    by_cases h : SubL T1 T2
    · have e : R = T2 := sub_both hj h2 (hs.least h (SubL.refl T2)) hs.right
      subst e
      have e2 : j = y := lite_eq hj h2
      subst e2
      rw [hr.2 h]; simp
    · have e : j ≠ y := fun e => by
        subst e
        obtain ⟨_, e2⟩ := hj.one h2
        subst e2
        exact h hs.left
      have : r = false := by
        cases r
        · rfl
        · exact absurd (hr.1 rfl) h
      rw [str_ne e, this]; rfl
  clear h1 h2 hj hs
  go_enter Try.func20, Try.ntmps20
  go_wp2_with fail
  refine (HA.out _).mono ?_
  rintro e w1 ⟨⟨r, rfl, hr⟩, hb1⟩
  have hs1 := hb1.size
  have hri := HI.out r hr
  clear hr
  go_wp2_with fail
  refine (HP.out _).mono ?_
  rintro e w2 ⟨⟨p, rfl, hp⟩, hb2⟩
  have hp1 := hp.2 HL.out
  subst hp1
  have hs2 := hb2.size
  have HB2 := hide0 (hb1.trans (hb2.mono hs1))
  clear hp hb2
  go_wp2_with fail
  refine (HQ.out _).mono ?_
  rintro e w3 ⟨⟨q, rfl, hq⟩, hb3⟩
  have hq1 := hq.2 HRR.out
  subst hq1
  have HB3 := hide0 (HB2.out.trans (hb3.mono (by omega)))
  clear hq hb3
  go_wp2
  go_ret
  exact ⟨rfl, HB3.out⟩

set_option maxRecDepth 100000 in
set_option maxHeartbeats 8000000 in
theorem merged_walk (q : Int) (r n : Nat) (hn : n = r + 1) (hr : r < 3) (va vb vc : Value) (ca cb cc : List Int) (w : World) (ha : IntsAt w va ca) (hb : IntsAt w vb cb) (hc : IntsAt w vc cc) (la : ca.length ≤ maxLen) (lb : cb.length ≤ maxLen) (lc : cc.length ≤ maxLen)
    (hx : ∀ w0, Calls Try.prog 10 #[.int .i64 q, .int .i64 3] w0 fun e w' => e = .returned (.int .i64 (r : Int)) ∧ w' = w0) :
    Calls Try.prog 4 #[.int .i64 q, va, vb, vc] w fun e w' => e = .returned (.bool true) ∧ Below w.heap.size w w' := by
  have hn1 : 1 ≤ n := by omega
  have hn3 : n ≤ 3 := by omega
  have hrn : (1 : Int) + (r : Int) = (n : Int) := by omega
  have HTA := hide0 (fun (w0 : World) (h0 : Below w.heap.size w w0) => ktext_any n hn1 hn3 va ca w0 (ha.below h0) la)
  have HTB := hide0 (fun (w0 : World) (h0 : Below w.heap.size w w0) => ktext_any n hn1 hn3 vb cb w0 (hb.below h0) lb)
  have HTC := hide0 (fun (w0 : World) (h0 : Below w.heap.size w w0) => ktext_any n hn1 hn3 vc cc w0 (hc.below h0) lc)
  have HX := hide0 hx
  obtain ⟨a1, p1, rfl⟩ := ha.slice
  obtain ⟨a2, p2, rfl⟩ := hb.slice
  obtain ⟨a3, p3, rfl⟩ := hc.slice
  clear ha hb hc hx la lb lc hn
  go_enter Try.func4, Try.ntmps4
  go_wp2_with fail
  refine (HX.out _).mono ?_
  rintro e w' ⟨rfl, hq'⟩; replace hq' := hq'.symm; subst hq'
  have HB0 : Hid (Below w.heap.size w w) := Below.refl _ _
  go_wp2_with fail
  refine (HTA.out _ HB0.out).mono ?_
  rintro e w1 ⟨⟨x, Tx, rfl, hLx⟩, hb1⟩
  have Lx := hide0 hLx
  have HB1 := hide0 (HB0.out.trans (hb1.mono HB0.out.size))
  clear hLx hb1
  go_wp2_with fail
  refine (HTB.out _ HB1.out).mono ?_
  rintro e w2 ⟨⟨y, Ty, rfl, hLy⟩, hb2⟩
  have Ly := hide0 hLy
  have HB2 := hide0 (HB1.out.trans (hb2.mono HB1.out.size))
  clear hLy hb2
  go_wp2_with fail
  refine (HTC.out _ HB2.out).mono ?_
  rintro e w3 ⟨⟨z, Tz, rfl, hLz⟩, hb3⟩
  have Lz := hide0 hLz
  have HB3 := hide0 (HB2.out.trans (hb3.mono HB2.out.size))
  clear hLz hb3
  have HJxx := hide0 (fun w0 => joinL_any Lx.out Lx.out w0)
  go_wp2_with fail
  refine (HJxx.out _).mono ?_
  rintro e w4 ⟨⟨xx, Txx, rfl, hLxx, hSxx⟩, hb4⟩
  have Lxx := hide0 hLxx
  have Sxx := hide0 hSxx
  have HB4 := hide0 (HB3.out.trans (hb4.mono HB3.out.size))
  clear hLxx hSxx hb4
  have HJxy := hide0 (fun w0 => joinL_any Lx.out Ly.out w0)
  go_wp2_with fail
  refine (HJxy.out _).mono ?_
  rintro e w5 ⟨⟨xy, Txy, rfl, hLxy, hSxy⟩, hb5⟩
  have Lxy := hide0 hLxy
  have Sxy := hide0 hSxy
  have HB5 := hide0 (HB4.out.trans (hb5.mono HB4.out.size))
  clear hLxy hSxy hb5
  have HJyx := hide0 (fun w0 => joinL_any Ly.out Lx.out w0)
  go_wp2_with fail
  refine (HJyx.out _).mono ?_
  rintro e w6 ⟨⟨yx, Tyx, rfl, hLyx, hSyx⟩, hb6⟩
  have Lyx := hide0 hLyx
  have Syx := hide0 hSyx
  have HB6 := hide0 (HB5.out.trans (hb6.mono HB5.out.size))
  clear hLyx hSyx hb6
  have HJyz := hide0 (fun w0 => joinL_any Ly.out Lz.out w0)
  go_wp2_with fail
  refine (HJyz.out _).mono ?_
  rintro e w7 ⟨⟨yz, Tyz, rfl, hLyz, hSyz⟩, hb7⟩
  have Lyz := hide0 hLyz
  have Syz := hide0 hSyz
  have HB7 := hide0 (HB6.out.trans (hb7.mono HB6.out.size))
  clear hLyz hSyz hb7
  have e1 : Txx = Tx := sub_both Lxx.out.dec Lx.out.dec (Sxx.out.least (SubL.refl _) (SubL.refl _)) Sxx.out.left
  have e2 : Txy = Tyx := sub_both Lxy.out.dec Lyx.out.dec (Sxy.out.least Syx.out.right Syx.out.left) (Syx.out.least Sxy.out.right Sxy.out.left)
  have e3 : xx = x := by have := Lxx.out.dec; rw [e1] at this; exact lite_eq this Lx.out.dec
  have e4 : yx = xy := by have := Lxy.out.dec; rw [e2] at this; exact lite_eq Lyx.out.dec this
  rw [e3, e4]
  have q1 := eqlStr x
  have q2 := eqlStr xy
  clear e1 e2 e3 e4
  have HJle := hide0 (fun w0 => joinL_any Lxy.out Lz.out w0)
  go_wp2_with fail
  refine (HJle.out _).mono ?_
  rintro e w8 ⟨⟨le, Tle, rfl, hLle, hSle⟩, hb8⟩
  have Lle := hide0 hLle
  have Sle := hide0 hSle
  have HB8 := hide0 (HB7.out.trans (hb8.mono HB7.out.size))
  clear hLle hSle hb8
  have HJri := hide0 (fun w0 => joinL_any Lx.out Lyz.out w0)
  go_wp2_with fail
  refine (HJri.out _).mono ?_
  rintro e w9 ⟨⟨ri, Tri, rfl, hLri, hSri⟩, hb9⟩
  have Lri := hide0 hLri
  have Sri := hide0 hSri
  have HB9 := hide0 (HB8.out.trans (hb9.mono HB8.out.size))
  clear hLri hSri hb9
  have e5 : Tle = Tri := sub_both Lle.out.dec Lri.out.dec
    (Sle.out.least (Sxy.out.least Sri.out.left (Syz.out.left.trans Sri.out.right)) (Syz.out.right.trans Sri.out.right))
    (Sri.out.least (Sxy.out.left.trans Sle.out.left) (Syz.out.least (Sxy.out.right.trans Sle.out.left) Sle.out.right))
  have e6 : ri = le := by have := Lle.out.dec; rw [e5] at this; exact lite_eq Lri.out.dec this
  rw [e6]
  have q3 := eqlStr le
  have HOR := hide0 (fun w0 => ordered_any x y xy n Tx Ty Txy w0 Lx.out.dec Ly.out.dec Lxy.out.dec Sxy.out)
  clear e5 e6
  go_wp2_with fail
  refine (HOR.out _).mono ?_
  rintro e w10 ⟨rfl, hb10⟩
  have HB10 := hide0 (HB9.out.trans (hb10.mono HB9.out.size))
  clear hb10
  go_wp2
  go_ret
  exact ⟨rfl, HB10.out⟩

end Go.Proofs.Ytmlcblnndihjoab
