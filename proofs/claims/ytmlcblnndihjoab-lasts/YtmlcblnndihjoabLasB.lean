import Derived.Test.YtmlcblnndihjoabStrB
set_option linter.unusedSimpArgs false
set_option linter.unusedVariables false
namespace Go.Proofs.Ytmlcblnndihjoab
open Go.RowKit

set_option maxRecDepth 100000 in
set_option maxHeartbeats 4000000 in
theorem kvectorB_any (m : Nat) (h1 : 1 ≤ m) (h3 : m ≤ 3) (a b c : Int) (w : World) :
    Calls Try.prog 23 #[.int .i64 (m : Nat), .int .i64 a, .int .i64 b, .int .i64 c] w fun e w' => (∃ vb, e = .returned (.slice (some ⟨vb, 0, none⟩) m m) ∧ Blk w' vb ((small m a b c).map (Value.int .i64)).toArray 3) ∧ Below w.heap.size w w' := by
  have HR := hide0 (krow_any m h1 h3 a b c w.heap.size _ (Blk.new w #[.int .i64 a, .int .i64 b, .int .i64 c] 3 rfl))
  have HL := hide0 (small_len m h3 a b c)
  generalize small m a b c = zs at *
  go_enter Try.func23, Try.ntmps23
  go_wp2_with fail
  refine HR.out.mono ?_
  rintro e w1 ⟨⟨nb, cap, vb, rfl, hc, kv⟩, hb1⟩
  have HB1 : Hid (Below w.heap.size w w1) := ((Below.refl _ w).alloc (Nat.le_refl _) _).trans (hb1.mono (by simp))
  have HK := hide0 kv
  clear kv hb1
  go_wp2
  go_ret
  exact ⟨⟨vb, rfl, HK.out⟩, HB1.out⟩

theorem ints_blk {w : World} {vb m : Nat} {zs : List Int} (h : Blk w vb (zs.map (Value.int .i64)).toArray 3) (hl : zs.length = m) (h1 : 1 ≤ m) : IntsAt w (.slice (some ⟨vb, 0, none⟩) m m) zs := by
  refine Or.inr ⟨by omega, vb, 0, m, by rw [hl], fun i hi => ?_⟩
  rw [Nat.zero_add, h.cell i, List.getElem?_toArray, List.getElem?_map, List.getElem?_eq_getElem hi, List.getD_eq_getElem?_getD, List.getElem?_eq_getElem hi]; rfl

theorem add_mem {m : Nat} {T R : Lat.St} {zs : List Int} (hz : goodS m zs = true) (h : AddTo m T zs 0 R) : Lat.Mem R (vecOf zs) := by
  rcases h with ⟨a, _⟩ | ⟨_, S, hS, hor⟩
  · rw [hz] at a; cases a
  · rcases hor with ⟨_, _, rfl⟩ | ⟨_, hc, _⟩
    · exact (hS.span _).2 (Lat.InSpan.of_mem (by simp))
    · cases hc

theorem good_of_goodS {m : Nat} {zs : List Int} (h : goodS m zs = true) : goodB m zs = true ∧ zs.length = m := by
  simp only [goodS, Bool.and_eq_true, List.all_eq_true, decide_eq_true_eq] at h
  obtain ⟨a, b⟩ := h
  refine ⟨?_, by omega⟩
  simp only [goodB, Bool.and_eq_true, List.all_eq_true, decide_eq_true_eq]
  exact ⟨a, fun z hz => by have := b z hz; omega⟩

theorem has_taken {m : Nat} {T : Lat.St} {zs : List Int} {e : Ending} (hok : NodeOK m T) (hz : goodS m zs = true) (hm : Lat.Mem T (vecOf zs)) (h : HasOut m (basisRows m T) zs e) : e = .returned (.tuple #[.bool true, .int .i64 0]) := by
  have n1 := hok.n1
  have n3 := hok.n3
  have hw : (decide ((1 : Int) ≤ (m : Int)) && decide ((m : Int) ≤ 3)) = true := by simp; omega
  obtain ⟨r, c, S, rfl, ⟨a, _⟩ | ⟨_, b, _⟩ | ⟨_, _, hG, _, hr⟩⟩ := h
  · rw [hw] at a; cases a
  · rw [(good_of_goodS hz).1] at b; cases b
  · have hgv := basis_given (n := m) (T := T) (by omega) n3 hok.fits
    have : c = 0 ∧ S = T := by
      rcases hG with ⟨hc, hc0⟩ | ⟨_, S', hS, hor⟩
      · rw [hgv] at hc; exact absurd hc hc0
      · have e := hS.one hok.canon (fun _ => Iff.rfl)
        subst e
        rcases hor with ⟨_, hn⟩ | ⟨hc, he, _⟩
        · exact absurd hok.fits hn
        · exact ⟨hc, he⟩
    obtain ⟨rfl, rfl⟩ := this
    rw [(hr rfl).2 hm]

/-- the vectors that were taken -/
structure TK (w : World) (B m : Nat) (nv : Value) (L : List (Nat × List Int)) (T : Lat.St) : Prop where
  row : w.ownsRow B 22 1 nv L.length (L.map fun q => .slice (some ⟨q.1, 0, none⟩) m m)
  each : ∀ q ∈ L, Blk w q.1 (q.2.map (Value.int .i64)).toArray 3 ∧ goodS m q.2 = true ∧ Lat.Mem T (vecOf q.2)

theorem TK.step {w w' : World} {B m : Nat} {nv : Value} {L : List (Nat × List Int)} {T : Lat.St} (h : TK w B m nv L T) (hb : Below w.heap.size w w') : TK w' B m nv L T :=
  ⟨ownsRow_below h.row hb (Nat.le_refl _), fun q hq => by obtain ⟨a, b, c⟩ := h.each q hq; exact ⟨a.below hb a.lt, b, c⟩⟩

theorem TK.keep {w w' : World} {B m : Nat} {nv : Value} {L : List (Nat × List Int)} {T : Lat.St} (h : TK w B m nv L T) {g : Nat} {cs : Array Value} {Tg : TypeId} (kg : Blk w g cs Tg) (h1 : 22 ≠ Tg) (h2 : 3 ≠ Tg) (hK : Keeps [g] w w') : TK w' B m nv L T :=
  ⟨owns_block h.row (fun b hb ho => hK.block b hb (by simp; exact owns_ne h.row kg h1 b ho)), fun q hq => by
    obtain ⟨a, b, c⟩ := h.each q hq
    exact ⟨hK.blk a (by simp; exact blk_ne a kg h2), b, c⟩⟩

theorem TK.up {w : World} {B m : Nat} {nv : Value} {L : List (Nat × List Int)} {T R : Lat.St} (h : TK w B m nv L T) (hs : SubL T R) : TK w B m nv L R :=
  ⟨h.row, fun q hq => by obtain ⟨a, b, c⟩ := h.each q hq; exact ⟨a, b, hs _ c⟩⟩

theorem TK.slice {w : World} {B m : Nat} {nv : Value} {L : List (Nat × List Int)} {T : Lat.St} (h : TK w B m nv L T) : ∃ a c, nv = .slice a L.length c := by
  rcases h.row.2 with ⟨q1, q2⟩ | ⟨g, cap, cur, q1, _⟩
  · exact ⟨none, 0, by rw [q1, q2]⟩
  · exact ⟨_, cap, q1⟩

theorem TK.cellAt {w : World} {B m : Nat} {a : Option Addr} {n c : Nat} {L : List (Nat × List Int)} {T : Lat.St} (h : TK w B m (.slice a n c) L T) {j : Nat} (hj : j < L.length) :
    ∃ b vb zs, a = some ⟨b, 0, none⟩ ∧ w.cell? ⟨b, j, none⟩ = some (.slice (some ⟨vb, 0, none⟩) m m) ∧ Blk w vb (zs.map (Value.int .i64)).toArray 3 ∧ goodS m zs = true ∧ Lat.Mem T (vecOf zs) := by
  obtain ⟨g, cap, hv, _, hc⟩ := ownsRow_cell h.row (by omega)
  cases hv
  obtain ⟨x, y, z⟩ := h.each _ (List.getElem_mem hj)
  exact ⟨g, _, _, rfl, by rw [hc j hj, List.getElem?_map, List.getElem?_eq_getElem hj]; rfl, x, y, z⟩

theorem tinfoIs : (Try.prog.info? 22).map (fun i => (i.zero, i.size, i.bytes)) = some (some (.slice none 0 0), 1, 24) := by kernel_rfl

end Go.Proofs.Ytmlcblnndihjoab
