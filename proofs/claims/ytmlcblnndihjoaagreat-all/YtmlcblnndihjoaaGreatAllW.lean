import Derived.Test.YtmlcblnndihjoaaGreatOpsO
import Derived.Test.YtmlcblnndihjoaaGreatBasesW
import Derived.Test.YtmlcblnndihjoaaGreatMembersW
import Derived.Test.YtmlcblnndihjoaaGreatTextD
import Derived.Test.YtmlcblnndihjoaaGreatReadsW
import Derived.Test.YtmlcblnndihjoaaGreatJoinE
import Derived.ChangeSlices
import Derived.SliceStrings
set_option linter.unusedSimpArgs false
set_option linter.unusedVariables false
namespace Go.Proofs.YtmlcblnndihjoaaGreat
open Go.RowKit Go.ChangeShapes Go.WideShapes Go.Deep

def IntsG (w : World) (v : Value) (zs : List Int) : Prop := IntsAt w v zs ∧ zs.length ≤ maxLen ∧ ∀ z ∈ zs, -9223372036854775808 ≤ z ∧ z ≤ 9223372036854775807
def OpsG (w : World) (v : Value) (ops : List OpG) : Prop := OpsAt w v ops ∧ ∀ o ∈ ops, o.ok

section
variable {H : Type} {enc : TypeId × Value → H} {w : World} {base : Nat} {spare : Nat → Bool} {held : Bool}

theorem open_intsG {fuel : Nat} {a : Option Addr} {len cap : Nat} {x : DataW H × List MemPlace} (h : DataW.trod enc Tryz.prog w base spare held fuel 23 [.slice a len cap] = some x) :
    ∃ zs : List Int, IntsG w (.slice a len cap) zs := by
  have hu3 : Tryz.prog.underlying 3 = some (.int .i64) := by kernel_rfl
  rcases open_slice1 (e := 3) (by kernel_rfl) (by kernel_rfl) h with ⟨h0, _⟩ | ⟨a', len', cap', m, n, V, D, Pl, hcs, hb, hl, hm, hmm, _, hx⟩
  · simp only [List.cons.injEq, and_true] at h0
    exact ⟨[], Or.inl ⟨rfl, none, 0, h0⟩, by simp [maxLen], by simp⟩
  · simp only [List.cons.injEq, and_true, Value.slice.injEq] at hcs
    obtain ⟨rfl, rfl, rfl⟩ := hcs
    have hlm : len ≤ m := by rw [hmm]; split <;> omega
    have each : ∀ i, i < len → ∃ z : Int, (-9223372036854775808 ≤ z ∧ z ≤ 9223372036854775807) ∧ w.cell? (a'.add i) = some (.int .i64 z) := fun i hi => by
      obtain ⟨h1, h2⟩ := hx i (by omega)
      obtain ⟨z, e, _, wz⟩ := DataW.trod_int hu3 h2
      simp only [Lit.wf, Bool.and_eq_true, decide_eq_true_eq] at wz
      simp only [List.cons.injEq, and_true] at e
      exact ⟨z, wz, by rw [h1, e]⟩
    by_cases h0 : len = 0
    · subst h0
      exact ⟨[], Or.inl ⟨rfl, _, _, rfl⟩, by simp [maxLen], by simp⟩
    · obtain ⟨_, _, q0⟩ := each 0 (by omega)
      have ea : a' = ⟨a'.block, a'.off, none⟩ := by
        have : a'.add 0 = a' := by simp [Addr.add]
        rw [this] at q0
        exact addr_none q0
      obtain ⟨g, hg⟩ := choose_lt each
      have hlen : ((List.range len).map g).length = len := by simp
      refine ⟨(List.range len).map g, Or.inr ⟨by omega, a'.block, a'.off, cap, by rw [hlen, ← ea], fun i hi => ?_⟩, by omega, ?_⟩
      · have hi2 : i < len := by omega
        have := (hg i hi2).2
        rw [ea, addr_add0] at this
        rw [this, List.getD_eq_getElem?_getD, List.getElem?_map, List.getElem?_range hi2]
        rfl
      · intro z hz
        obtain ⟨i, hi, rfl⟩ := List.mem_map.1 hz
        exact (hg i (List.mem_range.1 hi)).1

theorem open_opsG {fuel : Nat} {a : Option Addr} {len cap : Nat} {x : DataW H × List MemPlace} (h : DataW.trod enc Tryz.prog w base spare held fuel 22 [.slice a len cap] = some x) :
    ∃ ops : List OpG, OpsG w (.slice a len cap) ops := open_ops h
end

set_option maxRecDepth 100000 in
set_option maxHeartbeats 4000000 in
theorem nodesAll_walk (a0 : Int) (v : Value) (ops : List OpG) (w : World) (hv : OpsAt w v ops) (hok : ∀ o ∈ ops, o.ok) :
    Calls Tryz.prog 5 #[.int .i64 a0, v] w fun e w' => e = .returned (.bool true) ∧ Below w.heap.size w w' := by
  have HP := hide0 (plays_any a0 (-1) (-1) v ops w hv hok)
  obtain ⟨a, c, rfl⟩ := hv.slice
  clear hv hok
  generalize ops.length = ln at *
  go_enter Tryz.func5, Tryz.ntmps5
  go_wp2_with fail
  refine HP.out.mono ?_
  rintro e w1 ⟨rfl, hb1⟩
  go_wp2
  go_ret
  exact ⟨rfl, hb1⟩


theorem OpsAt.belowA {w w' : World} {v : Value} {ops : List OpG} (h : OpsAt w v ops) (hb : Below w.heap.size w w') : OpsAt w' v ops := by
  rcases h with h | ⟨h0, b, o, cap, e, hc⟩
  · exact Or.inl h
  · refine Or.inr ⟨h0, b, o, cap, e, fun i hi => ?_⟩
    obtain ⟨h1, h2, h3, h4⟩ := hc i hi
    exact ⟨cell_below hb h1, cell_below hb h2, cell_below hb h3, cell_below hb h4⟩

set_option maxRecDepth 100000 in
set_option maxHeartbeats 4000000 in
theorem all_walk (n : Int) (u1 : Value) (ops : List OpG) (u2 u3 u4 : Value) (cells cuts zs : List Int) (s t : ByteArray) (w : World) (h1 : OpsG w u1 ops) (h2 : IntsG w u2 cells) (h3 : IntsG w u3 cuts) (h4 : IntsG w u4 zs) :
    Calls Tryz.prog 3 #[.int .i64 n, u1, u2, u3, u4, .string s, .string t] w fun e w' => e = .returned (.bool true) ∧ Below w.heap.size w w' := by
  have HA := hide0 (fun w0 (hb : Below w.heap.size w w0) => bases_walk n u2 u3 cells cuts w0 (h2.1.below hb) (h3.1.below hb))
  have HN := hide0 (fun w0 (hb : Below w.heap.size w w0) => nodesAll_walk n u1 ops w0 (h1.1.belowA hb) h1.2)
  have HM := hide0 (fun w0 (hb : Below w.heap.size w w0) => members_walk n u2 u3 u4 cells cuts zs w0 (h2.1.below hb) (h3.1.below hb) (h4.1.below hb))
  have HT := hide0 (fun w0 (hb : Below w.heap.size w w0) => texts_walk n u2 u3 cells cuts w0 (h2.1.below hb) (h3.1.below hb))
  have HR := hide0 (fun w0 => reads_walk s w0)
  have HJ := hide0 (fun w0 => joins_walk s t w0)
  have H0 : Hid (Below w.heap.size w w) := Below.refl _ _
  obtain ⟨a1, c1, rfl⟩ := h1.1.slice
  obtain ⟨a2, c2, rfl⟩ := h2.1.slice
  obtain ⟨a3, c3, rfl⟩ := h3.1.slice
  obtain ⟨a4, c4, rfl⟩ := h4.1.slice
  generalize ops.length = l1 at *
  generalize cells.length = l2 at *
  generalize cuts.length = l3 at *
  generalize zs.length = l4 at *
  clear h1 h2 h3 h4
  go_enter Tryz.func3, Tryz.ntmps3
  go_wp2_with fail
  refine (HA.out _ H0.out).mono ?_
  rintro e w1 ⟨rfl, hb1⟩
  have HB1 := hide0 hb1
  clear hb1
  go_wp2_with fail
  refine (HN.out _ HB1.out).mono ?_
  rintro e w2 ⟨rfl, hb2⟩
  have HB2 := hide0 (HB1.out.trans (hb2.mono HB1.out.size))
  clear hb2
  go_wp2_with fail
  refine (HM.out _ HB2.out).mono ?_
  rintro e w3 ⟨rfl, hb3⟩
  have HB3 := hide0 (HB2.out.trans (hb3.mono HB2.out.size))
  clear hb3
  go_wp2_with fail
  refine (HT.out _ HB3.out).mono ?_
  rintro e w4 ⟨rfl, hb4⟩
  have HB4 := hide0 (HB3.out.trans (hb4.mono HB3.out.size))
  clear hb4
  go_wp2_with fail
  refine (HR.out _).mono ?_
  rintro e w5 ⟨rfl, hb5⟩
  have HB5 := hide0 (HB4.out.trans (hb5.mono HB4.out.size))
  clear hb5
  go_wp2_with fail
  refine (HJ.out _).mono ?_
  rintro e w6 ⟨rfl, hb6⟩
  have HB6 := hide0 (HB5.out.trans (hb6.mono HB5.out.size))
  clear hb6
  go_wp2_with fail
  refine (HN.out _ HB6.out).mono ?_
  rintro e w7 ⟨rfl, hb7⟩
  have HB7 := hide0 (HB6.out.trans (hb7.mono HB6.out.size))
  clear hb7
  go_wp2
  go_ret
  exact ⟨rfl, HB7.out⟩

end Go.Proofs.YtmlcblnndihjoaaGreat
