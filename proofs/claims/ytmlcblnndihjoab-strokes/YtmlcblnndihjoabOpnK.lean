import Derived.Test.YtmlcblnndihjoabKepA
import Derived.Deep.Slices
import Derived.ChangeSame
import Derived.ChangeSlices
import Derived.SliceStrings
set_option linter.unusedSimpArgs false
set_option linter.unusedVariables false
namespace Go.Proofs.Ytmlcblnndihjoab
open Go.RowKit Go.ChangeShapes Go.WideShapes Go.Deep

theorem addr_none {w : World} {x : Addr} {v : Value} (h : w.cell? x = some v) : x = ⟨x.block, x.off, none⟩ := by
  obtain ⟨b, o, sp⟩ := x
  cases sp with
  | none => rfl
  | some k => simp [World.cell?] at h; split at h <;> simp at h

def StrsG (w : World) (v : Value) (ss : List ByteArray) : Prop := StrsAt w v ss ∧ ss.length ≤ maxLen
def IntsG (w : World) (v : Value) (zs : List Int) : Prop := IntsAt w v zs ∧ zs.length ≤ maxLen ∧ ∀ z ∈ zs, -9223372036854775808 ≤ z ∧ z ≤ 9223372036854775807
/-- the slice value v reads as structs of k numbers each -/
def StructsG (k : Nat) (w : World) (v : Value) (xs : List (List Int)) : Prop :=
  (∀ zs ∈ xs, zs.length = k ∧ ∀ z ∈ zs, -9223372036854775808 ≤ z ∧ z ≤ 9223372036854775807) ∧ xs.length ≤ maxLen ∧
  ((xs = [] ∧ ∃ a cap, v = .slice a 0 cap) ∨
  (0 < xs.length ∧ ∃ b o cap, v = .slice (some ⟨b, o, none⟩) xs.length cap ∧ ∀ i, i < xs.length → ∀ j, j < k → w.cell? ⟨b, o + i * k + j, none⟩ = some (.int .i64 ((xs.getD i []).getD j 0))))

section
variable {H : Type} {enc : TypeId × Value → H} {w : World} {base : Nat} {spare : Nat → Bool} {held : Bool}

theorem open_strsG {fuel : Nat} {a : Option Addr} {len cap : Nat} {x : DataW H × List MemPlace} (h : DataW.trod enc Try.prog w base spare held fuel 43 [.slice a len cap] = some x) :
    ∃ ss : List ByteArray, StrsG w (.slice a len cap) ss := by
  rcases open_strings (e := 9) (by kernel_rfl) (by kernel_rfl) (by kernel_rfl) h with ⟨h0, _⟩ | ⟨a', len', cap', ss, hcs, hb, hl, hm, hlen, _, hc, _⟩
  · simp only [List.cons.injEq, and_true] at h0
    exact ⟨[], Or.inl ⟨rfl, none, 0, h0⟩, by simp [maxLen]⟩
  · simp only [List.cons.injEq, and_true, Value.slice.injEq] at hcs
    obtain ⟨rfl, rfl, rfl⟩ := hcs
    have hle : len ≤ ss.length := by rw [hlen]; split <;> omega
    have hlt : (ss.take len).length = len := by simp; omega
    by_cases h0 : len = 0
    · subst h0
      exact ⟨[], Or.inl ⟨rfl, _, _, rfl⟩, by simp [maxLen]⟩
    · have q0 := hc 0 (by omega)
      have ea : a' = ⟨a'.block, a'.off, none⟩ := by
        have : a'.add 0 = a' := by simp [Addr.add]
        rw [this] at q0
        exact addr_none q0
      refine ⟨ss.take len, Or.inr ⟨by omega, a'.block, a'.off, cap, by rw [hlt, ← ea], fun i hi => ?_⟩, by omega⟩
      have hi2 : i < len := by omega
      have := hc i (by omega)
      rw [ea, addr_add0] at this
      rw [this, List.getD_eq_getElem?_getD, List.getD_eq_getElem?_getD, List.getElem?_take_of_lt hi2]
      rfl

theorem open_intsG {fuel : Nat} {a : Option Addr} {len cap : Nat} {x : DataW H × List MemPlace} (h : DataW.trod enc Try.prog w base spare held fuel 22 [.slice a len cap] = some x) :
    ∃ zs : List Int, IntsG w (.slice a len cap) zs := by
  have hu3 : Try.prog.underlying 3 = some (.int .i64) := by kernel_rfl
  rcases open_slice1 (e := 3) (by kernel_rfl) (by kernel_rfl) h with ⟨h0, _⟩ | ⟨a', len', cap', m, n, V, D, Pl, hcs, hb, hl, hm, hmm, _, hx⟩
  · simp only [List.cons.injEq, and_true] at h0
    exact ⟨[], Or.inl ⟨rfl, none, 0, h0⟩, by simp [maxLen], by simp⟩
  · simp only [List.cons.injEq, and_true, Value.slice.injEq] at hcs
    obtain ⟨rfl, rfl, rfl⟩ := hcs
    have hlm : len ≤ m := by rw [hmm]; split <;> omega
    have each : ∀ i, i < len → ∃ z : Int, (-9223372036854775808 ≤ z ∧ z ≤ 9223372036854775807) ∧ w.cell? (a'.add i) = some (.int .i64 z) := fun i hi => by
      obtain ⟨h1, h2⟩ := hx i (by omega)
      obtain ⟨z, e, _, wz⟩ := DataW.trod_int hu3 h2
      simp only [Lit.wf, Bool.and_eq_true, decide_eq_true_eq] at wz
      simp only [List.cons.injEq, and_true] at e
      exact ⟨z, wz, by rw [h1, e]⟩
    by_cases h0 : len = 0
    · subst h0
      exact ⟨[], Or.inl ⟨rfl, _, _, rfl⟩, by simp [maxLen], by simp⟩
    · obtain ⟨_, _, q0⟩ := each 0 (by omega)
      have ea : a' = ⟨a'.block, a'.off, none⟩ := by
        have : a'.add 0 = a' := by simp [Addr.add]
        rw [this] at q0
        exact addr_none q0
      obtain ⟨g, hg⟩ := choose_lt each
      have hlen : ((List.range len).map g).length = len := by simp
      refine ⟨(List.range len).map g, Or.inr ⟨by omega, a'.block, a'.off, cap, by rw [hlen, ← ea], fun i hi => ?_⟩, by omega, ?_⟩
      · have hi2 : i < len := by omega
        have := (hg i hi2).2
        rw [ea, addr_add0] at this
        rw [this, List.getD_eq_getElem?_getD, List.getElem?_map, List.getElem?_range hi2]
        rfl
      · intro z hz
        obtain ⟨i, hi, rfl⟩ := List.mem_map.1 hz
        exact (hg i (List.mem_range.1 hi)).1

theorem open_struct1 {e : TypeId} {k n : Nat} {cs : List Value} {y : DataW H × List MemPlace} (he : Try.prog.underlying e = some (.struct (Try.prog.fieldsOf e))) (hk : Try.prog.cellsOf e = k)
    (hfs : ((Try.prog.fieldsOf e).toList.map fun f => (f.type, f.offset)) = (List.range k).map fun j => (3, j)) (h : DataW.trod enc Try.prog w base spare held n e cs = some y) :
    ∃ zs : List Int, zs.length = k ∧ cs = zs.map (Value.int .i64) ∧ ∀ z ∈ zs, -9223372036854775808 ≤ z ∧ z ≤ 9223372036854775807 := by
  have hu3 : Try.prog.underlying 3 = some (.int .i64) := by kernel_rfl
  have hc3 : Try.prog.cellsOf 3 = 1 := by kernel_rfl
  obtain ⟨xs, kk, _, _, hlen, hxl, hf⟩ := DataW.trod_struct he h
  rw [hk] at hlen
  have hsz : (Try.prog.fieldsOf e).size = k := by
    have := congrArg List.length hfs
    simpa using this
  have each : ∀ j, j < k → ∃ z : Int, (-9223372036854775808 ≤ z ∧ z ≤ 9223372036854775807) ∧ cs[j]? = some (.int .i64 z) := fun j hj => by
    have hj2 : j < (Try.prog.fieldsOf e).size := by omega
    have hfj := hf j ((Try.prog.fieldsOf e)[j]) (Array.getElem?_eq_getElem hj2)
    have ht : ((Try.prog.fieldsOf e)[j]).type = 3 ∧ ((Try.prog.fieldsOf e)[j]).offset = j := by
      have := congrArg (fun l => l[j]?) hfs
      simp only [List.getElem?_map, Array.getElem?_toList, Array.getElem?_eq_getElem hj2, Option.map_some, List.getElem?_range hj] at this
      simpa using this
    rw [ht.1, ht.2, hc3] at hfj
    have hxj : xs[j]? = some (xs[j]'(by omega)) := List.getElem?_eq_getElem _
    rw [hxj] at hfj
    obtain ⟨z, e1, _, wz⟩ := DataW.trod_int hu3 hfj
    simp only [Lit.wf, Bool.and_eq_true, decide_eq_true_eq] at wz
    refine ⟨z, wz, ?_⟩
    have := congrArg (fun l => l[0]?) e1
    simpa [List.getElem?_take, List.getElem?_drop] using this
  obtain ⟨g, hg⟩ := choose_lt each
  refine ⟨(List.range k).map g, by simp, ?_, ?_⟩
  · apply List.ext_getElem? 
    intro j
    by_cases hj : j < k
    · rw [(hg j hj).2, List.getElem?_map, List.getElem?_map, List.getElem?_range hj]; rfl
    · rw [List.getElem?_eq_none (by omega), List.getElem?_eq_none (by simp; omega)]
  · intro z hz
    obtain ⟨i, hi, rfl⟩ := List.mem_map.1 hz
    exact (hg i (List.mem_range.1 hi)).1

theorem open_structsG {t e : TypeId} {k fuel : Nat} {a : Option Addr} {len cap : Nat} {x : DataW H × List MemPlace} (ht : Try.prog.underlying t = some (.slice e)) (he : Try.prog.underlying e = some (.struct (Try.prog.fieldsOf e))) (hk : Try.prog.cellsOf e = k)
    (hfs : ((Try.prog.fieldsOf e).toList.map fun f => (f.type, f.offset)) = (List.range k).map fun j => (3, j)) (h0k : 0 < k) (h : DataW.trod enc Try.prog w base spare held fuel t [.slice a len cap] = some x) :
    ∃ xs : List (List Int), StructsG k w (.slice a len cap) xs := by
  rcases open_slice ht h with ⟨h0, _⟩ | ⟨a', len', cap', m, n, D, Pl, hcs, hb, hl, hm, hmm, _, hx⟩
  · simp only [List.cons.injEq, and_true] at h0
    exact ⟨[], by simp, by simp [maxLen], Or.inl ⟨rfl, none, 0, h0⟩⟩
  · simp only [List.cons.injEq, and_true, Value.slice.injEq] at hcs
    obtain ⟨rfl, rfl, rfl⟩ := hcs
    have hlm : len ≤ m := by rw [hmm]; split <;> omega
    have each : ∀ i, i < len → ∃ zs : List Int, (zs.length = k ∧ ∀ z ∈ zs, -9223372036854775808 ≤ z ∧ z ≤ 9223372036854775807) ∧ ∀ j, j < k → w.cell? (a'.add (i * k + j)) = some (.int .i64 (zs.getD j 0)) := fun i hi => by
      obtain ⟨cs', h1, h2⟩ := hx i (by omega)
      rw [hk] at h1
      obtain ⟨zs, hzl, rfl, hzr⟩ := open_struct1 he hk hfs h2
      obtain ⟨_, _, hcell⟩ := World.cells?_some h1
      refine ⟨zs, ⟨hzl, hzr⟩, fun j hj => ?_⟩
      have e0 := hcell j hj
      rw [add_add] at e0
      rw [e0, List.getElem?_map, List.getD_eq_getElem?_getD, List.getElem?_eq_getElem (by omega)]
      rfl
    by_cases h0 : len = 0
    · subst h0
      exact ⟨[], by simp, by simp [maxLen], Or.inl ⟨rfl, _, _, rfl⟩⟩
    · obtain ⟨_, _, q0⟩ := each 0 (by omega)
      have ea : a' = ⟨a'.block, a'.off, none⟩ := by
        have q := q0 0 h0k
        have : a'.add (0 * k + 0) = a' := by simp [Addr.add]
        rw [this] at q
        exact addr_none q
      obtain ⟨g, hg⟩ := choose_lt each
      have hlen : ((List.range len).map g).length = len := by simp
      refine ⟨(List.range len).map g, ?_, by omega, Or.inr ⟨by omega, a'.block, a'.off, cap, by rw [hlen, ← ea], fun i hi j hj => ?_⟩⟩
      · intro zs hz
        obtain ⟨i, hi, rfl⟩ := List.mem_map.1 hz
        exact (hg i (List.mem_range.1 hi)).1
      · have hi2 : i < len := by omega
        have := (hg i hi2).2 j hj
        rw [ea, addr_add0] at this
        have hgd : ((List.range len).map g).getD i [] = g i := by
          rw [List.getD_eq_getElem?_getD, List.getElem?_map, List.getElem?_range hi2]; rfl
        rw [hgd, Nat.add_assoc]
        exact this

end

end Go.Proofs.Ytmlcblnndihjoab
