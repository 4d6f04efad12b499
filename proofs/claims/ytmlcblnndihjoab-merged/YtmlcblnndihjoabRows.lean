/-
  No cell of these rows narrows 'for every input' (looked for: loops, veiled, ifaces, maps, wideKeys, modest, calm, conditions, laid).
  DERIVED. THE GIVEN ROWS OF THIS SEAT. 7 by the template 'for every input the law returns true; each argument reads behind the call as it read before'; 0 by the template 'total and deterministic' (their statements: YtmlcblnndihjoabTotals.lean).
  GIVEN WITH THE SEED: the statements are not yours to turn. If you find one false, say at which input.
  Laid BY PROGRAM, IN A SANDBOX (cutbox-rows.mjs): the forced cells as the released guide's own fill.sh prints them over the translation cf9e0ceea01c2a35… (all of the seat's roots in one cut). By AI agents, Wed Nov 11 2026. No macro, syntax, notation, axiom, sorry.
-/
import Derived.Test.YtmlcblnndihjoabChecked
import GoSem.Claim
import GoSem.ClaimJoined
import GoSem.ClaimMapViews
import Derived.JoinedTies
import Derived.KernelRfl
namespace Go.Proofs.Ytmlcblnndihjoab
/- THE CELL 'sum', in the pinned program and in every row, IS THE sha256 OF THE DUMP (.gsa) THAT YtmlcblnndihjoabProg.lean LOADS. Nothing in Lean hashes anything: it is a label: what it is worth is what the hold of that sum in a sandbox is worth. -/
noncomputable def Try.pinned : Pinned := { name := "ytmlcblnndihjoab", sum := "cf9e0ceea01c2a35bbb3313a52c43b35032518f94a00efb12d5db30bd0360d68", checked := Try.checked }
namespace Rows
def none {H : Type} : Left H := { results := [], args := [] }

/-- 'latticekeep.Rounds': WHATEVER THE INPUT: true; the input reads as it did. -/
def roundsSpec : ChangeSpec := { name := "rounds", fn := fun _ => fun
  | [d1, d2, d3] => { results := [.lit (.bool true)], args := [d1, d2, d3] }
  | _ => none }
def roundsRow : OpenClaim := { program := "ytmlcblnndihjoab", sum := "cf9e0ceea01c2a35bbb3313a52c43b35032518f94a00efb12d5db30bd0360d68", func := "lattice/latticekeep.Rounds", spec := "rounds", apart := false }
def RoundsSaid : Prop := roundsRow.holds Try.pinned (OpenSpec.ofChange roundsSpec)

/-- ITS FALSE NEIGHBOUR: 'it returns false'. Refute it at one input. -/
def roundsWrong : ChangeSpec := { name := "rounds", fn := fun _ => fun
  | [d1, d2, d3] => { results := [.lit (.bool false)], args := [d1, d2, d3] }
  | _ => none }
def RoundsWrongFalsely : Prop := roundsRow.holds Try.pinned (OpenSpec.ofChange roundsWrong)

/-- 'latticekeep.Merged': WHATEVER THE INPUT: true; the input reads as it did. -/
def mergedSpec : ChangeSpec := { name := "merged", fn := fun _ => fun
  | [d1, d2, d3, d4] => { results := [.lit (.bool true)], args := [d1, d2, d3, d4] }
  | _ => none }
def mergedRow : OpenClaim := { program := "ytmlcblnndihjoab", sum := "cf9e0ceea01c2a35bbb3313a52c43b35032518f94a00efb12d5db30bd0360d68", func := "lattice/latticekeep.Merged", spec := "merged", apart := false }
def MergedSaid : Prop := mergedRow.holds Try.pinned (OpenSpec.ofChange mergedSpec)

/-- ITS FALSE NEIGHBOUR: 'it returns false'. Refute it at one input. -/
def mergedWrong : ChangeSpec := { name := "merged", fn := fun _ => fun
  | [d1, d2, d3, d4] => { results := [.lit (.bool false)], args := [d1, d2, d3, d4] }
  | _ => none }
def MergedWrongFalsely : Prop := mergedRow.holds Try.pinned (OpenSpec.ofChange mergedWrong)

/-- 'latticekeep.Quiet': WHATEVER THE INPUT: true; the input reads as it did. -/
def quietSpec : ChangeSpec := { name := "quiet", fn := fun _ => fun
  | [d1, d2] => { results := [.lit (.bool true)], args := [d1, d2] }
  | _ => none }
def quietRow : OpenClaim := { program := "ytmlcblnndihjoab", sum := "cf9e0ceea01c2a35bbb3313a52c43b35032518f94a00efb12d5db30bd0360d68", func := "lattice/latticekeep.Quiet", spec := "quiet", apart := false }
def QuietSaid : Prop := quietRow.holds Try.pinned (OpenSpec.ofChange quietSpec)

/-- ITS FALSE NEIGHBOUR: 'it returns false'. Refute it at one input. -/
def quietWrong : ChangeSpec := { name := "quiet", fn := fun _ => fun
  | [d1, d2] => { results := [.lit (.bool false)], args := [d1, d2] }
  | _ => none }
def QuietWrongFalsely : Prop := quietRow.holds Try.pinned (OpenSpec.ofChange quietWrong)

/-- 'latticekeep.Meets': WHATEVER THE INPUT: true; the input reads as it did. -/
def meetsSpec : ChangeSpec := { name := "meets", fn := fun _ => fun
  | [d1, d2, d3] => { results := [.lit (.bool true)], args := [d1, d2, d3] }
  | _ => none }
def meetsRow : OpenClaim := { program := "ytmlcblnndihjoab", sum := "cf9e0ceea01c2a35bbb3313a52c43b35032518f94a00efb12d5db30bd0360d68", func := "lattice/latticekeep.Meets", spec := "meets", apart := false }
def MeetsSaid : Prop := meetsRow.holds Try.pinned (OpenSpec.ofChange meetsSpec)

/-- ITS FALSE NEIGHBOUR: 'it returns false'. Refute it at one input. -/
def meetsWrong : ChangeSpec := { name := "meets", fn := fun _ => fun
  | [d1, d2, d3] => { results := [.lit (.bool false)], args := [d1, d2, d3] }
  | _ => none }
def MeetsWrongFalsely : Prop := meetsRow.holds Try.pinned (OpenSpec.ofChange meetsWrong)

/-- 'latticekeep.Lasts': WHATEVER THE INPUT: true; the input reads as it did. -/
def lastsSpec : ChangeSpec := { name := "lasts", fn := fun _ => fun
  | [d1, d2] => { results := [.lit (.bool true)], args := [d1, d2] }
  | _ => none }
def lastsRow : OpenClaim := { program := "ytmlcblnndihjoab", sum := "cf9e0ceea01c2a35bbb3313a52c43b35032518f94a00efb12d5db30bd0360d68", func := "lattice/latticekeep.Lasts", spec := "lasts", apart := false }
def LastsSaid : Prop := lastsRow.holds Try.pinned (OpenSpec.ofChange lastsSpec)

/-- ITS FALSE NEIGHBOUR: 'it returns false'. Refute it at one input. -/
def lastsWrong : ChangeSpec := { name := "lasts", fn := fun _ => fun
  | [d1, d2] => { results := [.lit (.bool false)], args := [d1, d2] }
  | _ => none }
def LastsWrongFalsely : Prop := lastsRow.holds Try.pinned (OpenSpec.ofChange lastsWrong)

/-- 'latticekeep.Strokes': WHATEVER THE INPUT: true; the input reads as it did. -/
def strokesSpec : ChangeSpec := { name := "strokes", fn := fun _ => fun
  | [d1, d2] => { results := [.lit (.bool true)], args := [d1, d2] }
  | _ => none }
def strokesRow : OpenClaim := { program := "ytmlcblnndihjoab", sum := "cf9e0ceea01c2a35bbb3313a52c43b35032518f94a00efb12d5db30bd0360d68", func := "lattice/latticekeep.Strokes", spec := "strokes", apart := false }
def StrokesSaid : Prop := strokesRow.holds Try.pinned (OpenSpec.ofChange strokesSpec)

/-- ITS FALSE NEIGHBOUR: 'it returns false'. Refute it at one input. -/
def strokesWrong : ChangeSpec := { name := "strokes", fn := fun _ => fun
  | [d1, d2] => { results := [.lit (.bool false)], args := [d1, d2] }
  | _ => none }
def StrokesWrongFalsely : Prop := strokesRow.holds Try.pinned (OpenSpec.ofChange strokesWrong)

/-- 'latticekeep.Forged': WHATEVER THE INPUT: true; the input reads as it did. -/
def forgedSpec : ChangeSpec := { name := "forged", fn := fun _ => fun
  | [d1, d2, d3, d4] => { results := [.lit (.bool true)], args := [d1, d2, d3, d4] }
  | _ => none }
def forgedRow : OpenClaim := { program := "ytmlcblnndihjoab", sum := "cf9e0ceea01c2a35bbb3313a52c43b35032518f94a00efb12d5db30bd0360d68", func := "lattice/latticekeep.Forged", spec := "forged", apart := false }
def ForgedSaid : Prop := forgedRow.holds Try.pinned (OpenSpec.ofChange forgedSpec)

/-- ITS FALSE NEIGHBOUR: 'it returns false'. Refute it at one input. -/
def forgedWrong : ChangeSpec := { name := "forged", fn := fun _ => fun
  | [d1, d2, d3, d4] => { results := [.lit (.bool false)], args := [d1, d2, d3, d4] }
  | _ => none }
def ForgedWrongFalsely : Prop := forgedRow.holds Try.pinned (OpenSpec.ofChange forgedWrong)

/- THE SECOND FORM. 'bulk': how many values and letters a reading holds, each counted each time it is reached (what is shared counts as often as it is met; a slice's spare places count too). A statement '..UptoSaid' is the law's where the arguments, and the package variables that the reading takes, are together of bulk at most 1048576: NARROWER than '..Said'. Prove '..Said' where nothing that the law and all that it calls make is longer than what came in: it says more and counts as full. Else prove '..UptoSaid'. A law counts once. -/
mutual
def uptoBulk {H : Type} : DataW H → Nat
  | .lit (.string bytes) => bytes.length + 1
  | .lit _ => 1
  | .nil => 1
  | .ptr d => uptoBulk d + 1
  | .slice elems spare => uptoBulkAll elems + uptoBulkAll spare + 1
  | .agg parts => uptoBulkAll parts + 1
  | .iface _ d => uptoBulk d + 1
  | .map entries => uptoBulkEntries entries + 1
  | .held _ => 1
def uptoBulkAll {H : Type} : List (DataW H) → Nat
  | [] => 0
  | d :: r => uptoBulk d + uptoBulkAll r
def uptoBulkEntries {H : Type} : List (Lit × DataW H) → Nat
  | [] => 0
  | x :: r => uptoBulkEntry x + uptoBulkEntries r
def uptoBulkEntry {H : Type} : Lit × DataW H → Nat
  | (.string bytes, d) => bytes.length + uptoBulk d + 1
  | (_, d) => uptoBulk d + 1
 end
def uptoSmall : (H : Type) → List (DataW H) → Bool := fun _ ds => decide (uptoBulkAll ds ≤ 1048576)
def OpenSpec.upto (s : _root_.Go.ChangeSpec) : _root_.Go.OpenSpec := { _root_.Go.OpenSpec.ofChange s with cond := some uptoSmall }

/-- 'latticekeep.Rounds', WHERE WHAT IT READS IS OF BULK AT MOST 1048576: true; the input reads as it did. -/
def roundsUptoRow : OpenClaim := { program := "ytmlcblnndihjoab", sum := "cf9e0ceea01c2a35bbb3313a52c43b35032518f94a00efb12d5db30bd0360d68", func := "lattice/latticekeep.Rounds", spec := "rounds", apart := false, narrowed := true }
def RoundsUptoSaid : Prop := roundsUptoRow.holds Try.pinned (OpenSpec.upto roundsSpec)

/-- 'latticekeep.Merged', WHERE WHAT IT READS IS OF BULK AT MOST 1048576: true; the input reads as it did. -/
def mergedUptoRow : OpenClaim := { program := "ytmlcblnndihjoab", sum := "cf9e0ceea01c2a35bbb3313a52c43b35032518f94a00efb12d5db30bd0360d68", func := "lattice/latticekeep.Merged", spec := "merged", apart := false, narrowed := true }
def MergedUptoSaid : Prop := mergedUptoRow.holds Try.pinned (OpenSpec.upto mergedSpec)

/-- 'latticekeep.Quiet', WHERE WHAT IT READS IS OF BULK AT MOST 1048576: true; the input reads as it did. -/
def quietUptoRow : OpenClaim := { program := "ytmlcblnndihjoab", sum := "cf9e0ceea01c2a35bbb3313a52c43b35032518f94a00efb12d5db30bd0360d68", func := "lattice/latticekeep.Quiet", spec := "quiet", apart := false, narrowed := true }
def QuietUptoSaid : Prop := quietUptoRow.holds Try.pinned (OpenSpec.upto quietSpec)

/-- 'latticekeep.Meets', WHERE WHAT IT READS IS OF BULK AT MOST 1048576: true; the input reads as it did. -/
def meetsUptoRow : OpenClaim := { program := "ytmlcblnndihjoab", sum := "cf9e0ceea01c2a35bbb3313a52c43b35032518f94a00efb12d5db30bd0360d68", func := "lattice/latticekeep.Meets", spec := "meets", apart := false, narrowed := true }
def MeetsUptoSaid : Prop := meetsUptoRow.holds Try.pinned (OpenSpec.upto meetsSpec)

/-- 'latticekeep.Lasts', WHERE WHAT IT READS IS OF BULK AT MOST 1048576: true; the input reads as it did. -/
def lastsUptoRow : OpenClaim := { program := "ytmlcblnndihjoab", sum := "cf9e0ceea01c2a35bbb3313a52c43b35032518f94a00efb12d5db30bd0360d68", func := "lattice/latticekeep.Lasts", spec := "lasts", apart := false, narrowed := true }
def LastsUptoSaid : Prop := lastsUptoRow.holds Try.pinned (OpenSpec.upto lastsSpec)

/-- 'latticekeep.Strokes', WHERE WHAT IT READS IS OF BULK AT MOST 1048576: true; the input reads as it did. -/
def strokesUptoRow : OpenClaim := { program := "ytmlcblnndihjoab", sum := "cf9e0ceea01c2a35bbb3313a52c43b35032518f94a00efb12d5db30bd0360d68", func := "lattice/latticekeep.Strokes", spec := "strokes", apart := false, narrowed := true }
def StrokesUptoSaid : Prop := strokesUptoRow.holds Try.pinned (OpenSpec.upto strokesSpec)

/-- 'latticekeep.Forged', WHERE WHAT IT READS IS OF BULK AT MOST 1048576: true; the input reads as it did. -/
def forgedUptoRow : OpenClaim := { program := "ytmlcblnndihjoab", sum := "cf9e0ceea01c2a35bbb3313a52c43b35032518f94a00efb12d5db30bd0360d68", func := "lattice/latticekeep.Forged", spec := "forged", apart := false, narrowed := true }
def ForgedUptoSaid : Prop := forgedUptoRow.holds Try.pinned (OpenSpec.upto forgedSpec)

end Rows
end Go.Proofs.Ytmlcblnndihjoab
