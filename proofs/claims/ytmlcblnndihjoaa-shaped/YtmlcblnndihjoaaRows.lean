/-
  No cell of these rows narrows 'for every input' (looked for: loops, veiled, ifaces, maps, wideKeys, modest, calm, conditions, laid).
  DERIVED. THE GIVEN ROWS OF THIS SEAT. 11 by the template 'for every input the law returns true; each argument reads behind the call as it read before'; 0 by the template 'total and deterministic' (their statements: YtmlcblnndihjoaaTotals.lean).
  GIVEN WITH THE SEED: the statements are not yours to turn. If you find one false, say at which input.
  Laid BY PROGRAM, IN A SANDBOX (cutbox-rows.mjs): the forced cells as the released guide's own fill.sh prints them over the translation 5715225165f43c27… (all of the seat's roots in one cut). By AI agents, Wed Nov 11 2026. No macro, syntax, notation, axiom, sorry.
-/
import Derived.Test.YtmlcblnndihjoaaChecked
import GoSem.Claim
import GoSem.ClaimJoined
import GoSem.ClaimMapViews
import Derived.JoinedTies
import Derived.KernelRfl
namespace Go.Proofs.Ytmlcblnndihjoaa
/- THE CELL 'sum', in the pinned program and in every row, IS THE sha256 OF THE DUMP (.gsa) THAT YtmlcblnndihjoaaProg.lean LOADS. Nothing in Lean hashes anything: it is a label: what it is worth is what the hold of that sum in a sandbox is worth. -/
noncomputable def Try.pinned : Pinned := { name := "ytmlcblnndihjoaa", sum := "5715225165f43c2799e2bbdeafb0c5f30c359a68964564ae057399a27544e3d1", checked := Try.checked }
namespace Rows
def none {H : Type} : Left H := { results := [], args := [] }

/-- 'latticelaw.Bases': WHATEVER THE INPUT: true; the input reads as it did. -/
def basesSpec : ChangeSpec := { name := "bases", fn := fun _ => fun
  | [d1, d2, d3] => { results := [.lit (.bool true)], args := [d1, d2, d3] }
  | _ => none }
def basesRow : OpenClaim := { program := "ytmlcblnndihjoaa", sum := "5715225165f43c2799e2bbdeafb0c5f30c359a68964564ae057399a27544e3d1", func := "lattice/latticelaw.Bases", spec := "bases", apart := false }
def BasesSaid : Prop := basesRow.holds Try.pinned (OpenSpec.ofChange basesSpec)

/-- ITS FALSE NEIGHBOUR: 'it returns false'. Refute it at one input. -/
def basesWrong : ChangeSpec := { name := "bases", fn := fun _ => fun
  | [d1, d2, d3] => { results := [.lit (.bool false)], args := [d1, d2, d3] }
  | _ => none }
def BasesWrongFalsely : Prop := basesRow.holds Try.pinned (OpenSpec.ofChange basesWrong)

/-- 'latticelaw.Members': WHATEVER THE INPUT: true; the input reads as it did. -/
def membersSpec : ChangeSpec := { name := "members", fn := fun _ => fun
  | [d1, d2, d3, d4] => { results := [.lit (.bool true)], args := [d1, d2, d3, d4] }
  | _ => none }
def membersRow : OpenClaim := { program := "ytmlcblnndihjoaa", sum := "5715225165f43c2799e2bbdeafb0c5f30c359a68964564ae057399a27544e3d1", func := "lattice/latticelaw.Members", spec := "members", apart := false }
def MembersSaid : Prop := membersRow.holds Try.pinned (OpenSpec.ofChange membersSpec)

/-- ITS FALSE NEIGHBOUR: 'it returns false'. Refute it at one input. -/
def membersWrong : ChangeSpec := { name := "members", fn := fun _ => fun
  | [d1, d2, d3, d4] => { results := [.lit (.bool false)], args := [d1, d2, d3, d4] }
  | _ => none }
def MembersWrongFalsely : Prop := membersRow.holds Try.pinned (OpenSpec.ofChange membersWrong)

/-- 'latticelaw.Texts': WHATEVER THE INPUT: true; the input reads as it did. -/
def textsSpec : ChangeSpec := { name := "texts", fn := fun _ => fun
  | [d1, d2, d3] => { results := [.lit (.bool true)], args := [d1, d2, d3] }
  | _ => none }
def textsRow : OpenClaim := { program := "ytmlcblnndihjoaa", sum := "5715225165f43c2799e2bbdeafb0c5f30c359a68964564ae057399a27544e3d1", func := "lattice/latticelaw.Texts", spec := "texts", apart := false }
def TextsSaid : Prop := textsRow.holds Try.pinned (OpenSpec.ofChange textsSpec)

/-- ITS FALSE NEIGHBOUR: 'it returns false'. Refute it at one input. -/
def textsWrong : ChangeSpec := { name := "texts", fn := fun _ => fun
  | [d1, d2, d3] => { results := [.lit (.bool false)], args := [d1, d2, d3] }
  | _ => none }
def TextsWrongFalsely : Prop := textsRow.holds Try.pinned (OpenSpec.ofChange textsWrong)

/-- 'latticelaw.Reads': WHATEVER THE INPUT: true; the input reads as it did. -/
def readsSpec : ChangeSpec := { name := "reads", fn := fun _ => fun
  | [d] => { results := [.lit (.bool true)], args := [d] }
  | _ => none }
def readsRow : OpenClaim := { program := "ytmlcblnndihjoaa", sum := "5715225165f43c2799e2bbdeafb0c5f30c359a68964564ae057399a27544e3d1", func := "lattice/latticelaw.Reads", spec := "reads", apart := false }
def ReadsSaid : Prop := readsRow.holds Try.pinned (OpenSpec.ofChange readsSpec)

/-- ITS FALSE NEIGHBOUR: 'it returns false'. Refute it at one input. -/
def readsWrong : ChangeSpec := { name := "reads", fn := fun _ => fun
  | [d] => { results := [.lit (.bool false)], args := [d] }
  | _ => none }
def ReadsWrongFalsely : Prop := readsRow.holds Try.pinned (OpenSpec.ofChange readsWrong)

/-- 'latticelaw.Joins': WHATEVER THE INPUT: true; the input reads as it did. -/
def joinsSpec : ChangeSpec := { name := "joins", fn := fun _ => fun
  | [d1, d2] => { results := [.lit (.bool true)], args := [d1, d2] }
  | _ => none }
def joinsRow : OpenClaim := { program := "ytmlcblnndihjoaa", sum := "5715225165f43c2799e2bbdeafb0c5f30c359a68964564ae057399a27544e3d1", func := "lattice/latticelaw.Joins", spec := "joins", apart := false }
def JoinsSaid : Prop := joinsRow.holds Try.pinned (OpenSpec.ofChange joinsSpec)

/-- ITS FALSE NEIGHBOUR: 'it returns false'. Refute it at one input. -/
def joinsWrong : ChangeSpec := { name := "joins", fn := fun _ => fun
  | [d1, d2] => { results := [.lit (.bool false)], args := [d1, d2] }
  | _ => none }
def JoinsWrongFalsely : Prop := joinsRow.holds Try.pinned (OpenSpec.ofChange joinsWrong)

/-- 'latticelaw.Adds': WHATEVER THE INPUT: true; the input reads as it did. -/
def addsSpec : ChangeSpec := { name := "adds", fn := fun _ => fun
  | [d1, d2] => { results := [.lit (.bool true)], args := [d1, d2] }
  | _ => none }
def addsRow : OpenClaim := { program := "ytmlcblnndihjoaa", sum := "5715225165f43c2799e2bbdeafb0c5f30c359a68964564ae057399a27544e3d1", func := "lattice/latticelaw.Adds", spec := "adds", apart := false }
def AddsSaid : Prop := addsRow.holds Try.pinned (OpenSpec.ofChange addsSpec)

/-- ITS FALSE NEIGHBOUR: 'it returns false'. Refute it at one input. -/
def addsWrong : ChangeSpec := { name := "adds", fn := fun _ => fun
  | [d1, d2] => { results := [.lit (.bool false)], args := [d1, d2] }
  | _ => none }
def AddsWrongFalsely : Prop := addsRow.holds Try.pinned (OpenSpec.ofChange addsWrong)

/-- 'latticelaw.Receives': WHATEVER THE INPUT: true; the input reads as it did. -/
def receivesSpec : ChangeSpec := { name := "receives", fn := fun _ => fun
  | [d1, d2] => { results := [.lit (.bool true)], args := [d1, d2] }
  | _ => none }
def receivesRow : OpenClaim := { program := "ytmlcblnndihjoaa", sum := "5715225165f43c2799e2bbdeafb0c5f30c359a68964564ae057399a27544e3d1", func := "lattice/latticelaw.Receives", spec := "receives", apart := false }
def ReceivesSaid : Prop := receivesRow.holds Try.pinned (OpenSpec.ofChange receivesSpec)

/-- ITS FALSE NEIGHBOUR: 'it returns false'. Refute it at one input. -/
def receivesWrong : ChangeSpec := { name := "receives", fn := fun _ => fun
  | [d1, d2] => { results := [.lit (.bool false)], args := [d1, d2] }
  | _ => none }
def ReceivesWrongFalsely : Prop := receivesRow.holds Try.pinned (OpenSpec.ofChange receivesWrong)

/-- 'latticelaw.Nodes': WHATEVER THE INPUT: true; the input reads as it did. -/
def nodesSpec : ChangeSpec := { name := "nodes", fn := fun _ => fun
  | [d1, d2] => { results := [.lit (.bool true)], args := [d1, d2] }
  | _ => none }
def nodesRow : OpenClaim := { program := "ytmlcblnndihjoaa", sum := "5715225165f43c2799e2bbdeafb0c5f30c359a68964564ae057399a27544e3d1", func := "lattice/latticelaw.Nodes", spec := "nodes", apart := false }
def NodesSaid : Prop := nodesRow.holds Try.pinned (OpenSpec.ofChange nodesSpec)

/-- ITS FALSE NEIGHBOUR: 'it returns false'. Refute it at one input. -/
def nodesWrong : ChangeSpec := { name := "nodes", fn := fun _ => fun
  | [d1, d2] => { results := [.lit (.bool false)], args := [d1, d2] }
  | _ => none }
def NodesWrongFalsely : Prop := nodesRow.holds Try.pinned (OpenSpec.ofChange nodesWrong)

/-- 'latticekeep.Shaped': WHATEVER THE INPUT: true; the input reads as it did. -/
def shapedSpec : ChangeSpec := { name := "shaped", fn := fun _ => fun
  | [d1, d2] => { results := [.lit (.bool true)], args := [d1, d2] }
  | _ => none }
def shapedRow : OpenClaim := { program := "ytmlcblnndihjoaa", sum := "5715225165f43c2799e2bbdeafb0c5f30c359a68964564ae057399a27544e3d1", func := "lattice/latticekeep.Shaped", spec := "shaped", apart := false }
def ShapedSaid : Prop := shapedRow.holds Try.pinned (OpenSpec.ofChange shapedSpec)

/-- ITS FALSE NEIGHBOUR: 'it returns false'. Refute it at one input. -/
def shapedWrong : ChangeSpec := { name := "shaped", fn := fun _ => fun
  | [d1, d2] => { results := [.lit (.bool false)], args := [d1, d2] }
  | _ => none }
def ShapedWrongFalsely : Prop := shapedRow.holds Try.pinned (OpenSpec.ofChange shapedWrong)

/-- 'latticekeep.Moved': WHATEVER THE INPUT: true; the input reads as it did. -/
def movedSpec : ChangeSpec := { name := "moved", fn := fun _ => fun
  | [d1, d2, d3, d4, d5] => { results := [.lit (.bool true)], args := [d1, d2, d3, d4, d5] }
  | _ => none }
def movedRow : OpenClaim := { program := "ytmlcblnndihjoaa", sum := "5715225165f43c2799e2bbdeafb0c5f30c359a68964564ae057399a27544e3d1", func := "lattice/latticekeep.Moved", spec := "moved", apart := false }
def MovedSaid : Prop := movedRow.holds Try.pinned (OpenSpec.ofChange movedSpec)

/-- ITS FALSE NEIGHBOUR: 'it returns false'. Refute it at one input. -/
def movedWrong : ChangeSpec := { name := "moved", fn := fun _ => fun
  | [d1, d2, d3, d4, d5] => { results := [.lit (.bool false)], args := [d1, d2, d3, d4, d5] }
  | _ => none }
def MovedWrongFalsely : Prop := movedRow.holds Try.pinned (OpenSpec.ofChange movedWrong)

/-- 'latticekeep.Volumes': WHATEVER THE INPUT: true; the input reads as it did. -/
def volumesSpec : ChangeSpec := { name := "volumes", fn := fun _ => fun
  | [d1, d2] => { results := [.lit (.bool true)], args := [d1, d2] }
  | _ => none }
def volumesRow : OpenClaim := { program := "ytmlcblnndihjoaa", sum := "5715225165f43c2799e2bbdeafb0c5f30c359a68964564ae057399a27544e3d1", func := "lattice/latticekeep.Volumes", spec := "volumes", apart := false }
def VolumesSaid : Prop := volumesRow.holds Try.pinned (OpenSpec.ofChange volumesSpec)

/-- ITS FALSE NEIGHBOUR: 'it returns false'. Refute it at one input. -/
def volumesWrong : ChangeSpec := { name := "volumes", fn := fun _ => fun
  | [d1, d2] => { results := [.lit (.bool false)], args := [d1, d2] }
  | _ => none }
def VolumesWrongFalsely : Prop := volumesRow.holds Try.pinned (OpenSpec.ofChange volumesWrong)

/- THE SECOND FORM. 'bulk': how many values and letters a reading holds, each counted each time it is reached (what is shared counts as often as it is met; a slice's spare places count too). A statement '..UptoSaid' is the law's where the arguments, and the package variables that the reading takes, are together of bulk at most 1048576: NARROWER than '..Said'. Prove '..Said' where nothing that the law and all that it calls make is longer than what came in: it says more and counts as full. Else prove '..UptoSaid'. A law counts once. -/
mutual
def uptoBulk {H : Type} : DataW H → Nat
  | .lit (.string bytes) => bytes.length + 1
  | .lit _ => 1
  | .nil => 1
  | .ptr d => uptoBulk d + 1
  | .slice elems spare => uptoBulkAll elems + uptoBulkAll spare + 1
  | .agg parts => uptoBulkAll parts + 1
  | .iface _ d => uptoBulk d + 1
  | .map entries => uptoBulkEntries entries + 1
  | .held _ => 1
def uptoBulkAll {H : Type} : List (DataW H) → Nat
  | [] => 0
  | d :: r => uptoBulk d + uptoBulkAll r
def uptoBulkEntries {H : Type} : List (Lit × DataW H) → Nat
  | [] => 0
  | x :: r => uptoBulkEntry x + uptoBulkEntries r
def uptoBulkEntry {H : Type} : Lit × DataW H → Nat
  | (.string bytes, d) => bytes.length + uptoBulk d + 1
  | (_, d) => uptoBulk d + 1
 end
def uptoSmall : (H : Type) → List (DataW H) → Bool := fun _ ds => decide (uptoBulkAll ds ≤ 1048576)
def OpenSpec.upto (s : _root_.Go.ChangeSpec) : _root_.Go.OpenSpec := { _root_.Go.OpenSpec.ofChange s with cond := some uptoSmall }

/-- 'latticelaw.Bases', WHERE WHAT IT READS IS OF BULK AT MOST 1048576: true; the input reads as it did. -/
def basesUptoRow : OpenClaim := { program := "ytmlcblnndihjoaa", sum := "5715225165f43c2799e2bbdeafb0c5f30c359a68964564ae057399a27544e3d1", func := "lattice/latticelaw.Bases", spec := "bases", apart := false, narrowed := true }
def BasesUptoSaid : Prop := basesUptoRow.holds Try.pinned (OpenSpec.upto basesSpec)

/-- 'latticelaw.Members', WHERE WHAT IT READS IS OF BULK AT MOST 1048576: true; the input reads as it did. -/
def membersUptoRow : OpenClaim := { program := "ytmlcblnndihjoaa", sum := "5715225165f43c2799e2bbdeafb0c5f30c359a68964564ae057399a27544e3d1", func := "lattice/latticelaw.Members", spec := "members", apart := false, narrowed := true }
def MembersUptoSaid : Prop := membersUptoRow.holds Try.pinned (OpenSpec.upto membersSpec)

/-- 'latticelaw.Texts', WHERE WHAT IT READS IS OF BULK AT MOST 1048576: true; the input reads as it did. -/
def textsUptoRow : OpenClaim := { program := "ytmlcblnndihjoaa", sum := "5715225165f43c2799e2bbdeafb0c5f30c359a68964564ae057399a27544e3d1", func := "lattice/latticelaw.Texts", spec := "texts", apart := false, narrowed := true }
def TextsUptoSaid : Prop := textsUptoRow.holds Try.pinned (OpenSpec.upto textsSpec)

/-- 'latticelaw.Reads', WHERE WHAT IT READS IS OF BULK AT MOST 1048576: true; the input reads as it did. -/
def readsUptoRow : OpenClaim := { program := "ytmlcblnndihjoaa", sum := "5715225165f43c2799e2bbdeafb0c5f30c359a68964564ae057399a27544e3d1", func := "lattice/latticelaw.Reads", spec := "reads", apart := false, narrowed := true }
def ReadsUptoSaid : Prop := readsUptoRow.holds Try.pinned (OpenSpec.upto readsSpec)

/-- 'latticelaw.Joins', WHERE WHAT IT READS IS OF BULK AT MOST 1048576: true; the input reads as it did. -/
def joinsUptoRow : OpenClaim := { program := "ytmlcblnndihjoaa", sum := "5715225165f43c2799e2bbdeafb0c5f30c359a68964564ae057399a27544e3d1", func := "lattice/latticelaw.Joins", spec := "joins", apart := false, narrowed := true }
def JoinsUptoSaid : Prop := joinsUptoRow.holds Try.pinned (OpenSpec.upto joinsSpec)

/-- 'latticelaw.Adds', WHERE WHAT IT READS IS OF BULK AT MOST 1048576: true; the input reads as it did. -/
def addsUptoRow : OpenClaim := { program := "ytmlcblnndihjoaa", sum := "5715225165f43c2799e2bbdeafb0c5f30c359a68964564ae057399a27544e3d1", func := "lattice/latticelaw.Adds", spec := "adds", apart := false, narrowed := true }
def AddsUptoSaid : Prop := addsUptoRow.holds Try.pinned (OpenSpec.upto addsSpec)

/-- 'latticelaw.Receives', WHERE WHAT IT READS IS OF BULK AT MOST 1048576: true; the input reads as it did. -/
def receivesUptoRow : OpenClaim := { program := "ytmlcblnndihjoaa", sum := "5715225165f43c2799e2bbdeafb0c5f30c359a68964564ae057399a27544e3d1", func := "lattice/latticelaw.Receives", spec := "receives", apart := false, narrowed := true }
def ReceivesUptoSaid : Prop := receivesUptoRow.holds Try.pinned (OpenSpec.upto receivesSpec)

/-- 'latticelaw.Nodes', WHERE WHAT IT READS IS OF BULK AT MOST 1048576: true; the input reads as it did. -/
def nodesUptoRow : OpenClaim := { program := "ytmlcblnndihjoaa", sum := "5715225165f43c2799e2bbdeafb0c5f30c359a68964564ae057399a27544e3d1", func := "lattice/latticelaw.Nodes", spec := "nodes", apart := false, narrowed := true }
def NodesUptoSaid : Prop := nodesUptoRow.holds Try.pinned (OpenSpec.upto nodesSpec)

/-- 'latticekeep.Shaped', WHERE WHAT IT READS IS OF BULK AT MOST 1048576: true; the input reads as it did. -/
def shapedUptoRow : OpenClaim := { program := "ytmlcblnndihjoaa", sum := "5715225165f43c2799e2bbdeafb0c5f30c359a68964564ae057399a27544e3d1", func := "lattice/latticekeep.Shaped", spec := "shaped", apart := false, narrowed := true }
def ShapedUptoSaid : Prop := shapedUptoRow.holds Try.pinned (OpenSpec.upto shapedSpec)

/-- 'latticekeep.Moved', WHERE WHAT IT READS IS OF BULK AT MOST 1048576: true; the input reads as it did. -/
def movedUptoRow : OpenClaim := { program := "ytmlcblnndihjoaa", sum := "5715225165f43c2799e2bbdeafb0c5f30c359a68964564ae057399a27544e3d1", func := "lattice/latticekeep.Moved", spec := "moved", apart := false, narrowed := true }
def MovedUptoSaid : Prop := movedUptoRow.holds Try.pinned (OpenSpec.upto movedSpec)

/-- 'latticekeep.Volumes', WHERE WHAT IT READS IS OF BULK AT MOST 1048576: true; the input reads as it did. -/
def volumesUptoRow : OpenClaim := { program := "ytmlcblnndihjoaa", sum := "5715225165f43c2799e2bbdeafb0c5f30c359a68964564ae057399a27544e3d1", func := "lattice/latticekeep.Volumes", spec := "volumes", apart := false, narrowed := true }
def VolumesUptoSaid : Prop := volumesUptoRow.holds Try.pinned (OpenSpec.upto volumesSpec)

end Rows
end Go.Proofs.Ytmlcblnndihjoaa
