/-
  No cell of these rows narrows 'for every input' (looked for: loops, veiled, ifaces, maps, wideKeys, modest, calm, conditions, laid).
  DERIVED. THE GIVEN ROWS OF THIS SEAT. 10 by the template 'for every input the law returns true; each argument reads behind the call as it read before'; 0 by the template 'total and deterministic' (their statements: YtopnlcjbklmicaaTotals.lean).
  GIVEN WITH THE SEED: the statements are not yours to turn. If you find one false, say at which input.
  Laid BY PROGRAM, IN A SANDBOX (cutbox-rows.mjs): the forced cells as the released guide's own fill.sh prints them over the translation 2a2ae7a685172385… (all of the seat's roots in one cut). By AI agents, Wed Nov 11 2026. No macro, syntax, notation, axiom, sorry.
-/
import Derived.Test.YtopnlcjbklmicaaChecked
import GoSem.Claim
import GoSem.ClaimJoined
import GoSem.ClaimMapViews
import Derived.JoinedTies
import Derived.KernelRfl
namespace Go.Proofs.Ytopnlcjbklmicaa
/- THE CELL 'sum', in the pinned program and in every row, IS THE sha256 OF THE DUMP (.gsa) THAT YtopnlcjbklmicaaProg.lean LOADS. Nothing in Lean hashes anything: it is a label: what it is worth is what the hold of that sum in a sandbox is worth. -/
noncomputable def Try.pinned : Pinned := { name := "ytopnlcjbklmicaa", sum := "2a2ae7a68517238566130e9333f9555d4a23e603ef7dd819cc7a7a0fa10d4d41", checked := Try.checked }
namespace Rows
def none {H : Type} : Left H := { results := [], args := [] }

/-- 'chitilaw08.KilnMoulds': WHATEVER THE INPUT: true; the input reads as it did. -/
def kilnMouldsSpec : ChangeSpec := { name := "kilnMoulds", fn := fun _ => fun
  | [d1, d2, d3] => { results := [.lit (.bool true)], args := [d1, d2, d3] }
  | _ => none }
def kilnMouldsRow : OpenClaim := { program := "ytopnlcjbklmicaa", sum := "2a2ae7a68517238566130e9333f9555d4a23e603ef7dd819cc7a7a0fa10d4d41", func := "chiti/chitilaw08.KilnMoulds", spec := "kilnMoulds", unfollowed := true, recurses := true, apart := false }
def KilnMouldsSaid : Prop := kilnMouldsRow.holds Try.pinned (OpenSpec.ofChange kilnMouldsSpec)

/-- ITS FALSE NEIGHBOUR: 'it returns false'. Refute it at one input. -/
def kilnMouldsWrong : ChangeSpec := { name := "kilnMoulds", fn := fun _ => fun
  | [d1, d2, d3] => { results := [.lit (.bool false)], args := [d1, d2, d3] }
  | _ => none }
def KilnMouldsWrongFalsely : Prop := kilnMouldsRow.holds Try.pinned (OpenSpec.ofChange kilnMouldsWrong)

/-- 'chitilaw08.KilnLosses': WHATEVER THE INPUT: true; the input reads as it did. -/
def kilnLossesSpec : ChangeSpec := { name := "kilnLosses", fn := fun _ => fun
  | [d1, d2] => { results := [.lit (.bool true)], args := [d1, d2] }
  | _ => none }
def kilnLossesRow : OpenClaim := { program := "ytopnlcjbklmicaa", sum := "2a2ae7a68517238566130e9333f9555d4a23e603ef7dd819cc7a7a0fa10d4d41", func := "chiti/chitilaw08.KilnLosses", spec := "kilnLosses", unfollowed := true, recurses := true, apart := false }
def KilnLossesSaid : Prop := kilnLossesRow.holds Try.pinned (OpenSpec.ofChange kilnLossesSpec)

/-- ITS FALSE NEIGHBOUR: 'it returns false'. Refute it at one input. -/
def kilnLossesWrong : ChangeSpec := { name := "kilnLosses", fn := fun _ => fun
  | [d1, d2] => { results := [.lit (.bool false)], args := [d1, d2] }
  | _ => none }
def KilnLossesWrongFalsely : Prop := kilnLossesRow.holds Try.pinned (OpenSpec.ofChange kilnLossesWrong)

/-- 'chitilaw08.KilnBooks': WHATEVER THE INPUT: true; the input reads as it did. -/
def kilnBooksSpec : ChangeSpec := { name := "kilnBooks", fn := fun _ => fun
  | [d1, d2, d3] => { results := [.lit (.bool true)], args := [d1, d2, d3] }
  | _ => none }
def kilnBooksRow : OpenClaim := { program := "ytopnlcjbklmicaa", sum := "2a2ae7a68517238566130e9333f9555d4a23e603ef7dd819cc7a7a0fa10d4d41", func := "chiti/chitilaw08.KilnBooks", spec := "kilnBooks", unfollowed := true, recurses := true, apart := false }
def KilnBooksSaid : Prop := kilnBooksRow.holds Try.pinned (OpenSpec.ofChange kilnBooksSpec)

/-- ITS FALSE NEIGHBOUR: 'it returns false'. Refute it at one input. -/
def kilnBooksWrong : ChangeSpec := { name := "kilnBooks", fn := fun _ => fun
  | [d1, d2, d3] => { results := [.lit (.bool false)], args := [d1, d2, d3] }
  | _ => none }
def KilnBooksWrongFalsely : Prop := kilnBooksRow.holds Try.pinned (OpenSpec.ofChange kilnBooksWrong)

/-- 'chitilaw08.KilnStacks': WHATEVER THE INPUT: true; the input reads as it did. -/
def kilnStacksSpec : ChangeSpec := { name := "kilnStacks", fn := fun _ => fun
  | [d] => { results := [.lit (.bool true)], args := [d] }
  | _ => none }
def kilnStacksRow : OpenClaim := { program := "ytopnlcjbklmicaa", sum := "2a2ae7a68517238566130e9333f9555d4a23e603ef7dd819cc7a7a0fa10d4d41", func := "chiti/chitilaw08.KilnStacks", spec := "kilnStacks", unfollowed := true, recurses := true, apart := false }
def KilnStacksSaid : Prop := kilnStacksRow.holds Try.pinned (OpenSpec.ofChange kilnStacksSpec)

/-- ITS FALSE NEIGHBOUR: 'it returns false'. Refute it at one input. -/
def kilnStacksWrong : ChangeSpec := { name := "kilnStacks", fn := fun _ => fun
  | [d] => { results := [.lit (.bool false)], args := [d] }
  | _ => none }
def KilnStacksWrongFalsely : Prop := kilnStacksRow.holds Try.pinned (OpenSpec.ofChange kilnStacksWrong)

/-- 'chitilaw08.KilnCrushes': WHATEVER THE INPUT: true; the input reads as it did. -/
def kilnCrushesSpec : ChangeSpec := { name := "kilnCrushes", fn := fun _ => fun
  | [d1, d2] => { results := [.lit (.bool true)], args := [d1, d2] }
  | _ => none }
def kilnCrushesRow : OpenClaim := { program := "ytopnlcjbklmicaa", sum := "2a2ae7a68517238566130e9333f9555d4a23e603ef7dd819cc7a7a0fa10d4d41", func := "chiti/chitilaw08.KilnCrushes", spec := "kilnCrushes", unfollowed := true, recurses := true, apart := false }
def KilnCrushesSaid : Prop := kilnCrushesRow.holds Try.pinned (OpenSpec.ofChange kilnCrushesSpec)

/-- ITS FALSE NEIGHBOUR: 'it returns false'. Refute it at one input. -/
def kilnCrushesWrong : ChangeSpec := { name := "kilnCrushes", fn := fun _ => fun
  | [d1, d2] => { results := [.lit (.bool false)], args := [d1, d2] }
  | _ => none }
def KilnCrushesWrongFalsely : Prop := kilnCrushesRow.holds Try.pinned (OpenSpec.ofChange kilnCrushesWrong)

/-- 'chitilaw08.KilnShrinks': WHATEVER THE INPUT: true; the input reads as it did. -/
def kilnShrinksSpec : ChangeSpec := { name := "kilnShrinks", fn := fun _ => fun
  | [d1, d2, d3] => { results := [.lit (.bool true)], args := [d1, d2, d3] }
  | _ => none }
def kilnShrinksRow : OpenClaim := { program := "ytopnlcjbklmicaa", sum := "2a2ae7a68517238566130e9333f9555d4a23e603ef7dd819cc7a7a0fa10d4d41", func := "chiti/chitilaw08.KilnShrinks", spec := "kilnShrinks", unfollowed := true, recurses := true, apart := false }
def KilnShrinksSaid : Prop := kilnShrinksRow.holds Try.pinned (OpenSpec.ofChange kilnShrinksSpec)

/-- ITS FALSE NEIGHBOUR: 'it returns false'. Refute it at one input. -/
def kilnShrinksWrong : ChangeSpec := { name := "kilnShrinks", fn := fun _ => fun
  | [d1, d2, d3] => { results := [.lit (.bool false)], args := [d1, d2, d3] }
  | _ => none }
def KilnShrinksWrongFalsely : Prop := kilnShrinksRow.holds Try.pinned (OpenSpec.ofChange kilnShrinksWrong)

/-- 'chitilaw08.KilnAllows': WHATEVER THE INPUT: true; the input reads as it did. -/
def kilnAllowsSpec : ChangeSpec := { name := "kilnAllows", fn := fun _ => fun
  | [d1, d2] => { results := [.lit (.bool true)], args := [d1, d2] }
  | _ => none }
def kilnAllowsRow : OpenClaim := { program := "ytopnlcjbklmicaa", sum := "2a2ae7a68517238566130e9333f9555d4a23e603ef7dd819cc7a7a0fa10d4d41", func := "chiti/chitilaw08.KilnAllows", spec := "kilnAllows", unfollowed := true, recurses := true, apart := false }
def KilnAllowsSaid : Prop := kilnAllowsRow.holds Try.pinned (OpenSpec.ofChange kilnAllowsSpec)

/-- ITS FALSE NEIGHBOUR: 'it returns false'. Refute it at one input. -/
def kilnAllowsWrong : ChangeSpec := { name := "kilnAllows", fn := fun _ => fun
  | [d1, d2] => { results := [.lit (.bool false)], args := [d1, d2] }
  | _ => none }
def KilnAllowsWrongFalsely : Prop := kilnAllowsRow.holds Try.pinned (OpenSpec.ofChange kilnAllowsWrong)

/-- 'chitilaw08.KilnCounts': WHATEVER THE INPUT: true; the input reads as it did. -/
def kilnCountsSpec : ChangeSpec := { name := "kilnCounts", fn := fun _ => fun
  | [d] => { results := [.lit (.bool true)], args := [d] }
  | _ => none }
def kilnCountsRow : OpenClaim := { program := "ytopnlcjbklmicaa", sum := "2a2ae7a68517238566130e9333f9555d4a23e603ef7dd819cc7a7a0fa10d4d41", func := "chiti/chitilaw08.KilnCounts", spec := "kilnCounts", unfollowed := true, recurses := true, apart := false }
def KilnCountsSaid : Prop := kilnCountsRow.holds Try.pinned (OpenSpec.ofChange kilnCountsSpec)

/-- ITS FALSE NEIGHBOUR: 'it returns false'. Refute it at one input. -/
def kilnCountsWrong : ChangeSpec := { name := "kilnCounts", fn := fun _ => fun
  | [d] => { results := [.lit (.bool false)], args := [d] }
  | _ => none }
def KilnCountsWrongFalsely : Prop := kilnCountsRow.holds Try.pinned (OpenSpec.ofChange kilnCountsWrong)

/-- 'chitilaw08.KilnFloors': WHATEVER THE INPUT: true; the input reads as it did. -/
def kilnFloorsSpec : ChangeSpec := { name := "kilnFloors", fn := fun _ => fun
  | [d] => { results := [.lit (.bool true)], args := [d] }
  | _ => none }
def kilnFloorsRow : OpenClaim := { program := "ytopnlcjbklmicaa", sum := "2a2ae7a68517238566130e9333f9555d4a23e603ef7dd819cc7a7a0fa10d4d41", func := "chiti/chitilaw08.KilnFloors", spec := "kilnFloors", unfollowed := true, recurses := true, apart := false }
def KilnFloorsSaid : Prop := kilnFloorsRow.holds Try.pinned (OpenSpec.ofChange kilnFloorsSpec)

/-- ITS FALSE NEIGHBOUR: 'it returns false'. Refute it at one input. -/
def kilnFloorsWrong : ChangeSpec := { name := "kilnFloors", fn := fun _ => fun
  | [d] => { results := [.lit (.bool false)], args := [d] }
  | _ => none }
def KilnFloorsWrongFalsely : Prop := kilnFloorsRow.holds Try.pinned (OpenSpec.ofChange kilnFloorsWrong)

/-- 'chitilaw08.KilnBears': WHATEVER THE INPUT: true; the input reads as it did. -/
def kilnBearsSpec : ChangeSpec := { name := "kilnBears", fn := fun _ => fun
  | [d1, d2] => { results := [.lit (.bool true)], args := [d1, d2] }
  | _ => none }
def kilnBearsRow : OpenClaim := { program := "ytopnlcjbklmicaa", sum := "2a2ae7a68517238566130e9333f9555d4a23e603ef7dd819cc7a7a0fa10d4d41", func := "chiti/chitilaw08.KilnBears", spec := "kilnBears", unfollowed := true, recurses := true, apart := false }
def KilnBearsSaid : Prop := kilnBearsRow.holds Try.pinned (OpenSpec.ofChange kilnBearsSpec)

/-- ITS FALSE NEIGHBOUR: 'it returns false'. Refute it at one input. -/
def kilnBearsWrong : ChangeSpec := { name := "kilnBears", fn := fun _ => fun
  | [d1, d2] => { results := [.lit (.bool false)], args := [d1, d2] }
  | _ => none }
def KilnBearsWrongFalsely : Prop := kilnBearsRow.holds Try.pinned (OpenSpec.ofChange kilnBearsWrong)

/- THE SECOND FORM. 'bulk': how many values and letters a reading holds, each counted each time it is reached (what is shared counts as often as it is met; a slice's spare places count too). A statement '..UptoSaid' is the law's where the arguments, and the package variables that the reading takes, are together of bulk at most 1048576: NARROWER than '..Said'. Prove '..Said' where nothing that the law and all that it calls make is longer than what came in: it says more and counts as full. Else prove '..UptoSaid'. A law counts once. -/
mutual
def uptoBulk {H : Type} : DataW H → Nat
  | .lit (.string bytes) => bytes.length + 1
  | .lit _ => 1
  | .nil => 1
  | .ptr d => uptoBulk d + 1
  | .slice elems spare => uptoBulkAll elems + uptoBulkAll spare + 1
  | .agg parts => uptoBulkAll parts + 1
  | .iface _ d => uptoBulk d + 1
  | .map entries => uptoBulkEntries entries + 1
  | .held _ => 1
def uptoBulkAll {H : Type} : List (DataW H) → Nat
  | [] => 0
  | d :: r => uptoBulk d + uptoBulkAll r
def uptoBulkEntries {H : Type} : List (Lit × DataW H) → Nat
  | [] => 0
  | x :: r => uptoBulkEntry x + uptoBulkEntries r
def uptoBulkEntry {H : Type} : Lit × DataW H → Nat
  | (.string bytes, d) => bytes.length + uptoBulk d + 1
  | (_, d) => uptoBulk d + 1
 end
def uptoSmall : (H : Type) → List (DataW H) → Bool := fun _ ds => decide (uptoBulkAll ds ≤ 1048576)
def OpenSpec.upto (s : _root_.Go.ChangeSpec) : _root_.Go.OpenSpec := { _root_.Go.OpenSpec.ofChange s with cond := some uptoSmall }

/-- 'chitilaw08.KilnMoulds', WHERE WHAT IT READS IS OF BULK AT MOST 1048576: true; the input reads as it did. -/
def kilnMouldsUptoRow : OpenClaim := { program := "ytopnlcjbklmicaa", sum := "2a2ae7a68517238566130e9333f9555d4a23e603ef7dd819cc7a7a0fa10d4d41", func := "chiti/chitilaw08.KilnMoulds", spec := "kilnMoulds", unfollowed := true, recurses := true, apart := false, narrowed := true }
def KilnMouldsUptoSaid : Prop := kilnMouldsUptoRow.holds Try.pinned (OpenSpec.upto kilnMouldsSpec)

/-- 'chitilaw08.KilnLosses', WHERE WHAT IT READS IS OF BULK AT MOST 1048576: true; the input reads as it did. -/
def kilnLossesUptoRow : OpenClaim := { program := "ytopnlcjbklmicaa", sum := "2a2ae7a68517238566130e9333f9555d4a23e603ef7dd819cc7a7a0fa10d4d41", func := "chiti/chitilaw08.KilnLosses", spec := "kilnLosses", unfollowed := true, recurses := true, apart := false, narrowed := true }
def KilnLossesUptoSaid : Prop := kilnLossesUptoRow.holds Try.pinned (OpenSpec.upto kilnLossesSpec)

/-- 'chitilaw08.KilnBooks', WHERE WHAT IT READS IS OF BULK AT MOST 1048576: true; the input reads as it did. -/
def kilnBooksUptoRow : OpenClaim := { program := "ytopnlcjbklmicaa", sum := "2a2ae7a68517238566130e9333f9555d4a23e603ef7dd819cc7a7a0fa10d4d41", func := "chiti/chitilaw08.KilnBooks", spec := "kilnBooks", unfollowed := true, recurses := true, apart := false, narrowed := true }
def KilnBooksUptoSaid : Prop := kilnBooksUptoRow.holds Try.pinned (OpenSpec.upto kilnBooksSpec)

/-- 'chitilaw08.KilnStacks', WHERE WHAT IT READS IS OF BULK AT MOST 1048576: true; the input reads as it did. -/
def kilnStacksUptoRow : OpenClaim := { program := "ytopnlcjbklmicaa", sum := "2a2ae7a68517238566130e9333f9555d4a23e603ef7dd819cc7a7a0fa10d4d41", func := "chiti/chitilaw08.KilnStacks", spec := "kilnStacks", unfollowed := true, recurses := true, apart := false, narrowed := true }
def KilnStacksUptoSaid : Prop := kilnStacksUptoRow.holds Try.pinned (OpenSpec.upto kilnStacksSpec)

/-- 'chitilaw08.KilnCrushes', WHERE WHAT IT READS IS OF BULK AT MOST 1048576: true; the input reads as it did. -/
def kilnCrushesUptoRow : OpenClaim := { program := "ytopnlcjbklmicaa", sum := "2a2ae7a68517238566130e9333f9555d4a23e603ef7dd819cc7a7a0fa10d4d41", func := "chiti/chitilaw08.KilnCrushes", spec := "kilnCrushes", unfollowed := true, recurses := true, apart := false, narrowed := true }
def KilnCrushesUptoSaid : Prop := kilnCrushesUptoRow.holds Try.pinned (OpenSpec.upto kilnCrushesSpec)

/-- 'chitilaw08.KilnShrinks', WHERE WHAT IT READS IS OF BULK AT MOST 1048576: true; the input reads as it did. -/
def kilnShrinksUptoRow : OpenClaim := { program := "ytopnlcjbklmicaa", sum := "2a2ae7a68517238566130e9333f9555d4a23e603ef7dd819cc7a7a0fa10d4d41", func := "chiti/chitilaw08.KilnShrinks", spec := "kilnShrinks", unfollowed := true, recurses := true, apart := false, narrowed := true }
def KilnShrinksUptoSaid : Prop := kilnShrinksUptoRow.holds Try.pinned (OpenSpec.upto kilnShrinksSpec)

/-- 'chitilaw08.KilnAllows', WHERE WHAT IT READS IS OF BULK AT MOST 1048576: true; the input reads as it did. -/
def kilnAllowsUptoRow : OpenClaim := { program := "ytopnlcjbklmicaa", sum := "2a2ae7a68517238566130e9333f9555d4a23e603ef7dd819cc7a7a0fa10d4d41", func := "chiti/chitilaw08.KilnAllows", spec := "kilnAllows", unfollowed := true, recurses := true, apart := false, narrowed := true }
def KilnAllowsUptoSaid : Prop := kilnAllowsUptoRow.holds Try.pinned (OpenSpec.upto kilnAllowsSpec)

/-- 'chitilaw08.KilnCounts', WHERE WHAT IT READS IS OF BULK AT MOST 1048576: true; the input reads as it did. -/
def kilnCountsUptoRow : OpenClaim := { program := "ytopnlcjbklmicaa", sum := "2a2ae7a68517238566130e9333f9555d4a23e603ef7dd819cc7a7a0fa10d4d41", func := "chiti/chitilaw08.KilnCounts", spec := "kilnCounts", unfollowed := true, recurses := true, apart := false, narrowed := true }
def KilnCountsUptoSaid : Prop := kilnCountsUptoRow.holds Try.pinned (OpenSpec.upto kilnCountsSpec)

/-- 'chitilaw08.KilnFloors', WHERE WHAT IT READS IS OF BULK AT MOST 1048576: true; the input reads as it did. -/
def kilnFloorsUptoRow : OpenClaim := { program := "ytopnlcjbklmicaa", sum := "2a2ae7a68517238566130e9333f9555d4a23e603ef7dd819cc7a7a0fa10d4d41", func := "chiti/chitilaw08.KilnFloors", spec := "kilnFloors", unfollowed := true, recurses := true, apart := false, narrowed := true }
def KilnFloorsUptoSaid : Prop := kilnFloorsUptoRow.holds Try.pinned (OpenSpec.upto kilnFloorsSpec)

/-- 'chitilaw08.KilnBears', WHERE WHAT IT READS IS OF BULK AT MOST 1048576: true; the input reads as it did. -/
def kilnBearsUptoRow : OpenClaim := { program := "ytopnlcjbklmicaa", sum := "2a2ae7a68517238566130e9333f9555d4a23e603ef7dd819cc7a7a0fa10d4d41", func := "chiti/chitilaw08.KilnBears", spec := "kilnBears", unfollowed := true, recurses := true, apart := false, narrowed := true }
def KilnBearsUptoSaid : Prop := kilnBearsUptoRow.holds Try.pinned (OpenSpec.upto kilnBearsSpec)

end Rows
end Go.Proofs.Ytopnlcjbklmicaa
