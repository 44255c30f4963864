/-
  NARROWER THAN 'FOR EVERY INPUT', by the rows' own cells (each row's printed sentence says how): SurdMakes: laid · SurdSums: laid · SurdTimes: laid · SurdRoots: laid · SurdOrders: laid · SurdBounds: laid · SurdTexts: laid · SurdField: laid · SurdSquares: laid · SurdOrder: laid · SurdBetween: laid · SurdSpelled: laid.
  DERIVED. THE GIVEN ROWS OF THIS SEAT. 12 by the template 'for every input the law returns true; each argument reads behind the call as it read before'; 0 by the template 'total and deterministic' (their statements: YtedpafdfecofnaaGreatDoorTotals.lean).
  GIVEN WITH THE SEED: the statements are not yours to turn. If you find one false, say at which input.
  Laid BY PROGRAM, IN A SANDBOX (cutbox-rows.mjs): the forced cells as the released guide's own fill.sh prints them over the translation 4d9aad36e93b2905… (all of the seat's roots in one cut). By AI agents, Wed Nov 11 2026. No macro, syntax, notation, axiom, sorry.
-/
import Derived.Test.YtedpafdfecofnaaGreatDoorChecked
import GoSem.Claim
import GoSem.ClaimJoined
import GoSem.ClaimMapViews
import Derived.JoinedTies
import Derived.KernelRfl
namespace Go.Proofs.YtedpafdfecofnaaGreatDoor
/- THE CELL 'sum', in the pinned program and in every row, IS THE sha256 OF THE DUMP (.gsa) THAT YtedpafdfecofnaaGreatDoorProg.lean LOADS. Nothing in Lean hashes anything: it is a label: what it is worth is what the hold of that sum in a sandbox is worth. -/
noncomputable def Tryz.pinned : Pinned := { name := "ytedpafdfecofnaagreatdoor", sum := "4d9aad36e93b290556bf1616f2e2ad5f5cffd6d1cda008e8dbc781c57d04cdc2", checked := Tryz.checked }
namespace Rows
def none {H : Type} : Left H := { results := [], args := [] }

/- WHAT THE LISTED PACKAGE-LEVEL VARIABLES READ AS WHEN THE CALL BEGINS. Each datum BY PROGRAM (the guide's laid-datum.mjs) off the statement by which the dump's own 'gosem.cut.vars' lays the variable. In a bare row this is a premise. The card (YtedpafdfecofnaaGreatDoorCards.lean) ties it to the program's text. -/
def laid_math_bits_deBruijn32tab {H : Type} : DataW H := .agg [.lit (.int .u8 0), .lit (.int .u8 1), .lit (.int .u8 28), .lit (.int .u8 2), .lit (.int .u8 29), .lit (.int .u8 14), .lit (.int .u8 24), .lit (.int .u8 3), .lit (.int .u8 30), .lit (.int .u8 22), .lit (.int .u8 20), .lit (.int .u8 15), .lit (.int .u8 25), .lit (.int .u8 17), .lit (.int .u8 4), .lit (.int .u8 8), .lit (.int .u8 31), .lit (.int .u8 27), .lit (.int .u8 13), .lit (.int .u8 23), .lit (.int .u8 21), .lit (.int .u8 19), .lit (.int .u8 16), .lit (.int .u8 7), .lit (.int .u8 26), .lit (.int .u8 12), .lit (.int .u8 18), .lit (.int .u8 6), .lit (.int .u8 11), .lit (.int .u8 5), .lit (.int .u8 10), .lit (.int .u8 9)]
def laid_math_bits_deBruijn64tab {H : Type} : DataW H := .agg [.lit (.int .u8 0), .lit (.int .u8 1), .lit (.int .u8 56), .lit (.int .u8 2), .lit (.int .u8 57), .lit (.int .u8 49), .lit (.int .u8 28), .lit (.int .u8 3), .lit (.int .u8 61), .lit (.int .u8 58), .lit (.int .u8 42), .lit (.int .u8 50), .lit (.int .u8 38), .lit (.int .u8 29), .lit (.int .u8 17), .lit (.int .u8 4), .lit (.int .u8 62), .lit (.int .u8 47), .lit (.int .u8 59), .lit (.int .u8 36), .lit (.int .u8 45), .lit (.int .u8 43), .lit (.int .u8 51), .lit (.int .u8 22), .lit (.int .u8 53), .lit (.int .u8 39), .lit (.int .u8 33), .lit (.int .u8 30), .lit (.int .u8 24), .lit (.int .u8 18), .lit (.int .u8 12), .lit (.int .u8 5), .lit (.int .u8 63), .lit (.int .u8 55), .lit (.int .u8 48), .lit (.int .u8 27), .lit (.int .u8 60), .lit (.int .u8 41), .lit (.int .u8 37), .lit (.int .u8 16), .lit (.int .u8 46), .lit (.int .u8 35), .lit (.int .u8 44), .lit (.int .u8 21), .lit (.int .u8 52), .lit (.int .u8 32), .lit (.int .u8 23), .lit (.int .u8 11), .lit (.int .u8 54), .lit (.int .u8 26), .lit (.int .u8 40), .lit (.int .u8 15), .lit (.int .u8 34), .lit (.int .u8 20), .lit (.int .u8 31), .lit (.int .u8 10), .lit (.int .u8 25), .lit (.int .u8 14), .lit (.int .u8 19), .lit (.int .u8 9), .lit (.int .u8 13), .lit (.int .u8 8), .lit (.int .u8 7), .lit (.int .u8 6)]
def laid_internal_strconv_uint64pow10 {H : Type} : DataW H := .agg [.lit (.int .u64 1), .lit (.int .u64 10), .lit (.int .u64 100), .lit (.int .u64 1000), .lit (.int .u64 10000), .lit (.int .u64 100000), .lit (.int .u64 1000000), .lit (.int .u64 10000000), .lit (.int .u64 100000000), .lit (.int .u64 1000000000), .lit (.int .u64 10000000000), .lit (.int .u64 100000000000), .lit (.int .u64 1000000000000), .lit (.int .u64 10000000000000), .lit (.int .u64 100000000000000), .lit (.int .u64 1000000000000000), .lit (.int .u64 10000000000000000), .lit (.int .u64 100000000000000000), .lit (.int .u64 1000000000000000000), .lit (.int .u64 10000000000000000000)]

/-- 'chitilaw01.SurdMakes': WHATEVER THE INPUT: true; the input reads as it did. -/
def surdMakesSpec : ChangeSpec := { name := "surdMakes", fn := fun _ => fun
  | [d1, d2, d3] => { results := [.lit (.bool true)], args := [d1, d2, d3] }
  | _ => none }
def surdMakesRow : OpenClaim := { program := "ytedpafdfecofnaagreatdoor", sum := "4d9aad36e93b290556bf1616f2e2ad5f5cffd6d1cda008e8dbc781c57d04cdc2", func := "chiti/chitilaw01.SurdMakes", spec := "surdMakes", inPlace := ["internal/bytealg.IndexByteString", "internal/bytealg.IndexString", "math/bits.Add64", "math/bits.Sub64"], unfollowed := true, recurses := true, named := ["internal/strconv.uint64pow10", "math/bits.deBruijn32tab", "math/bits.deBruijn64tab", "internal/bytealg.MaxLen", "math/bits.divideError", "math/bits.overflowError"], apart := false, laid := [("math/bits.deBruijn32tab", laid_math_bits_deBruijn32tab), ("math/bits.deBruijn64tab", laid_math_bits_deBruijn64tab), ("internal/strconv.uint64pow10", laid_internal_strconv_uint64pow10)] }
def SurdMakesSaid : Prop := surdMakesRow.holds Tryz.pinned (OpenSpec.ofChange surdMakesSpec)

/-- ITS FALSE NEIGHBOUR: 'it returns false'. Refute it at one input. -/
def surdMakesWrong : ChangeSpec := { name := "surdMakes", fn := fun _ => fun
  | [d1, d2, d3] => { results := [.lit (.bool false)], args := [d1, d2, d3] }
  | _ => none }
def SurdMakesWrongFalsely : Prop := surdMakesRow.holds Tryz.pinned (OpenSpec.ofChange surdMakesWrong)

/-- 'chitilaw01.SurdSums': WHATEVER THE INPUT: true; the input reads as it did. -/
def surdSumsSpec : ChangeSpec := { name := "surdSums", fn := fun _ => fun
  | [d1, d2] => { results := [.lit (.bool true)], args := [d1, d2] }
  | _ => none }
def surdSumsRow : OpenClaim := { program := "ytedpafdfecofnaagreatdoor", sum := "4d9aad36e93b290556bf1616f2e2ad5f5cffd6d1cda008e8dbc781c57d04cdc2", func := "chiti/chitilaw01.SurdSums", spec := "surdSums", inPlace := ["internal/bytealg.IndexByteString", "internal/bytealg.IndexString", "math/bits.Add64", "math/bits.Sub64"], unfollowed := true, recurses := true, named := ["internal/strconv.uint64pow10", "math/bits.deBruijn32tab", "math/bits.deBruijn64tab", "internal/bytealg.MaxLen", "math/bits.divideError", "math/bits.overflowError"], apart := false, laid := [("math/bits.deBruijn32tab", laid_math_bits_deBruijn32tab), ("math/bits.deBruijn64tab", laid_math_bits_deBruijn64tab), ("internal/strconv.uint64pow10", laid_internal_strconv_uint64pow10)] }
def SurdSumsSaid : Prop := surdSumsRow.holds Tryz.pinned (OpenSpec.ofChange surdSumsSpec)

/-- ITS FALSE NEIGHBOUR: 'it returns false'. Refute it at one input. -/
def surdSumsWrong : ChangeSpec := { name := "surdSums", fn := fun _ => fun
  | [d1, d2] => { results := [.lit (.bool false)], args := [d1, d2] }
  | _ => none }
def SurdSumsWrongFalsely : Prop := surdSumsRow.holds Tryz.pinned (OpenSpec.ofChange surdSumsWrong)

/-- 'chitilaw01.SurdTimes': WHATEVER THE INPUT: true; the input reads as it did. -/
def surdTimesSpec : ChangeSpec := { name := "surdTimes", fn := fun _ => fun
  | [d1, d2] => { results := [.lit (.bool true)], args := [d1, d2] }
  | _ => none }
def surdTimesRow : OpenClaim := { program := "ytedpafdfecofnaagreatdoor", sum := "4d9aad36e93b290556bf1616f2e2ad5f5cffd6d1cda008e8dbc781c57d04cdc2", func := "chiti/chitilaw01.SurdTimes", spec := "surdTimes", inPlace := ["internal/bytealg.IndexByteString", "internal/bytealg.IndexString", "math/bits.Add64", "math/bits.Sub64"], unfollowed := true, recurses := true, named := ["internal/strconv.uint64pow10", "math/bits.deBruijn32tab", "math/bits.deBruijn64tab", "internal/bytealg.MaxLen", "math/bits.divideError", "math/bits.overflowError"], apart := false, laid := [("math/bits.deBruijn32tab", laid_math_bits_deBruijn32tab), ("math/bits.deBruijn64tab", laid_math_bits_deBruijn64tab), ("internal/strconv.uint64pow10", laid_internal_strconv_uint64pow10)] }
def SurdTimesSaid : Prop := surdTimesRow.holds Tryz.pinned (OpenSpec.ofChange surdTimesSpec)

/-- ITS FALSE NEIGHBOUR: 'it returns false'. Refute it at one input. -/
def surdTimesWrong : ChangeSpec := { name := "surdTimes", fn := fun _ => fun
  | [d1, d2] => { results := [.lit (.bool false)], args := [d1, d2] }
  | _ => none }
def SurdTimesWrongFalsely : Prop := surdTimesRow.holds Tryz.pinned (OpenSpec.ofChange surdTimesWrong)

/-- 'chitilaw01.SurdRoots': WHATEVER THE INPUT: true; the input reads as it did. -/
def surdRootsSpec : ChangeSpec := { name := "surdRoots", fn := fun _ => fun
  | [d] => { results := [.lit (.bool true)], args := [d] }
  | _ => none }
def surdRootsRow : OpenClaim := { program := "ytedpafdfecofnaagreatdoor", sum := "4d9aad36e93b290556bf1616f2e2ad5f5cffd6d1cda008e8dbc781c57d04cdc2", func := "chiti/chitilaw01.SurdRoots", spec := "surdRoots", inPlace := ["internal/bytealg.IndexByteString", "internal/bytealg.IndexString", "math/bits.Add64", "math/bits.Sub64"], unfollowed := true, recurses := true, named := ["internal/strconv.uint64pow10", "math/bits.deBruijn32tab", "math/bits.deBruijn64tab", "internal/bytealg.MaxLen", "math/bits.divideError", "math/bits.overflowError"], apart := false, laid := [("math/bits.deBruijn32tab", laid_math_bits_deBruijn32tab), ("math/bits.deBruijn64tab", laid_math_bits_deBruijn64tab), ("internal/strconv.uint64pow10", laid_internal_strconv_uint64pow10)] }
def SurdRootsSaid : Prop := surdRootsRow.holds Tryz.pinned (OpenSpec.ofChange surdRootsSpec)

/-- ITS FALSE NEIGHBOUR: 'it returns false'. Refute it at one input. -/
def surdRootsWrong : ChangeSpec := { name := "surdRoots", fn := fun _ => fun
  | [d] => { results := [.lit (.bool false)], args := [d] }
  | _ => none }
def SurdRootsWrongFalsely : Prop := surdRootsRow.holds Tryz.pinned (OpenSpec.ofChange surdRootsWrong)

/-- 'chitilaw01.SurdOrders': WHATEVER THE INPUT: true; the input reads as it did. -/
def surdOrdersSpec : ChangeSpec := { name := "surdOrders", fn := fun _ => fun
  | [d1, d2] => { results := [.lit (.bool true)], args := [d1, d2] }
  | _ => none }
def surdOrdersRow : OpenClaim := { program := "ytedpafdfecofnaagreatdoor", sum := "4d9aad36e93b290556bf1616f2e2ad5f5cffd6d1cda008e8dbc781c57d04cdc2", func := "chiti/chitilaw01.SurdOrders", spec := "surdOrders", inPlace := ["internal/bytealg.IndexByteString", "internal/bytealg.IndexString", "math/bits.Add64", "math/bits.Sub64"], unfollowed := true, recurses := true, named := ["internal/strconv.uint64pow10", "math/bits.deBruijn32tab", "math/bits.deBruijn64tab", "internal/bytealg.MaxLen", "math/bits.divideError", "math/bits.overflowError"], apart := false, laid := [("math/bits.deBruijn32tab", laid_math_bits_deBruijn32tab), ("math/bits.deBruijn64tab", laid_math_bits_deBruijn64tab), ("internal/strconv.uint64pow10", laid_internal_strconv_uint64pow10)] }
def SurdOrdersSaid : Prop := surdOrdersRow.holds Tryz.pinned (OpenSpec.ofChange surdOrdersSpec)

/-- ITS FALSE NEIGHBOUR: 'it returns false'. Refute it at one input. -/
def surdOrdersWrong : ChangeSpec := { name := "surdOrders", fn := fun _ => fun
  | [d1, d2] => { results := [.lit (.bool false)], args := [d1, d2] }
  | _ => none }
def SurdOrdersWrongFalsely : Prop := surdOrdersRow.holds Tryz.pinned (OpenSpec.ofChange surdOrdersWrong)

/-- 'chitilaw01.SurdBounds': WHATEVER THE INPUT: true; the input reads as it did. -/
def surdBoundsSpec : ChangeSpec := { name := "surdBounds", fn := fun _ => fun
  | [d1, d2] => { results := [.lit (.bool true)], args := [d1, d2] }
  | _ => none }
def surdBoundsRow : OpenClaim := { program := "ytedpafdfecofnaagreatdoor", sum := "4d9aad36e93b290556bf1616f2e2ad5f5cffd6d1cda008e8dbc781c57d04cdc2", func := "chiti/chitilaw01.SurdBounds", spec := "surdBounds", inPlace := ["internal/bytealg.IndexByteString", "internal/bytealg.IndexString", "math/bits.Add64", "math/bits.Sub64"], unfollowed := true, recurses := true, named := ["internal/strconv.uint64pow10", "math/bits.deBruijn32tab", "math/bits.deBruijn64tab", "internal/bytealg.MaxLen", "math/bits.divideError", "math/bits.overflowError"], apart := false, laid := [("math/bits.deBruijn32tab", laid_math_bits_deBruijn32tab), ("math/bits.deBruijn64tab", laid_math_bits_deBruijn64tab), ("internal/strconv.uint64pow10", laid_internal_strconv_uint64pow10)] }
def SurdBoundsSaid : Prop := surdBoundsRow.holds Tryz.pinned (OpenSpec.ofChange surdBoundsSpec)

/-- ITS FALSE NEIGHBOUR: 'it returns false'. Refute it at one input. -/
def surdBoundsWrong : ChangeSpec := { name := "surdBounds", fn := fun _ => fun
  | [d1, d2] => { results := [.lit (.bool false)], args := [d1, d2] }
  | _ => none }
def SurdBoundsWrongFalsely : Prop := surdBoundsRow.holds Tryz.pinned (OpenSpec.ofChange surdBoundsWrong)

/-- 'chitilaw01.SurdTexts': WHATEVER THE INPUT: true; the input reads as it did. -/
def surdTextsSpec : ChangeSpec := { name := "surdTexts", fn := fun _ => fun
  | [d1, d2] => { results := [.lit (.bool true)], args := [d1, d2] }
  | _ => none }
def surdTextsRow : OpenClaim := { program := "ytedpafdfecofnaagreatdoor", sum := "4d9aad36e93b290556bf1616f2e2ad5f5cffd6d1cda008e8dbc781c57d04cdc2", func := "chiti/chitilaw01.SurdTexts", spec := "surdTexts", inPlace := ["internal/bytealg.IndexByteString", "internal/bytealg.IndexString", "math/bits.Add64", "math/bits.Sub64"], unfollowed := true, recurses := true, named := ["internal/strconv.uint64pow10", "math/bits.deBruijn32tab", "math/bits.deBruijn64tab", "internal/bytealg.MaxLen", "math/bits.divideError", "math/bits.overflowError"], apart := false, laid := [("math/bits.deBruijn32tab", laid_math_bits_deBruijn32tab), ("math/bits.deBruijn64tab", laid_math_bits_deBruijn64tab), ("internal/strconv.uint64pow10", laid_internal_strconv_uint64pow10)] }
def SurdTextsSaid : Prop := surdTextsRow.holds Tryz.pinned (OpenSpec.ofChange surdTextsSpec)

/-- ITS FALSE NEIGHBOUR: 'it returns false'. Refute it at one input. -/
def surdTextsWrong : ChangeSpec := { name := "surdTexts", fn := fun _ => fun
  | [d1, d2] => { results := [.lit (.bool false)], args := [d1, d2] }
  | _ => none }
def SurdTextsWrongFalsely : Prop := surdTextsRow.holds Tryz.pinned (OpenSpec.ofChange surdTextsWrong)

/-- 'chitilaw01.SurdField': WHATEVER THE INPUT: true; the input reads as it did. -/
def surdFieldSpec : ChangeSpec := { name := "surdField", fn := fun _ => fun
  | [d] => { results := [.lit (.bool true)], args := [d] }
  | _ => none }
def surdFieldRow : OpenClaim := { program := "ytedpafdfecofnaagreatdoor", sum := "4d9aad36e93b290556bf1616f2e2ad5f5cffd6d1cda008e8dbc781c57d04cdc2", func := "chiti/chitilaw01.SurdField", spec := "surdField", inPlace := ["internal/bytealg.IndexByteString", "internal/bytealg.IndexString", "math/bits.Add64", "math/bits.Sub64"], unfollowed := true, recurses := true, named := ["internal/strconv.uint64pow10", "math/bits.deBruijn32tab", "math/bits.deBruijn64tab", "internal/bytealg.MaxLen", "math/bits.divideError", "math/bits.overflowError"], apart := false, laid := [("math/bits.deBruijn32tab", laid_math_bits_deBruijn32tab), ("math/bits.deBruijn64tab", laid_math_bits_deBruijn64tab), ("internal/strconv.uint64pow10", laid_internal_strconv_uint64pow10)] }
def SurdFieldSaid : Prop := surdFieldRow.holds Tryz.pinned (OpenSpec.ofChange surdFieldSpec)

/-- ITS FALSE NEIGHBOUR: 'it returns false'. Refute it at one input. -/
def surdFieldWrong : ChangeSpec := { name := "surdField", fn := fun _ => fun
  | [d] => { results := [.lit (.bool false)], args := [d] }
  | _ => none }
def SurdFieldWrongFalsely : Prop := surdFieldRow.holds Tryz.pinned (OpenSpec.ofChange surdFieldWrong)

/-- 'chitilaw01.SurdSquares': WHATEVER THE INPUT: true; the input reads as it did. -/
def surdSquaresSpec : ChangeSpec := { name := "surdSquares", fn := fun _ => fun
  | [d] => { results := [.lit (.bool true)], args := [d] }
  | _ => none }
def surdSquaresRow : OpenClaim := { program := "ytedpafdfecofnaagreatdoor", sum := "4d9aad36e93b290556bf1616f2e2ad5f5cffd6d1cda008e8dbc781c57d04cdc2", func := "chiti/chitilaw01.SurdSquares", spec := "surdSquares", inPlace := ["internal/bytealg.IndexByteString", "internal/bytealg.IndexString", "math/bits.Add64", "math/bits.Sub64"], unfollowed := true, recurses := true, named := ["internal/strconv.uint64pow10", "math/bits.deBruijn32tab", "math/bits.deBruijn64tab", "internal/bytealg.MaxLen", "math/bits.divideError", "math/bits.overflowError"], apart := false, laid := [("math/bits.deBruijn32tab", laid_math_bits_deBruijn32tab), ("math/bits.deBruijn64tab", laid_math_bits_deBruijn64tab), ("internal/strconv.uint64pow10", laid_internal_strconv_uint64pow10)] }
def SurdSquaresSaid : Prop := surdSquaresRow.holds Tryz.pinned (OpenSpec.ofChange surdSquaresSpec)

/-- ITS FALSE NEIGHBOUR: 'it returns false'. Refute it at one input. -/
def surdSquaresWrong : ChangeSpec := { name := "surdSquares", fn := fun _ => fun
  | [d] => { results := [.lit (.bool false)], args := [d] }
  | _ => none }
def SurdSquaresWrongFalsely : Prop := surdSquaresRow.holds Tryz.pinned (OpenSpec.ofChange surdSquaresWrong)

/-- 'chitilaw01.SurdOrder': WHATEVER THE INPUT: true; the input reads as it did. -/
def surdOrderSpec : ChangeSpec := { name := "surdOrder", fn := fun _ => fun
  | [d] => { results := [.lit (.bool true)], args := [d] }
  | _ => none }
def surdOrderRow : OpenClaim := { program := "ytedpafdfecofnaagreatdoor", sum := "4d9aad36e93b290556bf1616f2e2ad5f5cffd6d1cda008e8dbc781c57d04cdc2", func := "chiti/chitilaw01.SurdOrder", spec := "surdOrder", inPlace := ["internal/bytealg.IndexByteString", "internal/bytealg.IndexString", "math/bits.Add64", "math/bits.Sub64"], unfollowed := true, recurses := true, named := ["internal/strconv.uint64pow10", "math/bits.deBruijn32tab", "math/bits.deBruijn64tab", "internal/bytealg.MaxLen", "math/bits.divideError", "math/bits.overflowError"], apart := false, laid := [("math/bits.deBruijn32tab", laid_math_bits_deBruijn32tab), ("math/bits.deBruijn64tab", laid_math_bits_deBruijn64tab), ("internal/strconv.uint64pow10", laid_internal_strconv_uint64pow10)] }
def SurdOrderSaid : Prop := surdOrderRow.holds Tryz.pinned (OpenSpec.ofChange surdOrderSpec)

/-- ITS FALSE NEIGHBOUR: 'it returns false'. Refute it at one input. -/
def surdOrderWrong : ChangeSpec := { name := "surdOrder", fn := fun _ => fun
  | [d] => { results := [.lit (.bool false)], args := [d] }
  | _ => none }
def SurdOrderWrongFalsely : Prop := surdOrderRow.holds Tryz.pinned (OpenSpec.ofChange surdOrderWrong)

/-- 'chitilaw01.SurdBetween': WHATEVER THE INPUT: true; the input reads as it did. -/
def surdBetweenSpec : ChangeSpec := { name := "surdBetween", fn := fun _ => fun
  | [d1, d2, d3] => { results := [.lit (.bool true)], args := [d1, d2, d3] }
  | _ => none }
def surdBetweenRow : OpenClaim := { program := "ytedpafdfecofnaagreatdoor", sum := "4d9aad36e93b290556bf1616f2e2ad5f5cffd6d1cda008e8dbc781c57d04cdc2", func := "chiti/chitilaw01.SurdBetween", spec := "surdBetween", inPlace := ["internal/bytealg.IndexByteString", "internal/bytealg.IndexString", "math/bits.Add64", "math/bits.Sub64"], unfollowed := true, recurses := true, named := ["internal/strconv.uint64pow10", "math/bits.deBruijn32tab", "math/bits.deBruijn64tab", "internal/bytealg.MaxLen", "math/bits.divideError", "math/bits.overflowError"], apart := false, laid := [("math/bits.deBruijn32tab", laid_math_bits_deBruijn32tab), ("math/bits.deBruijn64tab", laid_math_bits_deBruijn64tab), ("internal/strconv.uint64pow10", laid_internal_strconv_uint64pow10)] }
def SurdBetweenSaid : Prop := surdBetweenRow.holds Tryz.pinned (OpenSpec.ofChange surdBetweenSpec)

/-- ITS FALSE NEIGHBOUR: 'it returns false'. Refute it at one input. -/
def surdBetweenWrong : ChangeSpec := { name := "surdBetween", fn := fun _ => fun
  | [d1, d2, d3] => { results := [.lit (.bool false)], args := [d1, d2, d3] }
  | _ => none }
def SurdBetweenWrongFalsely : Prop := surdBetweenRow.holds Tryz.pinned (OpenSpec.ofChange surdBetweenWrong)

/-- 'chitilaw01.SurdSpelled': WHATEVER THE INPUT: true; the input reads as it did. -/
def surdSpelledSpec : ChangeSpec := { name := "surdSpelled", fn := fun _ => fun
  | [d1, d2] => { results := [.lit (.bool true)], args := [d1, d2] }
  | _ => none }
def surdSpelledRow : OpenClaim := { program := "ytedpafdfecofnaagreatdoor", sum := "4d9aad36e93b290556bf1616f2e2ad5f5cffd6d1cda008e8dbc781c57d04cdc2", func := "chiti/chitilaw01.SurdSpelled", spec := "surdSpelled", inPlace := ["internal/bytealg.IndexByteString", "internal/bytealg.IndexString", "math/bits.Add64", "math/bits.Sub64"], unfollowed := true, recurses := true, named := ["internal/strconv.uint64pow10", "math/bits.deBruijn32tab", "math/bits.deBruijn64tab", "internal/bytealg.MaxLen", "math/bits.divideError", "math/bits.overflowError"], apart := false, laid := [("math/bits.deBruijn32tab", laid_math_bits_deBruijn32tab), ("math/bits.deBruijn64tab", laid_math_bits_deBruijn64tab), ("internal/strconv.uint64pow10", laid_internal_strconv_uint64pow10)] }
def SurdSpelledSaid : Prop := surdSpelledRow.holds Tryz.pinned (OpenSpec.ofChange surdSpelledSpec)

/-- ITS FALSE NEIGHBOUR: 'it returns false'. Refute it at one input. -/
def surdSpelledWrong : ChangeSpec := { name := "surdSpelled", fn := fun _ => fun
  | [d1, d2] => { results := [.lit (.bool false)], args := [d1, d2] }
  | _ => none }
def SurdSpelledWrongFalsely : Prop := surdSpelledRow.holds Tryz.pinned (OpenSpec.ofChange surdSpelledWrong)

/- THE SECOND FORM. 'bulk': how many values and letters a reading holds, each counted each time it is reached (what is shared counts as often as it is met; a slice's spare places count too). A statement '..UptoSaid' is the law's where the arguments, and the package variables that the reading takes, are together of bulk at most 1048576: NARROWER than '..Said'. Prove '..Said' where nothing that the law and all that it calls make is longer than what came in: it says more and counts as full. Else prove '..UptoSaid'. A law counts once. -/
mutual
def uptoBulk {H : Type} : DataW H → Nat
  | .lit (.string bytes) => bytes.length + 1
  | .lit _ => 1
  | .nil => 1
  | .ptr d => uptoBulk d + 1
  | .slice elems spare => uptoBulkAll elems + uptoBulkAll spare + 1
  | .agg parts => uptoBulkAll parts + 1
  | .iface _ d => uptoBulk d + 1
  | .map entries => uptoBulkEntries entries + 1
  | .held _ => 1
def uptoBulkAll {H : Type} : List (DataW H) → Nat
  | [] => 0
  | d :: r => uptoBulk d + uptoBulkAll r
def uptoBulkEntries {H : Type} : List (Lit × DataW H) → Nat
  | [] => 0
  | x :: r => uptoBulkEntry x + uptoBulkEntries r
def uptoBulkEntry {H : Type} : Lit × DataW H → Nat
  | (.string bytes, d) => bytes.length + uptoBulk d + 1
  | (_, d) => uptoBulk d + 1
 end
def uptoSmall : (H : Type) → List (DataW H) → Bool := fun _ ds => decide (uptoBulkAll ds ≤ 1048576)
def OpenSpec.upto (s : _root_.Go.ChangeSpec) : _root_.Go.OpenSpec := { _root_.Go.OpenSpec.ofChange s with cond := some uptoSmall }

/-- 'chitilaw01.SurdMakes', WHERE WHAT IT READS IS OF BULK AT MOST 1048576: true; the input reads as it did. -/
def surdMakesUptoRow : OpenClaim := { program := "ytedpafdfecofnaagreatdoor", sum := "4d9aad36e93b290556bf1616f2e2ad5f5cffd6d1cda008e8dbc781c57d04cdc2", func := "chiti/chitilaw01.SurdMakes", spec := "surdMakes", inPlace := ["internal/bytealg.IndexByteString", "internal/bytealg.IndexString", "math/bits.Add64", "math/bits.Sub64"], unfollowed := true, recurses := true, named := ["internal/strconv.uint64pow10", "math/bits.deBruijn32tab", "math/bits.deBruijn64tab", "internal/bytealg.MaxLen", "math/bits.divideError", "math/bits.overflowError"], apart := false, laid := [("math/bits.deBruijn32tab", laid_math_bits_deBruijn32tab), ("math/bits.deBruijn64tab", laid_math_bits_deBruijn64tab), ("internal/strconv.uint64pow10", laid_internal_strconv_uint64pow10)], narrowed := true }
def SurdMakesUptoSaid : Prop := surdMakesUptoRow.holds Tryz.pinned (OpenSpec.upto surdMakesSpec)

/-- 'chitilaw01.SurdSums', WHERE WHAT IT READS IS OF BULK AT MOST 1048576: true; the input reads as it did. -/
def surdSumsUptoRow : OpenClaim := { program := "ytedpafdfecofnaagreatdoor", sum := "4d9aad36e93b290556bf1616f2e2ad5f5cffd6d1cda008e8dbc781c57d04cdc2", func := "chiti/chitilaw01.SurdSums", spec := "surdSums", inPlace := ["internal/bytealg.IndexByteString", "internal/bytealg.IndexString", "math/bits.Add64", "math/bits.Sub64"], unfollowed := true, recurses := true, named := ["internal/strconv.uint64pow10", "math/bits.deBruijn32tab", "math/bits.deBruijn64tab", "internal/bytealg.MaxLen", "math/bits.divideError", "math/bits.overflowError"], apart := false, laid := [("math/bits.deBruijn32tab", laid_math_bits_deBruijn32tab), ("math/bits.deBruijn64tab", laid_math_bits_deBruijn64tab), ("internal/strconv.uint64pow10", laid_internal_strconv_uint64pow10)], narrowed := true }
def SurdSumsUptoSaid : Prop := surdSumsUptoRow.holds Tryz.pinned (OpenSpec.upto surdSumsSpec)

/-- 'chitilaw01.SurdTimes', WHERE WHAT IT READS IS OF BULK AT MOST 1048576: true; the input reads as it did. -/
def surdTimesUptoRow : OpenClaim := { program := "ytedpafdfecofnaagreatdoor", sum := "4d9aad36e93b290556bf1616f2e2ad5f5cffd6d1cda008e8dbc781c57d04cdc2", func := "chiti/chitilaw01.SurdTimes", spec := "surdTimes", inPlace := ["internal/bytealg.IndexByteString", "internal/bytealg.IndexString", "math/bits.Add64", "math/bits.Sub64"], unfollowed := true, recurses := true, named := ["internal/strconv.uint64pow10", "math/bits.deBruijn32tab", "math/bits.deBruijn64tab", "internal/bytealg.MaxLen", "math/bits.divideError", "math/bits.overflowError"], apart := false, laid := [("math/bits.deBruijn32tab", laid_math_bits_deBruijn32tab), ("math/bits.deBruijn64tab", laid_math_bits_deBruijn64tab), ("internal/strconv.uint64pow10", laid_internal_strconv_uint64pow10)], narrowed := true }
def SurdTimesUptoSaid : Prop := surdTimesUptoRow.holds Tryz.pinned (OpenSpec.upto surdTimesSpec)

/-- 'chitilaw01.SurdRoots', WHERE WHAT IT READS IS OF BULK AT MOST 1048576: true; the input reads as it did. -/
def surdRootsUptoRow : OpenClaim := { program := "ytedpafdfecofnaagreatdoor", sum := "4d9aad36e93b290556bf1616f2e2ad5f5cffd6d1cda008e8dbc781c57d04cdc2", func := "chiti/chitilaw01.SurdRoots", spec := "surdRoots", inPlace := ["internal/bytealg.IndexByteString", "internal/bytealg.IndexString", "math/bits.Add64", "math/bits.Sub64"], unfollowed := true, recurses := true, named := ["internal/strconv.uint64pow10", "math/bits.deBruijn32tab", "math/bits.deBruijn64tab", "internal/bytealg.MaxLen", "math/bits.divideError", "math/bits.overflowError"], apart := false, laid := [("math/bits.deBruijn32tab", laid_math_bits_deBruijn32tab), ("math/bits.deBruijn64tab", laid_math_bits_deBruijn64tab), ("internal/strconv.uint64pow10", laid_internal_strconv_uint64pow10)], narrowed := true }
def SurdRootsUptoSaid : Prop := surdRootsUptoRow.holds Tryz.pinned (OpenSpec.upto surdRootsSpec)

/-- 'chitilaw01.SurdOrders', WHERE WHAT IT READS IS OF BULK AT MOST 1048576: true; the input reads as it did. -/
def surdOrdersUptoRow : OpenClaim := { program := "ytedpafdfecofnaagreatdoor", sum := "4d9aad36e93b290556bf1616f2e2ad5f5cffd6d1cda008e8dbc781c57d04cdc2", func := "chiti/chitilaw01.SurdOrders", spec := "surdOrders", inPlace := ["internal/bytealg.IndexByteString", "internal/bytealg.IndexString", "math/bits.Add64", "math/bits.Sub64"], unfollowed := true, recurses := true, named := ["internal/strconv.uint64pow10", "math/bits.deBruijn32tab", "math/bits.deBruijn64tab", "internal/bytealg.MaxLen", "math/bits.divideError", "math/bits.overflowError"], apart := false, laid := [("math/bits.deBruijn32tab", laid_math_bits_deBruijn32tab), ("math/bits.deBruijn64tab", laid_math_bits_deBruijn64tab), ("internal/strconv.uint64pow10", laid_internal_strconv_uint64pow10)], narrowed := true }
def SurdOrdersUptoSaid : Prop := surdOrdersUptoRow.holds Tryz.pinned (OpenSpec.upto surdOrdersSpec)

/-- 'chitilaw01.SurdBounds', WHERE WHAT IT READS IS OF BULK AT MOST 1048576: true; the input reads as it did. -/
def surdBoundsUptoRow : OpenClaim := { program := "ytedpafdfecofnaagreatdoor", sum := "4d9aad36e93b290556bf1616f2e2ad5f5cffd6d1cda008e8dbc781c57d04cdc2", func := "chiti/chitilaw01.SurdBounds", spec := "surdBounds", inPlace := ["internal/bytealg.IndexByteString", "internal/bytealg.IndexString", "math/bits.Add64", "math/bits.Sub64"], unfollowed := true, recurses := true, named := ["internal/strconv.uint64pow10", "math/bits.deBruijn32tab", "math/bits.deBruijn64tab", "internal/bytealg.MaxLen", "math/bits.divideError", "math/bits.overflowError"], apart := false, laid := [("math/bits.deBruijn32tab", laid_math_bits_deBruijn32tab), ("math/bits.deBruijn64tab", laid_math_bits_deBruijn64tab), ("internal/strconv.uint64pow10", laid_internal_strconv_uint64pow10)], narrowed := true }
def SurdBoundsUptoSaid : Prop := surdBoundsUptoRow.holds Tryz.pinned (OpenSpec.upto surdBoundsSpec)

/-- 'chitilaw01.SurdTexts', WHERE WHAT IT READS IS OF BULK AT MOST 1048576: true; the input reads as it did. -/
def surdTextsUptoRow : OpenClaim := { program := "ytedpafdfecofnaagreatdoor", sum := "4d9aad36e93b290556bf1616f2e2ad5f5cffd6d1cda008e8dbc781c57d04cdc2", func := "chiti/chitilaw01.SurdTexts", spec := "surdTexts", inPlace := ["internal/bytealg.IndexByteString", "internal/bytealg.IndexString", "math/bits.Add64", "math/bits.Sub64"], unfollowed := true, recurses := true, named := ["internal/strconv.uint64pow10", "math/bits.deBruijn32tab", "math/bits.deBruijn64tab", "internal/bytealg.MaxLen", "math/bits.divideError", "math/bits.overflowError"], apart := false, laid := [("math/bits.deBruijn32tab", laid_math_bits_deBruijn32tab), ("math/bits.deBruijn64tab", laid_math_bits_deBruijn64tab), ("internal/strconv.uint64pow10", laid_internal_strconv_uint64pow10)], narrowed := true }
def SurdTextsUptoSaid : Prop := surdTextsUptoRow.holds Tryz.pinned (OpenSpec.upto surdTextsSpec)

/-- 'chitilaw01.SurdField', WHERE WHAT IT READS IS OF BULK AT MOST 1048576: true; the input reads as it did. -/
def surdFieldUptoRow : OpenClaim := { program := "ytedpafdfecofnaagreatdoor", sum := "4d9aad36e93b290556bf1616f2e2ad5f5cffd6d1cda008e8dbc781c57d04cdc2", func := "chiti/chitilaw01.SurdField", spec := "surdField", inPlace := ["internal/bytealg.IndexByteString", "internal/bytealg.IndexString", "math/bits.Add64", "math/bits.Sub64"], unfollowed := true, recurses := true, named := ["internal/strconv.uint64pow10", "math/bits.deBruijn32tab", "math/bits.deBruijn64tab", "internal/bytealg.MaxLen", "math/bits.divideError", "math/bits.overflowError"], apart := false, laid := [("math/bits.deBruijn32tab", laid_math_bits_deBruijn32tab), ("math/bits.deBruijn64tab", laid_math_bits_deBruijn64tab), ("internal/strconv.uint64pow10", laid_internal_strconv_uint64pow10)], narrowed := true }
def SurdFieldUptoSaid : Prop := surdFieldUptoRow.holds Tryz.pinned (OpenSpec.upto surdFieldSpec)

/-- 'chitilaw01.SurdSquares', WHERE WHAT IT READS IS OF BULK AT MOST 1048576: true; the input reads as it did. -/
def surdSquaresUptoRow : OpenClaim := { program := "ytedpafdfecofnaagreatdoor", sum := "4d9aad36e93b290556bf1616f2e2ad5f5cffd6d1cda008e8dbc781c57d04cdc2", func := "chiti/chitilaw01.SurdSquares", spec := "surdSquares", inPlace := ["internal/bytealg.IndexByteString", "internal/bytealg.IndexString", "math/bits.Add64", "math/bits.Sub64"], unfollowed := true, recurses := true, named := ["internal/strconv.uint64pow10", "math/bits.deBruijn32tab", "math/bits.deBruijn64tab", "internal/bytealg.MaxLen", "math/bits.divideError", "math/bits.overflowError"], apart := false, laid := [("math/bits.deBruijn32tab", laid_math_bits_deBruijn32tab), ("math/bits.deBruijn64tab", laid_math_bits_deBruijn64tab), ("internal/strconv.uint64pow10", laid_internal_strconv_uint64pow10)], narrowed := true }
def SurdSquaresUptoSaid : Prop := surdSquaresUptoRow.holds Tryz.pinned (OpenSpec.upto surdSquaresSpec)

/-- 'chitilaw01.SurdOrder', WHERE WHAT IT READS IS OF BULK AT MOST 1048576: true; the input reads as it did. -/
def surdOrderUptoRow : OpenClaim := { program := "ytedpafdfecofnaagreatdoor", sum := "4d9aad36e93b290556bf1616f2e2ad5f5cffd6d1cda008e8dbc781c57d04cdc2", func := "chiti/chitilaw01.SurdOrder", spec := "surdOrder", inPlace := ["internal/bytealg.IndexByteString", "internal/bytealg.IndexString", "math/bits.Add64", "math/bits.Sub64"], unfollowed := true, recurses := true, named := ["internal/strconv.uint64pow10", "math/bits.deBruijn32tab", "math/bits.deBruijn64tab", "internal/bytealg.MaxLen", "math/bits.divideError", "math/bits.overflowError"], apart := false, laid := [("math/bits.deBruijn32tab", laid_math_bits_deBruijn32tab), ("math/bits.deBruijn64tab", laid_math_bits_deBruijn64tab), ("internal/strconv.uint64pow10", laid_internal_strconv_uint64pow10)], narrowed := true }
def SurdOrderUptoSaid : Prop := surdOrderUptoRow.holds Tryz.pinned (OpenSpec.upto surdOrderSpec)

/-- 'chitilaw01.SurdBetween', WHERE WHAT IT READS IS OF BULK AT MOST 1048576: true; the input reads as it did. -/
def surdBetweenUptoRow : OpenClaim := { program := "ytedpafdfecofnaagreatdoor", sum := "4d9aad36e93b290556bf1616f2e2ad5f5cffd6d1cda008e8dbc781c57d04cdc2", func := "chiti/chitilaw01.SurdBetween", spec := "surdBetween", inPlace := ["internal/bytealg.IndexByteString", "internal/bytealg.IndexString", "math/bits.Add64", "math/bits.Sub64"], unfollowed := true, recurses := true, named := ["internal/strconv.uint64pow10", "math/bits.deBruijn32tab", "math/bits.deBruijn64tab", "internal/bytealg.MaxLen", "math/bits.divideError", "math/bits.overflowError"], apart := false, laid := [("math/bits.deBruijn32tab", laid_math_bits_deBruijn32tab), ("math/bits.deBruijn64tab", laid_math_bits_deBruijn64tab), ("internal/strconv.uint64pow10", laid_internal_strconv_uint64pow10)], narrowed := true }
def SurdBetweenUptoSaid : Prop := surdBetweenUptoRow.holds Tryz.pinned (OpenSpec.upto surdBetweenSpec)

/-- 'chitilaw01.SurdSpelled', WHERE WHAT IT READS IS OF BULK AT MOST 1048576: true; the input reads as it did. -/
def surdSpelledUptoRow : OpenClaim := { program := "ytedpafdfecofnaagreatdoor", sum := "4d9aad36e93b290556bf1616f2e2ad5f5cffd6d1cda008e8dbc781c57d04cdc2", func := "chiti/chitilaw01.SurdSpelled", spec := "surdSpelled", inPlace := ["internal/bytealg.IndexByteString", "internal/bytealg.IndexString", "math/bits.Add64", "math/bits.Sub64"], unfollowed := true, recurses := true, named := ["internal/strconv.uint64pow10", "math/bits.deBruijn32tab", "math/bits.deBruijn64tab", "internal/bytealg.MaxLen", "math/bits.divideError", "math/bits.overflowError"], apart := false, laid := [("math/bits.deBruijn32tab", laid_math_bits_deBruijn32tab), ("math/bits.deBruijn64tab", laid_math_bits_deBruijn64tab), ("internal/strconv.uint64pow10", laid_internal_strconv_uint64pow10)], narrowed := true }
def SurdSpelledUptoSaid : Prop := surdSpelledUptoRow.holds Tryz.pinned (OpenSpec.upto surdSpelledSpec)

end Rows
end Go.Proofs.YtedpafdfecofnaaGreatDoor
