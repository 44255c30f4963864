/-
  NARROWER THAN 'FOR EVERY INPUT', by the rows' own cells (each row's printed sentence says how): CordOlds: laid · CordExtends: laid · CordTakes: laid · CordOffs: laid · CordNears: laid · CordRules: laid · CordCompares: laid · CordBytes: laid · CordCorrects: laid · CordRest: laid · CordNearest: laid · CordMoves: laid · CordExact: laid · TopCorrected: laid · TopYears: laid.
  DERIVED. THE GIVEN ROWS OF THIS SEAT. 15 by the template 'for every input the law returns true; each argument reads behind the call as it read before'; 0 by the template 'total and deterministic' (their statements: YtkjclafbpocabaaGreatDoorTotals.lean).
  GIVEN WITH THE SEED: the statements are not yours to turn. If you find one false, say at which input.
  Laid BY PROGRAM, IN A SANDBOX (cutbox-rows.mjs): the forced cells as the released guide's own fill.sh prints them over the translation c4a3775a98f09b09… (all of the seat's roots in one cut). By AI agents, Wed Nov 11 2026. No macro, syntax, notation, axiom, sorry.
-/
import Derived.Test.YtkjclafbpocabaaGreatDoorChecked
import GoSem.Claim
import GoSem.ClaimJoined
import GoSem.ClaimMapViews
import Derived.JoinedTies
import Derived.KernelRfl
namespace Go.Proofs.YtkjclafbpocabaaGreatDoor
/- THE CELL 'sum', in the pinned program and in every row, IS THE sha256 OF THE DUMP (.gsa) THAT YtkjclafbpocabaaGreatDoorProg.lean LOADS. Nothing in Lean hashes anything: it is a label: what it is worth is what the hold of that sum in a sandbox is worth. -/
noncomputable def Tryz.pinned : Pinned := { name := "ytkjclafbpocabaagreatdoor", sum := "c4a3775a98f09b0926bfa94ae1e829d61ba78af6fa25c9276f6f702924610969", checked := Tryz.checked }
namespace Rows
def none {H : Type} : Left H := { results := [], args := [] }

/- WHAT THE LISTED PACKAGE-LEVEL VARIABLES READ AS WHEN THE CALL BEGINS. Each datum BY PROGRAM (the guide's laid-datum.mjs) off the statement by which the dump's own 'gosem.cut.vars' lays the variable. In a bare row this is a premise. The card (YtkjclafbpocabaaGreatDoorCards.lean) ties it to the program's text. -/
def laid_math_bits_deBruijn32tab {H : Type} : DataW H := .agg [.lit (.int .u8 0), .lit (.int .u8 1), .lit (.int .u8 28), .lit (.int .u8 2), .lit (.int .u8 29), .lit (.int .u8 14), .lit (.int .u8 24), .lit (.int .u8 3), .lit (.int .u8 30), .lit (.int .u8 22), .lit (.int .u8 20), .lit (.int .u8 15), .lit (.int .u8 25), .lit (.int .u8 17), .lit (.int .u8 4), .lit (.int .u8 8), .lit (.int .u8 31), .lit (.int .u8 27), .lit (.int .u8 13), .lit (.int .u8 23), .lit (.int .u8 21), .lit (.int .u8 19), .lit (.int .u8 16), .lit (.int .u8 7), .lit (.int .u8 26), .lit (.int .u8 12), .lit (.int .u8 18), .lit (.int .u8 6), .lit (.int .u8 11), .lit (.int .u8 5), .lit (.int .u8 10), .lit (.int .u8 9)]
def laid_math_bits_deBruijn64tab {H : Type} : DataW H := .agg [.lit (.int .u8 0), .lit (.int .u8 1), .lit (.int .u8 56), .lit (.int .u8 2), .lit (.int .u8 57), .lit (.int .u8 49), .lit (.int .u8 28), .lit (.int .u8 3), .lit (.int .u8 61), .lit (.int .u8 58), .lit (.int .u8 42), .lit (.int .u8 50), .lit (.int .u8 38), .lit (.int .u8 29), .lit (.int .u8 17), .lit (.int .u8 4), .lit (.int .u8 62), .lit (.int .u8 47), .lit (.int .u8 59), .lit (.int .u8 36), .lit (.int .u8 45), .lit (.int .u8 43), .lit (.int .u8 51), .lit (.int .u8 22), .lit (.int .u8 53), .lit (.int .u8 39), .lit (.int .u8 33), .lit (.int .u8 30), .lit (.int .u8 24), .lit (.int .u8 18), .lit (.int .u8 12), .lit (.int .u8 5), .lit (.int .u8 63), .lit (.int .u8 55), .lit (.int .u8 48), .lit (.int .u8 27), .lit (.int .u8 60), .lit (.int .u8 41), .lit (.int .u8 37), .lit (.int .u8 16), .lit (.int .u8 46), .lit (.int .u8 35), .lit (.int .u8 44), .lit (.int .u8 21), .lit (.int .u8 52), .lit (.int .u8 32), .lit (.int .u8 23), .lit (.int .u8 11), .lit (.int .u8 54), .lit (.int .u8 26), .lit (.int .u8 40), .lit (.int .u8 15), .lit (.int .u8 34), .lit (.int .u8 20), .lit (.int .u8 31), .lit (.int .u8 10), .lit (.int .u8 25), .lit (.int .u8 14), .lit (.int .u8 19), .lit (.int .u8 9), .lit (.int .u8 13), .lit (.int .u8 8), .lit (.int .u8 7), .lit (.int .u8 6)]
def laid_internal_strconv_uint64pow10 {H : Type} : DataW H := .agg [.lit (.int .u64 1), .lit (.int .u64 10), .lit (.int .u64 100), .lit (.int .u64 1000), .lit (.int .u64 10000), .lit (.int .u64 100000), .lit (.int .u64 1000000), .lit (.int .u64 10000000), .lit (.int .u64 100000000), .lit (.int .u64 1000000000), .lit (.int .u64 10000000000), .lit (.int .u64 100000000000), .lit (.int .u64 1000000000000), .lit (.int .u64 10000000000000), .lit (.int .u64 100000000000000), .lit (.int .u64 1000000000000000), .lit (.int .u64 10000000000000000), .lit (.int .u64 100000000000000000), .lit (.int .u64 1000000000000000000), .lit (.int .u64 10000000000000000000)]

/-- 'chitilaw02.CordOlds': WHATEVER THE INPUT: true; the input reads as it did. -/
def cordOldsSpec : ChangeSpec := { name := "cordOlds", fn := fun _ => fun
  | [d1, d2] => { results := [.lit (.bool true)], args := [d1, d2] }
  | _ => none }
def cordOldsRow : OpenClaim := { program := "ytkjclafbpocabaagreatdoor", sum := "c4a3775a98f09b0926bfa94ae1e829d61ba78af6fa25c9276f6f702924610969", func := "chiti/chitilaw02.CordOlds", spec := "cordOlds", inPlace := ["math/bits.Sub64", "math/bits.Add64"], unfollowed := true, recurses := true, named := ["internal/strconv.uint64pow10", "math/bits.deBruijn32tab", "math/bits.deBruijn64tab", "math/bits.divideError", "math/bits.overflowError"], apart := false, laid := [("math/bits.deBruijn32tab", laid_math_bits_deBruijn32tab), ("math/bits.deBruijn64tab", laid_math_bits_deBruijn64tab), ("internal/strconv.uint64pow10", laid_internal_strconv_uint64pow10)] }
def CordOldsSaid : Prop := cordOldsRow.holds Tryz.pinned (OpenSpec.ofChange cordOldsSpec)

/-- ITS FALSE NEIGHBOUR: 'it returns false'. Refute it at one input. -/
def cordOldsWrong : ChangeSpec := { name := "cordOlds", fn := fun _ => fun
  | [d1, d2] => { results := [.lit (.bool false)], args := [d1, d2] }
  | _ => none }
def CordOldsWrongFalsely : Prop := cordOldsRow.holds Tryz.pinned (OpenSpec.ofChange cordOldsWrong)

/-- 'chitilaw02.CordExtends': WHATEVER THE INPUT: true; the input reads as it did. -/
def cordExtendsSpec : ChangeSpec := { name := "cordExtends", fn := fun _ => fun
  | [d1, d2, d3] => { results := [.lit (.bool true)], args := [d1, d2, d3] }
  | _ => none }
def cordExtendsRow : OpenClaim := { program := "ytkjclafbpocabaagreatdoor", sum := "c4a3775a98f09b0926bfa94ae1e829d61ba78af6fa25c9276f6f702924610969", func := "chiti/chitilaw02.CordExtends", spec := "cordExtends", inPlace := ["math/bits.Sub64", "math/bits.Add64"], unfollowed := true, recurses := true, named := ["internal/strconv.uint64pow10", "math/bits.deBruijn32tab", "math/bits.deBruijn64tab", "math/bits.divideError", "math/bits.overflowError"], apart := false, laid := [("math/bits.deBruijn32tab", laid_math_bits_deBruijn32tab), ("math/bits.deBruijn64tab", laid_math_bits_deBruijn64tab), ("internal/strconv.uint64pow10", laid_internal_strconv_uint64pow10)] }
def CordExtendsSaid : Prop := cordExtendsRow.holds Tryz.pinned (OpenSpec.ofChange cordExtendsSpec)

/-- ITS FALSE NEIGHBOUR: 'it returns false'. Refute it at one input. -/
def cordExtendsWrong : ChangeSpec := { name := "cordExtends", fn := fun _ => fun
  | [d1, d2, d3] => { results := [.lit (.bool false)], args := [d1, d2, d3] }
  | _ => none }
def CordExtendsWrongFalsely : Prop := cordExtendsRow.holds Tryz.pinned (OpenSpec.ofChange cordExtendsWrong)

/-- 'chitilaw02.CordTakes': WHATEVER THE INPUT: true; the input reads as it did. -/
def cordTakesSpec : ChangeSpec := { name := "cordTakes", fn := fun _ => fun
  | [d1, d2] => { results := [.lit (.bool true)], args := [d1, d2] }
  | _ => none }
def cordTakesRow : OpenClaim := { program := "ytkjclafbpocabaagreatdoor", sum := "c4a3775a98f09b0926bfa94ae1e829d61ba78af6fa25c9276f6f702924610969", func := "chiti/chitilaw02.CordTakes", spec := "cordTakes", inPlace := ["math/bits.Sub64", "math/bits.Add64"], unfollowed := true, recurses := true, named := ["internal/strconv.uint64pow10", "math/bits.deBruijn32tab", "math/bits.deBruijn64tab", "math/bits.divideError", "math/bits.overflowError"], apart := false, laid := [("math/bits.deBruijn32tab", laid_math_bits_deBruijn32tab), ("math/bits.deBruijn64tab", laid_math_bits_deBruijn64tab), ("internal/strconv.uint64pow10", laid_internal_strconv_uint64pow10)] }
def CordTakesSaid : Prop := cordTakesRow.holds Tryz.pinned (OpenSpec.ofChange cordTakesSpec)

/-- ITS FALSE NEIGHBOUR: 'it returns false'. Refute it at one input. -/
def cordTakesWrong : ChangeSpec := { name := "cordTakes", fn := fun _ => fun
  | [d1, d2] => { results := [.lit (.bool false)], args := [d1, d2] }
  | _ => none }
def CordTakesWrongFalsely : Prop := cordTakesRow.holds Tryz.pinned (OpenSpec.ofChange cordTakesWrong)

/-- 'chitilaw02.CordOffs': WHATEVER THE INPUT: true; the input reads as it did. -/
def cordOffsSpec : ChangeSpec := { name := "cordOffs", fn := fun _ => fun
  | [d1, d2, d3] => { results := [.lit (.bool true)], args := [d1, d2, d3] }
  | _ => none }
def cordOffsRow : OpenClaim := { program := "ytkjclafbpocabaagreatdoor", sum := "c4a3775a98f09b0926bfa94ae1e829d61ba78af6fa25c9276f6f702924610969", func := "chiti/chitilaw02.CordOffs", spec := "cordOffs", inPlace := ["math/bits.Sub64", "math/bits.Add64"], unfollowed := true, recurses := true, named := ["internal/strconv.uint64pow10", "math/bits.deBruijn32tab", "math/bits.deBruijn64tab", "math/bits.divideError", "math/bits.overflowError"], apart := false, laid := [("math/bits.deBruijn32tab", laid_math_bits_deBruijn32tab), ("math/bits.deBruijn64tab", laid_math_bits_deBruijn64tab), ("internal/strconv.uint64pow10", laid_internal_strconv_uint64pow10)] }
def CordOffsSaid : Prop := cordOffsRow.holds Tryz.pinned (OpenSpec.ofChange cordOffsSpec)

/-- ITS FALSE NEIGHBOUR: 'it returns false'. Refute it at one input. -/
def cordOffsWrong : ChangeSpec := { name := "cordOffs", fn := fun _ => fun
  | [d1, d2, d3] => { results := [.lit (.bool false)], args := [d1, d2, d3] }
  | _ => none }
def CordOffsWrongFalsely : Prop := cordOffsRow.holds Tryz.pinned (OpenSpec.ofChange cordOffsWrong)

/-- 'chitilaw02.CordNears': WHATEVER THE INPUT: true; the input reads as it did. -/
def cordNearsSpec : ChangeSpec := { name := "cordNears", fn := fun _ => fun
  | [d1, d2] => { results := [.lit (.bool true)], args := [d1, d2] }
  | _ => none }
def cordNearsRow : OpenClaim := { program := "ytkjclafbpocabaagreatdoor", sum := "c4a3775a98f09b0926bfa94ae1e829d61ba78af6fa25c9276f6f702924610969", func := "chiti/chitilaw02.CordNears", spec := "cordNears", inPlace := ["math/bits.Sub64", "math/bits.Add64"], unfollowed := true, recurses := true, named := ["internal/strconv.uint64pow10", "math/bits.deBruijn32tab", "math/bits.deBruijn64tab", "math/bits.divideError", "math/bits.overflowError"], apart := false, laid := [("math/bits.deBruijn32tab", laid_math_bits_deBruijn32tab), ("math/bits.deBruijn64tab", laid_math_bits_deBruijn64tab), ("internal/strconv.uint64pow10", laid_internal_strconv_uint64pow10)] }
def CordNearsSaid : Prop := cordNearsRow.holds Tryz.pinned (OpenSpec.ofChange cordNearsSpec)

/-- ITS FALSE NEIGHBOUR: 'it returns false'. Refute it at one input. -/
def cordNearsWrong : ChangeSpec := { name := "cordNears", fn := fun _ => fun
  | [d1, d2] => { results := [.lit (.bool false)], args := [d1, d2] }
  | _ => none }
def CordNearsWrongFalsely : Prop := cordNearsRow.holds Tryz.pinned (OpenSpec.ofChange cordNearsWrong)

/-- 'chitilaw02.CordRules': WHATEVER THE INPUT: true; the input reads as it did. -/
def cordRulesSpec : ChangeSpec := { name := "cordRules", fn := fun _ => fun
  | [d1, d2, d3] => { results := [.lit (.bool true)], args := [d1, d2, d3] }
  | _ => none }
def cordRulesRow : OpenClaim := { program := "ytkjclafbpocabaagreatdoor", sum := "c4a3775a98f09b0926bfa94ae1e829d61ba78af6fa25c9276f6f702924610969", func := "chiti/chitilaw02.CordRules", spec := "cordRules", inPlace := ["math/bits.Sub64", "math/bits.Add64"], unfollowed := true, recurses := true, named := ["internal/strconv.uint64pow10", "math/bits.deBruijn32tab", "math/bits.deBruijn64tab", "math/bits.divideError", "math/bits.overflowError"], apart := false, laid := [("math/bits.deBruijn32tab", laid_math_bits_deBruijn32tab), ("math/bits.deBruijn64tab", laid_math_bits_deBruijn64tab), ("internal/strconv.uint64pow10", laid_internal_strconv_uint64pow10)] }
def CordRulesSaid : Prop := cordRulesRow.holds Tryz.pinned (OpenSpec.ofChange cordRulesSpec)

/-- ITS FALSE NEIGHBOUR: 'it returns false'. Refute it at one input. -/
def cordRulesWrong : ChangeSpec := { name := "cordRules", fn := fun _ => fun
  | [d1, d2, d3] => { results := [.lit (.bool false)], args := [d1, d2, d3] }
  | _ => none }
def CordRulesWrongFalsely : Prop := cordRulesRow.holds Tryz.pinned (OpenSpec.ofChange cordRulesWrong)

/-- 'chitilaw02.CordCompares': WHATEVER THE INPUT: true; the input reads as it did. -/
def cordComparesSpec : ChangeSpec := { name := "cordCompares", fn := fun _ => fun
  | [d1, d2] => { results := [.lit (.bool true)], args := [d1, d2] }
  | _ => none }
def cordComparesRow : OpenClaim := { program := "ytkjclafbpocabaagreatdoor", sum := "c4a3775a98f09b0926bfa94ae1e829d61ba78af6fa25c9276f6f702924610969", func := "chiti/chitilaw02.CordCompares", spec := "cordCompares", inPlace := ["math/bits.Sub64", "math/bits.Add64"], unfollowed := true, recurses := true, named := ["internal/strconv.uint64pow10", "math/bits.deBruijn32tab", "math/bits.deBruijn64tab", "math/bits.divideError", "math/bits.overflowError"], apart := false, laid := [("math/bits.deBruijn32tab", laid_math_bits_deBruijn32tab), ("math/bits.deBruijn64tab", laid_math_bits_deBruijn64tab), ("internal/strconv.uint64pow10", laid_internal_strconv_uint64pow10)] }
def CordComparesSaid : Prop := cordComparesRow.holds Tryz.pinned (OpenSpec.ofChange cordComparesSpec)

/-- ITS FALSE NEIGHBOUR: 'it returns false'. Refute it at one input. -/
def cordComparesWrong : ChangeSpec := { name := "cordCompares", fn := fun _ => fun
  | [d1, d2] => { results := [.lit (.bool false)], args := [d1, d2] }
  | _ => none }
def CordComparesWrongFalsely : Prop := cordComparesRow.holds Tryz.pinned (OpenSpec.ofChange cordComparesWrong)

/-- 'chitilaw02.CordBytes': WHATEVER THE INPUT: true; the input reads as it did. -/
def cordBytesSpec : ChangeSpec := { name := "cordBytes", fn := fun _ => fun
  | [d1, d2, d3] => { results := [.lit (.bool true)], args := [d1, d2, d3] }
  | _ => none }
def cordBytesRow : OpenClaim := { program := "ytkjclafbpocabaagreatdoor", sum := "c4a3775a98f09b0926bfa94ae1e829d61ba78af6fa25c9276f6f702924610969", func := "chiti/chitilaw02.CordBytes", spec := "cordBytes", inPlace := ["math/bits.Sub64", "math/bits.Add64"], unfollowed := true, recurses := true, named := ["internal/strconv.uint64pow10", "math/bits.deBruijn32tab", "math/bits.deBruijn64tab", "math/bits.divideError", "math/bits.overflowError"], apart := false, laid := [("math/bits.deBruijn32tab", laid_math_bits_deBruijn32tab), ("math/bits.deBruijn64tab", laid_math_bits_deBruijn64tab), ("internal/strconv.uint64pow10", laid_internal_strconv_uint64pow10)] }
def CordBytesSaid : Prop := cordBytesRow.holds Tryz.pinned (OpenSpec.ofChange cordBytesSpec)

/-- ITS FALSE NEIGHBOUR: 'it returns false'. Refute it at one input. -/
def cordBytesWrong : ChangeSpec := { name := "cordBytes", fn := fun _ => fun
  | [d1, d2, d3] => { results := [.lit (.bool false)], args := [d1, d2, d3] }
  | _ => none }
def CordBytesWrongFalsely : Prop := cordBytesRow.holds Tryz.pinned (OpenSpec.ofChange cordBytesWrong)

/-- 'chitilaw02.CordCorrects': WHATEVER THE INPUT: true; the input reads as it did. -/
def cordCorrectsSpec : ChangeSpec := { name := "cordCorrects", fn := fun _ => fun
  | [d1, d2] => { results := [.lit (.bool true)], args := [d1, d2] }
  | _ => none }
def cordCorrectsRow : OpenClaim := { program := "ytkjclafbpocabaagreatdoor", sum := "c4a3775a98f09b0926bfa94ae1e829d61ba78af6fa25c9276f6f702924610969", func := "chiti/chitilaw02.CordCorrects", spec := "cordCorrects", inPlace := ["math/bits.Sub64", "math/bits.Add64"], unfollowed := true, recurses := true, named := ["internal/strconv.uint64pow10", "math/bits.deBruijn32tab", "math/bits.deBruijn64tab", "math/bits.divideError", "math/bits.overflowError"], apart := false, laid := [("math/bits.deBruijn32tab", laid_math_bits_deBruijn32tab), ("math/bits.deBruijn64tab", laid_math_bits_deBruijn64tab), ("internal/strconv.uint64pow10", laid_internal_strconv_uint64pow10)] }
def CordCorrectsSaid : Prop := cordCorrectsRow.holds Tryz.pinned (OpenSpec.ofChange cordCorrectsSpec)

/-- ITS FALSE NEIGHBOUR: 'it returns false'. Refute it at one input. -/
def cordCorrectsWrong : ChangeSpec := { name := "cordCorrects", fn := fun _ => fun
  | [d1, d2] => { results := [.lit (.bool false)], args := [d1, d2] }
  | _ => none }
def CordCorrectsWrongFalsely : Prop := cordCorrectsRow.holds Tryz.pinned (OpenSpec.ofChange cordCorrectsWrong)

/-- 'chitilaw02.CordRest': WHATEVER THE INPUT: true; the input reads as it did. -/
def cordRestSpec : ChangeSpec := { name := "cordRest", fn := fun _ => fun
  | [d1, d2, d3] => { results := [.lit (.bool true)], args := [d1, d2, d3] }
  | _ => none }
def cordRestRow : OpenClaim := { program := "ytkjclafbpocabaagreatdoor", sum := "c4a3775a98f09b0926bfa94ae1e829d61ba78af6fa25c9276f6f702924610969", func := "chiti/chitilaw02.CordRest", spec := "cordRest", inPlace := ["math/bits.Sub64", "math/bits.Add64"], unfollowed := true, recurses := true, named := ["internal/strconv.uint64pow10", "math/bits.deBruijn32tab", "math/bits.deBruijn64tab", "math/bits.divideError", "math/bits.overflowError"], apart := false, laid := [("math/bits.deBruijn32tab", laid_math_bits_deBruijn32tab), ("math/bits.deBruijn64tab", laid_math_bits_deBruijn64tab), ("internal/strconv.uint64pow10", laid_internal_strconv_uint64pow10)] }
def CordRestSaid : Prop := cordRestRow.holds Tryz.pinned (OpenSpec.ofChange cordRestSpec)

/-- ITS FALSE NEIGHBOUR: 'it returns false'. Refute it at one input. -/
def cordRestWrong : ChangeSpec := { name := "cordRest", fn := fun _ => fun
  | [d1, d2, d3] => { results := [.lit (.bool false)], args := [d1, d2, d3] }
  | _ => none }
def CordRestWrongFalsely : Prop := cordRestRow.holds Tryz.pinned (OpenSpec.ofChange cordRestWrong)

/-- 'chitilaw02.CordNearest': WHATEVER THE INPUT: true; the input reads as it did. -/
def cordNearestSpec : ChangeSpec := { name := "cordNearest", fn := fun _ => fun
  | [d] => { results := [.lit (.bool true)], args := [d] }
  | _ => none }
def cordNearestRow : OpenClaim := { program := "ytkjclafbpocabaagreatdoor", sum := "c4a3775a98f09b0926bfa94ae1e829d61ba78af6fa25c9276f6f702924610969", func := "chiti/chitilaw02.CordNearest", spec := "cordNearest", inPlace := ["math/bits.Add64", "math/bits.Sub64"], unfollowed := true, recurses := true, named := ["internal/strconv.uint64pow10", "math/bits.deBruijn32tab", "math/bits.deBruijn64tab", "math/bits.divideError", "math/bits.overflowError"], apart := false, laid := [("math/bits.deBruijn32tab", laid_math_bits_deBruijn32tab), ("math/bits.deBruijn64tab", laid_math_bits_deBruijn64tab), ("internal/strconv.uint64pow10", laid_internal_strconv_uint64pow10)] }
def CordNearestSaid : Prop := cordNearestRow.holds Tryz.pinned (OpenSpec.ofChange cordNearestSpec)

/-- ITS FALSE NEIGHBOUR: 'it returns false'. Refute it at one input. -/
def cordNearestWrong : ChangeSpec := { name := "cordNearest", fn := fun _ => fun
  | [d] => { results := [.lit (.bool false)], args := [d] }
  | _ => none }
def CordNearestWrongFalsely : Prop := cordNearestRow.holds Tryz.pinned (OpenSpec.ofChange cordNearestWrong)

/-- 'chitilaw02.CordMoves': WHATEVER THE INPUT: true; the input reads as it did. -/
def cordMovesSpec : ChangeSpec := { name := "cordMoves", fn := fun _ => fun
  | [d1, d2, d3] => { results := [.lit (.bool true)], args := [d1, d2, d3] }
  | _ => none }
def cordMovesRow : OpenClaim := { program := "ytkjclafbpocabaagreatdoor", sum := "c4a3775a98f09b0926bfa94ae1e829d61ba78af6fa25c9276f6f702924610969", func := "chiti/chitilaw02.CordMoves", spec := "cordMoves", inPlace := ["math/bits.Sub64", "math/bits.Add64"], unfollowed := true, recurses := true, named := ["math/bits.divideError", "math/bits.overflowError", "internal/strconv.uint64pow10", "math/bits.deBruijn32tab", "math/bits.deBruijn64tab"], apart := false, laid := [("math/bits.deBruijn32tab", laid_math_bits_deBruijn32tab), ("math/bits.deBruijn64tab", laid_math_bits_deBruijn64tab), ("internal/strconv.uint64pow10", laid_internal_strconv_uint64pow10)] }
def CordMovesSaid : Prop := cordMovesRow.holds Tryz.pinned (OpenSpec.ofChange cordMovesSpec)

/-- ITS FALSE NEIGHBOUR: 'it returns false'. Refute it at one input. -/
def cordMovesWrong : ChangeSpec := { name := "cordMoves", fn := fun _ => fun
  | [d1, d2, d3] => { results := [.lit (.bool false)], args := [d1, d2, d3] }
  | _ => none }
def CordMovesWrongFalsely : Prop := cordMovesRow.holds Tryz.pinned (OpenSpec.ofChange cordMovesWrong)

/-- 'chitilaw02.CordExact': WHATEVER THE INPUT: true; the input reads as it did. -/
def cordExactSpec : ChangeSpec := { name := "cordExact", fn := fun _ => fun
  | [d] => { results := [.lit (.bool true)], args := [d] }
  | _ => none }
def cordExactRow : OpenClaim := { program := "ytkjclafbpocabaagreatdoor", sum := "c4a3775a98f09b0926bfa94ae1e829d61ba78af6fa25c9276f6f702924610969", func := "chiti/chitilaw02.CordExact", spec := "cordExact", inPlace := ["math/bits.Add64", "math/bits.Sub64"], unfollowed := true, recurses := true, named := ["math/bits.divideError", "math/bits.overflowError", "internal/strconv.uint64pow10", "math/bits.deBruijn32tab", "math/bits.deBruijn64tab"], apart := false, laid := [("math/bits.deBruijn32tab", laid_math_bits_deBruijn32tab), ("math/bits.deBruijn64tab", laid_math_bits_deBruijn64tab), ("internal/strconv.uint64pow10", laid_internal_strconv_uint64pow10)] }
def CordExactSaid : Prop := cordExactRow.holds Tryz.pinned (OpenSpec.ofChange cordExactSpec)

/-- ITS FALSE NEIGHBOUR: 'it returns false'. Refute it at one input. -/
def cordExactWrong : ChangeSpec := { name := "cordExact", fn := fun _ => fun
  | [d] => { results := [.lit (.bool false)], args := [d] }
  | _ => none }
def CordExactWrongFalsely : Prop := cordExactRow.holds Tryz.pinned (OpenSpec.ofChange cordExactWrong)

/-- 'chititop.TopCorrected': WHATEVER THE INPUT: true; the input reads as it did. -/
def topCorrectedSpec : ChangeSpec := { name := "topCorrected", fn := fun _ => fun
  | [d1, d2] => { results := [.lit (.bool true)], args := [d1, d2] }
  | _ => none }
def topCorrectedRow : OpenClaim := { program := "ytkjclafbpocabaagreatdoor", sum := "c4a3775a98f09b0926bfa94ae1e829d61ba78af6fa25c9276f6f702924610969", func := "chiti/chititop.TopCorrected", spec := "topCorrected", unfollowed := true, recurses := true, named := ["internal/strconv.uint64pow10", "math/bits.deBruijn32tab", "math/bits.deBruijn64tab"], apart := false, laid := [("math/bits.deBruijn32tab", laid_math_bits_deBruijn32tab), ("math/bits.deBruijn64tab", laid_math_bits_deBruijn64tab), ("internal/strconv.uint64pow10", laid_internal_strconv_uint64pow10)] }
def TopCorrectedSaid : Prop := topCorrectedRow.holds Tryz.pinned (OpenSpec.ofChange topCorrectedSpec)

/-- ITS FALSE NEIGHBOUR: 'it returns false'. Refute it at one input. -/
def topCorrectedWrong : ChangeSpec := { name := "topCorrected", fn := fun _ => fun
  | [d1, d2] => { results := [.lit (.bool false)], args := [d1, d2] }
  | _ => none }
def TopCorrectedWrongFalsely : Prop := topCorrectedRow.holds Tryz.pinned (OpenSpec.ofChange topCorrectedWrong)

/-- 'chititop.TopYears': WHATEVER THE INPUT: true; the input reads as it did. -/
def topYearsSpec : ChangeSpec := { name := "topYears", fn := fun _ => fun
  | [d1, d2, d3] => { results := [.lit (.bool true)], args := [d1, d2, d3] }
  | _ => none }
def topYearsRow : OpenClaim := { program := "ytkjclafbpocabaagreatdoor", sum := "c4a3775a98f09b0926bfa94ae1e829d61ba78af6fa25c9276f6f702924610969", func := "chiti/chititop.TopYears", spec := "topYears", inPlace := ["math/bits.Add64", "math/bits.Sub64"], unfollowed := true, recurses := true, named := ["internal/strconv.uint64pow10", "math/bits.deBruijn32tab", "math/bits.deBruijn64tab"], apart := false, laid := [("math/bits.deBruijn32tab", laid_math_bits_deBruijn32tab), ("math/bits.deBruijn64tab", laid_math_bits_deBruijn64tab), ("internal/strconv.uint64pow10", laid_internal_strconv_uint64pow10)] }
def TopYearsSaid : Prop := topYearsRow.holds Tryz.pinned (OpenSpec.ofChange topYearsSpec)

/-- ITS FALSE NEIGHBOUR: 'it returns false'. Refute it at one input. -/
def topYearsWrong : ChangeSpec := { name := "topYears", fn := fun _ => fun
  | [d1, d2, d3] => { results := [.lit (.bool false)], args := [d1, d2, d3] }
  | _ => none }
def TopYearsWrongFalsely : Prop := topYearsRow.holds Tryz.pinned (OpenSpec.ofChange topYearsWrong)

/- THE SECOND FORM. 'bulk': how many values and letters a reading holds, each counted each time it is reached (what is shared counts as often as it is met; a slice's spare places count too). A statement '..UptoSaid' is the law's where the arguments, and the package variables that the reading takes, are together of bulk at most 1048576: NARROWER than '..Said'. Prove '..Said' where nothing that the law and all that it calls make is longer than what came in: it says more and counts as full. Else prove '..UptoSaid'. A law counts once. -/
mutual
def uptoBulk {H : Type} : DataW H → Nat
  | .lit (.string bytes) => bytes.length + 1
  | .lit _ => 1
  | .nil => 1
  | .ptr d => uptoBulk d + 1
  | .slice elems spare => uptoBulkAll elems + uptoBulkAll spare + 1
  | .agg parts => uptoBulkAll parts + 1
  | .iface _ d => uptoBulk d + 1
  | .map entries => uptoBulkEntries entries + 1
  | .held _ => 1
def uptoBulkAll {H : Type} : List (DataW H) → Nat
  | [] => 0
  | d :: r => uptoBulk d + uptoBulkAll r
def uptoBulkEntries {H : Type} : List (Lit × DataW H) → Nat
  | [] => 0
  | x :: r => uptoBulkEntry x + uptoBulkEntries r
def uptoBulkEntry {H : Type} : Lit × DataW H → Nat
  | (.string bytes, d) => bytes.length + uptoBulk d + 1
  | (_, d) => uptoBulk d + 1
 end
def uptoSmall : (H : Type) → List (DataW H) → Bool := fun _ ds => decide (uptoBulkAll ds ≤ 1048576)
def OpenSpec.upto (s : _root_.Go.ChangeSpec) : _root_.Go.OpenSpec := { _root_.Go.OpenSpec.ofChange s with cond := some uptoSmall }

/-- 'chitilaw02.CordOlds', WHERE WHAT IT READS IS OF BULK AT MOST 1048576: true; the input reads as it did. -/
def cordOldsUptoRow : OpenClaim := { program := "ytkjclafbpocabaagreatdoor", sum := "c4a3775a98f09b0926bfa94ae1e829d61ba78af6fa25c9276f6f702924610969", func := "chiti/chitilaw02.CordOlds", spec := "cordOlds", inPlace := ["math/bits.Sub64", "math/bits.Add64"], unfollowed := true, recurses := true, named := ["internal/strconv.uint64pow10", "math/bits.deBruijn32tab", "math/bits.deBruijn64tab", "math/bits.divideError", "math/bits.overflowError"], apart := false, laid := [("math/bits.deBruijn32tab", laid_math_bits_deBruijn32tab), ("math/bits.deBruijn64tab", laid_math_bits_deBruijn64tab), ("internal/strconv.uint64pow10", laid_internal_strconv_uint64pow10)], narrowed := true }
def CordOldsUptoSaid : Prop := cordOldsUptoRow.holds Tryz.pinned (OpenSpec.upto cordOldsSpec)

/-- 'chitilaw02.CordExtends', WHERE WHAT IT READS IS OF BULK AT MOST 1048576: true; the input reads as it did. -/
def cordExtendsUptoRow : OpenClaim := { program := "ytkjclafbpocabaagreatdoor", sum := "c4a3775a98f09b0926bfa94ae1e829d61ba78af6fa25c9276f6f702924610969", func := "chiti/chitilaw02.CordExtends", spec := "cordExtends", inPlace := ["math/bits.Sub64", "math/bits.Add64"], unfollowed := true, recurses := true, named := ["internal/strconv.uint64pow10", "math/bits.deBruijn32tab", "math/bits.deBruijn64tab", "math/bits.divideError", "math/bits.overflowError"], apart := false, laid := [("math/bits.deBruijn32tab", laid_math_bits_deBruijn32tab), ("math/bits.deBruijn64tab", laid_math_bits_deBruijn64tab), ("internal/strconv.uint64pow10", laid_internal_strconv_uint64pow10)], narrowed := true }
def CordExtendsUptoSaid : Prop := cordExtendsUptoRow.holds Tryz.pinned (OpenSpec.upto cordExtendsSpec)

/-- 'chitilaw02.CordTakes', WHERE WHAT IT READS IS OF BULK AT MOST 1048576: true; the input reads as it did. -/
def cordTakesUptoRow : OpenClaim := { program := "ytkjclafbpocabaagreatdoor", sum := "c4a3775a98f09b0926bfa94ae1e829d61ba78af6fa25c9276f6f702924610969", func := "chiti/chitilaw02.CordTakes", spec := "cordTakes", inPlace := ["math/bits.Sub64", "math/bits.Add64"], unfollowed := true, recurses := true, named := ["internal/strconv.uint64pow10", "math/bits.deBruijn32tab", "math/bits.deBruijn64tab", "math/bits.divideError", "math/bits.overflowError"], apart := false, laid := [("math/bits.deBruijn32tab", laid_math_bits_deBruijn32tab), ("math/bits.deBruijn64tab", laid_math_bits_deBruijn64tab), ("internal/strconv.uint64pow10", laid_internal_strconv_uint64pow10)], narrowed := true }
def CordTakesUptoSaid : Prop := cordTakesUptoRow.holds Tryz.pinned (OpenSpec.upto cordTakesSpec)

/-- 'chitilaw02.CordOffs', WHERE WHAT IT READS IS OF BULK AT MOST 1048576: true; the input reads as it did. -/
def cordOffsUptoRow : OpenClaim := { program := "ytkjclafbpocabaagreatdoor", sum := "c4a3775a98f09b0926bfa94ae1e829d61ba78af6fa25c9276f6f702924610969", func := "chiti/chitilaw02.CordOffs", spec := "cordOffs", inPlace := ["math/bits.Sub64", "math/bits.Add64"], unfollowed := true, recurses := true, named := ["internal/strconv.uint64pow10", "math/bits.deBruijn32tab", "math/bits.deBruijn64tab", "math/bits.divideError", "math/bits.overflowError"], apart := false, laid := [("math/bits.deBruijn32tab", laid_math_bits_deBruijn32tab), ("math/bits.deBruijn64tab", laid_math_bits_deBruijn64tab), ("internal/strconv.uint64pow10", laid_internal_strconv_uint64pow10)], narrowed := true }
def CordOffsUptoSaid : Prop := cordOffsUptoRow.holds Tryz.pinned (OpenSpec.upto cordOffsSpec)

/-- 'chitilaw02.CordNears', WHERE WHAT IT READS IS OF BULK AT MOST 1048576: true; the input reads as it did. -/
def cordNearsUptoRow : OpenClaim := { program := "ytkjclafbpocabaagreatdoor", sum := "c4a3775a98f09b0926bfa94ae1e829d61ba78af6fa25c9276f6f702924610969", func := "chiti/chitilaw02.CordNears", spec := "cordNears", inPlace := ["math/bits.Sub64", "math/bits.Add64"], unfollowed := true, recurses := true, named := ["internal/strconv.uint64pow10", "math/bits.deBruijn32tab", "math/bits.deBruijn64tab", "math/bits.divideError", "math/bits.overflowError"], apart := false, laid := [("math/bits.deBruijn32tab", laid_math_bits_deBruijn32tab), ("math/bits.deBruijn64tab", laid_math_bits_deBruijn64tab), ("internal/strconv.uint64pow10", laid_internal_strconv_uint64pow10)], narrowed := true }
def CordNearsUptoSaid : Prop := cordNearsUptoRow.holds Tryz.pinned (OpenSpec.upto cordNearsSpec)

/-- 'chitilaw02.CordRules', WHERE WHAT IT READS IS OF BULK AT MOST 1048576: true; the input reads as it did. -/
def cordRulesUptoRow : OpenClaim := { program := "ytkjclafbpocabaagreatdoor", sum := "c4a3775a98f09b0926bfa94ae1e829d61ba78af6fa25c9276f6f702924610969", func := "chiti/chitilaw02.CordRules", spec := "cordRules", inPlace := ["math/bits.Sub64", "math/bits.Add64"], unfollowed := true, recurses := true, named := ["internal/strconv.uint64pow10", "math/bits.deBruijn32tab", "math/bits.deBruijn64tab", "math/bits.divideError", "math/bits.overflowError"], apart := false, laid := [("math/bits.deBruijn32tab", laid_math_bits_deBruijn32tab), ("math/bits.deBruijn64tab", laid_math_bits_deBruijn64tab), ("internal/strconv.uint64pow10", laid_internal_strconv_uint64pow10)], narrowed := true }
def CordRulesUptoSaid : Prop := cordRulesUptoRow.holds Tryz.pinned (OpenSpec.upto cordRulesSpec)

/-- 'chitilaw02.CordCompares', WHERE WHAT IT READS IS OF BULK AT MOST 1048576: true; the input reads as it did. -/
def cordComparesUptoRow : OpenClaim := { program := "ytkjclafbpocabaagreatdoor", sum := "c4a3775a98f09b0926bfa94ae1e829d61ba78af6fa25c9276f6f702924610969", func := "chiti/chitilaw02.CordCompares", spec := "cordCompares", inPlace := ["math/bits.Sub64", "math/bits.Add64"], unfollowed := true, recurses := true, named := ["internal/strconv.uint64pow10", "math/bits.deBruijn32tab", "math/bits.deBruijn64tab", "math/bits.divideError", "math/bits.overflowError"], apart := false, laid := [("math/bits.deBruijn32tab", laid_math_bits_deBruijn32tab), ("math/bits.deBruijn64tab", laid_math_bits_deBruijn64tab), ("internal/strconv.uint64pow10", laid_internal_strconv_uint64pow10)], narrowed := true }
def CordComparesUptoSaid : Prop := cordComparesUptoRow.holds Tryz.pinned (OpenSpec.upto cordComparesSpec)

/-- 'chitilaw02.CordBytes', WHERE WHAT IT READS IS OF BULK AT MOST 1048576: true; the input reads as it did. -/
def cordBytesUptoRow : OpenClaim := { program := "ytkjclafbpocabaagreatdoor", sum := "c4a3775a98f09b0926bfa94ae1e829d61ba78af6fa25c9276f6f702924610969", func := "chiti/chitilaw02.CordBytes", spec := "cordBytes", inPlace := ["math/bits.Sub64", "math/bits.Add64"], unfollowed := true, recurses := true, named := ["internal/strconv.uint64pow10", "math/bits.deBruijn32tab", "math/bits.deBruijn64tab", "math/bits.divideError", "math/bits.overflowError"], apart := false, laid := [("math/bits.deBruijn32tab", laid_math_bits_deBruijn32tab), ("math/bits.deBruijn64tab", laid_math_bits_deBruijn64tab), ("internal/strconv.uint64pow10", laid_internal_strconv_uint64pow10)], narrowed := true }
def CordBytesUptoSaid : Prop := cordBytesUptoRow.holds Tryz.pinned (OpenSpec.upto cordBytesSpec)

/-- 'chitilaw02.CordCorrects', WHERE WHAT IT READS IS OF BULK AT MOST 1048576: true; the input reads as it did. -/
def cordCorrectsUptoRow : OpenClaim := { program := "ytkjclafbpocabaagreatdoor", sum := "c4a3775a98f09b0926bfa94ae1e829d61ba78af6fa25c9276f6f702924610969", func := "chiti/chitilaw02.CordCorrects", spec := "cordCorrects", inPlace := ["math/bits.Sub64", "math/bits.Add64"], unfollowed := true, recurses := true, named := ["internal/strconv.uint64pow10", "math/bits.deBruijn32tab", "math/bits.deBruijn64tab", "math/bits.divideError", "math/bits.overflowError"], apart := false, laid := [("math/bits.deBruijn32tab", laid_math_bits_deBruijn32tab), ("math/bits.deBruijn64tab", laid_math_bits_deBruijn64tab), ("internal/strconv.uint64pow10", laid_internal_strconv_uint64pow10)], narrowed := true }
def CordCorrectsUptoSaid : Prop := cordCorrectsUptoRow.holds Tryz.pinned (OpenSpec.upto cordCorrectsSpec)

/-- 'chitilaw02.CordRest', WHERE WHAT IT READS IS OF BULK AT MOST 1048576: true; the input reads as it did. -/
def cordRestUptoRow : OpenClaim := { program := "ytkjclafbpocabaagreatdoor", sum := "c4a3775a98f09b0926bfa94ae1e829d61ba78af6fa25c9276f6f702924610969", func := "chiti/chitilaw02.CordRest", spec := "cordRest", inPlace := ["math/bits.Sub64", "math/bits.Add64"], unfollowed := true, recurses := true, named := ["internal/strconv.uint64pow10", "math/bits.deBruijn32tab", "math/bits.deBruijn64tab", "math/bits.divideError", "math/bits.overflowError"], apart := false, laid := [("math/bits.deBruijn32tab", laid_math_bits_deBruijn32tab), ("math/bits.deBruijn64tab", laid_math_bits_deBruijn64tab), ("internal/strconv.uint64pow10", laid_internal_strconv_uint64pow10)], narrowed := true }
def CordRestUptoSaid : Prop := cordRestUptoRow.holds Tryz.pinned (OpenSpec.upto cordRestSpec)

/-- 'chitilaw02.CordNearest', WHERE WHAT IT READS IS OF BULK AT MOST 1048576: true; the input reads as it did. -/
def cordNearestUptoRow : OpenClaim := { program := "ytkjclafbpocabaagreatdoor", sum := "c4a3775a98f09b0926bfa94ae1e829d61ba78af6fa25c9276f6f702924610969", func := "chiti/chitilaw02.CordNearest", spec := "cordNearest", inPlace := ["math/bits.Add64", "math/bits.Sub64"], unfollowed := true, recurses := true, named := ["internal/strconv.uint64pow10", "math/bits.deBruijn32tab", "math/bits.deBruijn64tab", "math/bits.divideError", "math/bits.overflowError"], apart := false, laid := [("math/bits.deBruijn32tab", laid_math_bits_deBruijn32tab), ("math/bits.deBruijn64tab", laid_math_bits_deBruijn64tab), ("internal/strconv.uint64pow10", laid_internal_strconv_uint64pow10)], narrowed := true }
def CordNearestUptoSaid : Prop := cordNearestUptoRow.holds Tryz.pinned (OpenSpec.upto cordNearestSpec)

/-- 'chitilaw02.CordMoves', WHERE WHAT IT READS IS OF BULK AT MOST 1048576: true; the input reads as it did. -/
def cordMovesUptoRow : OpenClaim := { program := "ytkjclafbpocabaagreatdoor", sum := "c4a3775a98f09b0926bfa94ae1e829d61ba78af6fa25c9276f6f702924610969", func := "chiti/chitilaw02.CordMoves", spec := "cordMoves", inPlace := ["math/bits.Sub64", "math/bits.Add64"], unfollowed := true, recurses := true, named := ["math/bits.divideError", "math/bits.overflowError", "internal/strconv.uint64pow10", "math/bits.deBruijn32tab", "math/bits.deBruijn64tab"], apart := false, laid := [("math/bits.deBruijn32tab", laid_math_bits_deBruijn32tab), ("math/bits.deBruijn64tab", laid_math_bits_deBruijn64tab), ("internal/strconv.uint64pow10", laid_internal_strconv_uint64pow10)], narrowed := true }
def CordMovesUptoSaid : Prop := cordMovesUptoRow.holds Tryz.pinned (OpenSpec.upto cordMovesSpec)

/-- 'chitilaw02.CordExact', WHERE WHAT IT READS IS OF BULK AT MOST 1048576: true; the input reads as it did. -/
def cordExactUptoRow : OpenClaim := { program := "ytkjclafbpocabaagreatdoor", sum := "c4a3775a98f09b0926bfa94ae1e829d61ba78af6fa25c9276f6f702924610969", func := "chiti/chitilaw02.CordExact", spec := "cordExact", inPlace := ["math/bits.Add64", "math/bits.Sub64"], unfollowed := true, recurses := true, named := ["math/bits.divideError", "math/bits.overflowError", "internal/strconv.uint64pow10", "math/bits.deBruijn32tab", "math/bits.deBruijn64tab"], apart := false, laid := [("math/bits.deBruijn32tab", laid_math_bits_deBruijn32tab), ("math/bits.deBruijn64tab", laid_math_bits_deBruijn64tab), ("internal/strconv.uint64pow10", laid_internal_strconv_uint64pow10)], narrowed := true }
def CordExactUptoSaid : Prop := cordExactUptoRow.holds Tryz.pinned (OpenSpec.upto cordExactSpec)

/-- 'chititop.TopCorrected', WHERE WHAT IT READS IS OF BULK AT MOST 1048576: true; the input reads as it did. -/
def topCorrectedUptoRow : OpenClaim := { program := "ytkjclafbpocabaagreatdoor", sum := "c4a3775a98f09b0926bfa94ae1e829d61ba78af6fa25c9276f6f702924610969", func := "chiti/chititop.TopCorrected", spec := "topCorrected", unfollowed := true, recurses := true, named := ["internal/strconv.uint64pow10", "math/bits.deBruijn32tab", "math/bits.deBruijn64tab"], apart := false, laid := [("math/bits.deBruijn32tab", laid_math_bits_deBruijn32tab), ("math/bits.deBruijn64tab", laid_math_bits_deBruijn64tab), ("internal/strconv.uint64pow10", laid_internal_strconv_uint64pow10)], narrowed := true }
def TopCorrectedUptoSaid : Prop := topCorrectedUptoRow.holds Tryz.pinned (OpenSpec.upto topCorrectedSpec)

/-- 'chititop.TopYears', WHERE WHAT IT READS IS OF BULK AT MOST 1048576: true; the input reads as it did. -/
def topYearsUptoRow : OpenClaim := { program := "ytkjclafbpocabaagreatdoor", sum := "c4a3775a98f09b0926bfa94ae1e829d61ba78af6fa25c9276f6f702924610969", func := "chiti/chititop.TopYears", spec := "topYears", inPlace := ["math/bits.Add64", "math/bits.Sub64"], unfollowed := true, recurses := true, named := ["internal/strconv.uint64pow10", "math/bits.deBruijn32tab", "math/bits.deBruijn64tab"], apart := false, laid := [("math/bits.deBruijn32tab", laid_math_bits_deBruijn32tab), ("math/bits.deBruijn64tab", laid_math_bits_deBruijn64tab), ("internal/strconv.uint64pow10", laid_internal_strconv_uint64pow10)], narrowed := true }
def TopYearsUptoSaid : Prop := topYearsUptoRow.holds Tryz.pinned (OpenSpec.upto topYearsSpec)

end Rows
end Go.Proofs.YtkjclafbpocabaaGreatDoor
