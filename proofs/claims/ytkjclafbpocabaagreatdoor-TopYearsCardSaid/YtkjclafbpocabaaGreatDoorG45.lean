/-
  THE LAW TopYears, FOR EVERY INPUT, AND ITS CARD. The row lists three tables: the call is made in a world in which they hold what their initialisers lay.
-/
import Derived.Test.YtkjclafbpocabaaGreatDoorCards
import Derived.Test.YtkjclafbpocabaaGreatDoorTie
import Derived.Test.YtkjclafbpocabaaGreatDoorG44
import Derived.WideKeyPair
import Derived.WalkKit
import Derived.ProofKit
import Derived.OpenShut
import Derived.Deep.DeepHandedRow
import Derived.Deep.SlicePairs
import Derived.Lib.SmallJoins
import Derived.Lib.LaidTab
import Derived.Stop.LaidErr
import Derived.MakeChecks
import Derived.Shelf.Vars
import Derived.Lay
set_option linter.unusedSimpArgs false
set_option linter.unusedVariables false

/-! ## KYa -/
namespace Go.Proofs.YtkjclafbpocabaaGreatDoor
open Go.ChangeMaps Go.MakeChecks Go.ChangeShapes Go.WideShapes Go.ChangeAt Go.RowKit Go.Deep Go.Joins

theorem laidOutP : laidOutB Tryz.prog = true := by kernel_rfl
theorem ownP : ownKnob Tryz.prog.godebug = none := by kernel_rfl
theorem dataPow : (Rows.laid_internal_strconv_uint64pow10 : DataW Unit) = Lib.tabData .u64 Lib.pow10Tab := by kernel_rfl

/-- What the three laid tables give. -/
theorem tabW {W : World} (h : laidMetH Tryz.prog [("math/bits.deBruijn32tab", Rows.laid_math_bits_deBruijn32tab), ("math/bits.deBruijn64tab", Rows.laid_math_bits_deBruijn64tab), ("internal/strconv.uint64pow10", Rows.laid_internal_strconv_uint64pow10)] W) :
    Lib.TabIs Tryz.prog W "internal/strconv.uint64pow10" .u64 Lib.pow10Tab := by
  rw [laidMetH_plain _ _ _ (by kernel_rfl)] at h
  have h3 := h.tail.tail
  rw [dataPow] at h3
  exact Lib.tabIs_of_head (rest := []) gPow (t := 271) (by kernel_rfl) Tryz.underlying271 Tryz.underlying220 (by kernel_rfl) (by kernel_rfl) h3

theorem wok {W : World} (h : laidMetH Tryz.prog [("math/bits.deBruijn32tab", Rows.laid_math_bits_deBruijn32tab), ("math/bits.deBruijn64tab", Rows.laid_math_bits_deBruijn64tab), ("internal/strconv.uint64pow10", Rows.laid_internal_strconv_uint64pow10)] W) (hS : W.ShapedOpen Tryz.prog) : WOk W := by
  refine ⟨tabW h, trivial, ?_⟩
  obtain ⟨cs, hc, _⟩ := hS.1 4 ((List.replicate 64 (Value.int .u8 0)).toArray) 282 (of_decide_eq_true (by kernel_rfl)) (by kernel_rfl)
  have := (Array.getElem?_eq_some_iff.1 hc).1
  omega


theorem arr98 : Go.WideMaps.ArrKey Tryz.prog 98 5 2 := ⟨Tryz.underlying98, by kernel_rfl, by kernel_rfl, by kernel_rfl⟩
theorem byte_in {a : Int} (h : (Lit.int .u8 a).wf = true) : 0 ≤ a ∧ a ≤ 255 := by
  simp [Lit.wf, IntKind.min, IntKind.max, IntKind.bits, IntKind.signed] at h
  omega

set_option maxRecDepth 100000 in
/-- WHAT THE WALK GIVES, FOR EVERY ARGUMENT AND EVERY WORLD THAT HOLDS THE TABLES. -/
theorem contract17 (H : Type) (enc : TypeId × Value → H) (W : World) (base : Nat) (args : Array Value) (ds gs : List (DataW H)) (before : List MemPlace)
    (hval : ∀ (j : Nat) t v, Tryz.f17.params[j]? = some t → args[j]? = some v → Value.okWide Tryz.prog W .any base t v)
    (hW : DataW.Whole enc Tryz.prog Tryz.f17.params.toList Rows.topYearsSpec.vars false W args.toList ds gs before)
    (hO : WOk W) :
    Calls Tryz.prog 17 args W fun e W' => ∃ v, e = .returned v ∧ Rows.topYearsSpec.post enc Tryz.prog Tryz.f17 false true false false W args v W' := by
  have hW' := hW
  obtain ⟨p, q, hA0, hV, rfl, hfz, hnd⟩ := hW
  have hA : DataW.TrodAll enc Tryz.prog W 0 (fun _ => true) true Tryz.f17.params.toList args.toList ds p := hA0
  rw [Tryz.params17] at hA hval
  obtain ⟨v0, v1, v2, d0, d1, d2, p0, p1, p2, rfl, rfl, rfl, h0, h1, h2⟩ := trodAll_three hA
  obtain ⟨rfl, rfl⟩ := trodVars_none hV
  obtain ⟨a0, a1, rfl, rfl, rfl, wa0, wa1⟩ := Go.WideMaps.open_pair arr98 Tryz.underlying5 (hval 0 98 v0 rfl rfl) h0
  obtain ⟨b0, b1, rfl, rfl, rfl, wb0, wb1⟩ := Go.WideMaps.open_pair arr98 Tryz.underlying5 (hval 1 98 v1 rfl rfl) h1
  obtain ⟨c0, c1, rfl, rfl, rfl, wc0, wc1⟩ := Go.WideMaps.open_pair arr98 Tryz.underlying5 (hval 2 98 v2 rfl rfl) h2
  clear hA0
  simp only [List.append_nil] at hW'
  have walk := years_walk (Lib.hid sort_any) a0 a1 b0 b1 c0 c1 W hO (byte_in wa0) (byte_in wa1) (byte_in wb0) (byte_in wb1) (byte_in wc0) (byte_in wc1)
  refine walk.mono fun e W' ⟨he, hb⟩ => ?_
  subst he
  refine ⟨_, rfl, _, _, _, [], [], [], hW', ?_, ?_, ?_, hb.frame _, fun h => by cases h⟩
  · exact trodAll_mk1 (shut_bool Tryz.underlying4 _)
  · exact trodAll_mk3 (Go.WideMaps.shut_pair arr98 Tryz.underlying5 wa0 wa1) (Go.WideMaps.shut_pair arr98 Tryz.underlying5 wb0 wb1) (Go.WideMaps.shut_pair arr98 Tryz.underlying5 wc0 wc1)
  · rfl

end Go.Proofs.YtkjclafbpocabaaGreatDoor
