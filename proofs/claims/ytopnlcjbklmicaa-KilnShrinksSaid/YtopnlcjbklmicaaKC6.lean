/-
  THE LAW KilnShrinks, FOR EVERY ARRAY OF FOUR NUMBERS, EVERY SIDE AND EVERY PAIR THAT IS WANTED: it returns true, and its arguments read as they did. No condition.
-/
import Derived.Test.YtopnlcjbklmicaaKC0
import Derived.Test.YtopnlcjbklmicaaK47
import Derived.Laws.IdiomArrays
import Derived.Test.YtopnlcjbklmicaaRows
import Derived.WalkKit
import Derived.ProofKit
import Derived.OpenShut
import Derived.Deep.DeepHandedRow
import Derived.Deep.SlicePairs
import Derived.Lib.SmallJoins
import Derived.Stop.LaidErr
import Derived.MakeChecks
import Derived.Lay
namespace Go.Proofs.Ytopnlcjbklmicaa
open Go.ChangeMaps Go.MakeChecks Go.ChangeShapes Go.WideShapes Go.ChangeAt Go.RowKit Go.Deep Go.Joins
set_option linter.unusedVariables false
set_option linter.unusedSimpArgs false
set_option linter.constructorNameAsVariable false
section
variable {H : Type} {enc : TypeId × Value → H} {W : World}
theorem u16_of_trod {n : Nat} {v : Value} {d : DataW H} {p : List MemPlace} (h : DataW.trod enc Try.prog W 0 (fun _ => true) true n 95 [v] = some (d, p)) : ∃ b, v = .int .u16 b ∧ 0 ≤ b ∧ b ≤ 65535 := by
  obtain ⟨k, hc, _, hwf⟩ := DataW.trod_int Try.underlying95 h
  obtain rfl : v = .int .u16 k := by simpa using hc
  refine ⟨k, rfl, ?_⟩
  simp [Lit.wf, IntKind.min, IntKind.max, IntKind.signed, IntKind.bits] at hwf
  omega
theorem okWide_array {b0 n : Nat} {t e : TypeId} {v : Value} (ht : Try.prog.underlying t = some (.array n e)) (h : Value.okWide Try.prog W .any b0 t v) : ∃ cs, v = .agg cs ∧ cs.size = Try.prog.cellsOf t := by
  simp only [Value.okWide, ht] at h
  obtain ⟨cs, h1, h2, _⟩ := h
  exact ⟨cs, h1, h2⟩
theorem array2 {α : Type} {a : Array α} (h : a.size = 2) : ∃ x y, a = #[x, y] := by
  rcases a with ⟨l⟩
  match l, h with
  | [x, y], _ => exact ⟨x, y, rfl⟩
set_option maxRecDepth 100000 in
theorem four_open {b0 : Nat} {v : Value} {d : DataW H} {p : List MemPlace} (hv : Value.okWide Try.prog W .any b0 96 v) (h : DataW.Trod enc Try.prog W 0 (fun _ => true) true 96 v d p) :
    ∃ a b c e : Int, v = .agg #[.int .u16 a, .int .u16 b, .int .u16 c, .int .u16 e] ∧ (0 ≤ a ∧ a ≤ 65535) ∧ (0 ≤ b ∧ b ≤ 65535) ∧ (0 ≤ c ∧ c ≤ 65535) ∧ (0 ≤ e ∧ e ≤ 65535) := by
  obtain ⟨cs, rfl, hsz⟩ := okWide_array Try.underlying96 hv
  obtain ⟨c0, c1, c2, c3, rfl⟩ := array4 (hsz.trans (by kernel_rfl))
  obtain ⟨fuel, hf⟩ := h
  obtain ⟨y0, y1, y2, y3, n, _, t0, t1, t2, t3⟩ := trod_array4 Try.underlying96 (by kernel_rfl) (by simpa [Value.cells] using hf)
  obtain ⟨a, rfl, ha⟩ := u16_of_trod t0
  obtain ⟨b, rfl, hb⟩ := u16_of_trod t1
  obtain ⟨c, rfl, hc⟩ := u16_of_trod t2
  obtain ⟨e, rfl, he⟩ := u16_of_trod t3
  exact ⟨a, b, c, e, rfl, ha, hb, hc, he⟩
set_option maxRecDepth 100000 in
theorem two_open {b0 : Nat} {v : Value} {d : DataW H} {p : List MemPlace} (hv : Value.okWide Try.prog W .any b0 98 v) (h : DataW.Trod enc Try.prog W 0 (fun _ => true) true 98 v d p) :
    ∃ a b : Int, v = .agg #[.int .u16 a, .int .u16 b] ∧ (0 ≤ a ∧ a ≤ 65535) ∧ (0 ≤ b ∧ b ≤ 65535) := by
  obtain ⟨cs, rfl, hsz⟩ := okWide_array Try.underlying98 hv
  obtain ⟨c0, c1, rfl⟩ := array2 (hsz.trans (by kernel_rfl))
  obtain ⟨fuel, hf⟩ := h
  obtain ⟨xs, m, _, _, _, hl, hx⟩ := DataW.trod_array Try.underlying98 hf
  have hce : Try.prog.cellsOf 95 = 1 := by kernel_rfl
  have t0 := hx 0 (by omega)
  have t1 := hx 1 (by omega)
  rw [List.getElem?_eq_getElem (by omega)] at t0 t1
  obtain ⟨a, rfl, ha⟩ := u16_of_trod (v := c0) (d := xs[0].1) (p := xs[0].2) (by simpa [hce, Value.cells] using t0)
  obtain ⟨b, rfl, hb⟩ := u16_of_trod (v := c1) (d := xs[1].1) (p := xs[1].2) (by simpa [hce, Value.cells] using t1)
  exact ⟨a, b, rfl, ha, hb⟩
end
set_option maxRecDepth 100000 in
theorem contract8 (H : Type) (enc : TypeId × Value → H) (W : World) (base : Nat) (args : Array Value) (ds gs : List (DataW H)) (before : List MemPlace)
    (hval : ∀ (j : Nat) t v, Try.f8.params[j]? = some t → args[j]? = some v → Value.okWide Try.prog W .any base t v)
    (hW : DataW.Whole enc Try.prog Try.f8.params.toList Rows.kilnShrinksSpec.vars false W args.toList ds gs before) :
    Calls Try.prog 8 args W fun e W' => ∃ v, e = .returned v ∧ Rows.kilnShrinksSpec.post enc Try.prog Try.f8 false true false false W args v W' := by
  have hW' := hW
  obtain ⟨p, q, hA0, hV, rfl, hfz, hnd⟩ := hW
  have hA : DataW.TrodAll enc Try.prog W 0 (fun _ => true) true Try.f8.params.toList args.toList ds p := hA0
  rw [Try.params8] at hA hval
  obtain ⟨v0, v1, v2, d0, d1, d2, p0, p1, p2, rfl, rfl, rfl, h0, h1, h2⟩ := trodAll_three hA
  obtain ⟨rfl, rfl⟩ := trodVars_none hV
  obtain ⟨b0, b1, b2, b3, rfl, r0, r1, r2, r3⟩ := four_open (hval 0 96 v0 rfl rfl) h0
  obtain ⟨n, rfl, _, _, hwf⟩ := open_int Try.underlying97 (hval 1 97 v1 rfl rfl) h1
  have hnr : 0 ≤ n ∧ n ≤ 4294967295 := by
    simp [Lit.wf, IntKind.min, IntKind.max, IntKind.signed, IntKind.bits] at hwf
    omega
  obtain ⟨wa, wb, rfl, ra, rb⟩ := two_open (hval 2 98 v2 rfl rfl) h2
  clear hA0
  simp only [List.append_nil] at hW'
  have hlt : ∀ x ∈ p0 ++ p1 ++ p2, x.block < W.heap.size := fun x hx => by simpa using hW'.lt x (by simpa using hx)
  have g0 : ∀ (W' : World), Below W.heap.size W W' → DataW.Trod enc Try.prog W' 0 (fun b => decide (b < W.heap.size)) true 96 (.agg #[.int .u16 b0, .int .u16 b1, .int .u16 b2, .int .u16 b3]) d0 p0 :=
    fun W' hn => Below.trod laidOutP (by kernel_rfl) (of_decide_eq_true (by kernel_rfl)) h0 hn (fun x hx => hlt x (by simp [hx]))
  have g1 : ∀ (W' : World), Below W.heap.size W W' → DataW.Trod enc Try.prog W' 0 (fun b => decide (b < W.heap.size)) true 97 (.int .u32 n) d1 p1 :=
    fun W' hn => Below.trod laidOutP (by kernel_rfl) (of_decide_eq_true (by kernel_rfl)) h1 hn (fun x hx => hlt x (by simp [hx]))
  have g2 : ∀ (W' : World), Below W.heap.size W W' → DataW.Trod enc Try.prog W' 0 (fun b => decide (b < W.heap.size)) true 98 (.agg #[.int .u16 wa, .int .u16 wb]) d2 p2 :=
    fun W' hn => Below.trod laidOutP (by kernel_rfl) (of_decide_eq_true (by kernel_rfl)) h2 hn (fun x hx => hlt x (by simp [hx]))
  refine (shrinks_all b0 b1 b2 b3 n wa wb W r0 r1 r2 r3 hnr ra rb).mono fun e W' ⟨he, hb⟩ => ?_
  subst he
  refine ⟨_, rfl, _, _, _, [], (p0 ++ (p1 ++ p2)), [], hW', ?_, ?_, ?_, hb.frame _, fun h => by cases h⟩
  · exact trodAll_mk1 (shut_bool Try.underlying4 _)
  · exact trodAll_mk3 (g0 _ hb) (g1 _ hb) (g2 _ hb)
  · rfl
theorem laid_met8 (os : Os) : laidMet Try.prog Rows.kilnShrinksRow.laid ((World.laidAll Try.prog os Rows.kilnShrinksRow.laid).forCall (fun _ _ => 0) ⟨#[], #[.agg #[.int .u16 0, .int .u16 0, .int .u16 0, .int .u16 0], .int .u32 0, .agg #[.int .u16 0, .int .u16 0]], []⟩).memory :=
  laidMet_laidAll _ (by kernel_rfl) (by kernel_rfl)
theorem reads8 (os : Os) {H : Type} (enc : TypeId × Value → H) : ∃ places, DataW.whole enc Try.prog ((World.laidAll Try.prog os Rows.kilnShrinksRow.laid).forCall (fun _ _ => 0) ⟨#[], #[.agg #[.int .u16 0, .int .u16 0, .int .u16 0, .int .u16 0], .int .u32 0, .agg #[.int .u16 0, .int .u16 0]], []⟩).memory Try.f8.params.toList Rows.kilnShrinksSpec.vars false (#[.agg #[.int .u16 0, .int .u16 0, .int .u16 0, .int .u16 0], .int .u32 0, .agg #[.int .u16 0, .int .u16 0]] : Array Value).toList 8 = some ([.agg [.lit (.int .u16 0), .lit (.int .u16 0), .lit (.int .u16 0), .lit (.int .u16 0)], .lit (.int .u32 0), .agg [.lit (.int .u16 0), .lit (.int .u16 0)]], [], places) :=
  ⟨[], by kernel_rfl⟩
set_option maxRecDepth 100000 in
theorem lifted8 (os : Os) (started : os.Started) (H : Type) (enc : TypeId × Value → H) (F : Stop.Interp) :
    ReturnsInHanded {} Try.checked os 8 .any ((OpenSpec.ofChange Rows.kilnShrinksSpec).preRow enc Try.prog Try.f8 Rows.kilnShrinksRow.domain false Rows.kilnShrinksRow.laid) (((OpenSpec.ofChange Rows.kilnShrinksSpec).at F).post enc Try.prog Try.f8 false true false false) := by
  obtain ⟨places, hx⟩ := reads8 os enc
  refine returnsInHanded_of_row (C := Try.checked) (s := OpenSpec.ofChange Rows.kilnShrinksSpec) ownP started (by kernel_rfl) Try.func8
    (witness_row_at (enc := enc) (C := Try.checked) false (World.laidAll Try.prog os Rows.kilnShrinksRow.laid) #[.agg #[.int .u16 0, .int .u16 0, .int .u16 0, .int .u16 0], .int .u32 0, .agg #[.int .u16 0, .int .u16 0]] (World.laidAll_os _ _ _) (by kernel_rfl) (by kernel_rfl) (by kernel_rfl)
      (OpenSpec.preRow_of_cond 8 hx (by kernel_rfl) (fun k hk => by cases hk) (by kernel_rfl) (laid_met8 os))) ?_
  intro W base args ds gs before hval hW _ _ _ _ _ _
  exact contract8 H enc W base args ds gs before hval hW
theorem said8 : Rows.KilnShrinksSaid :=
  OpenClaim.holds_of_cond 8 Try.f8 rfl rfl rfl rfl rfl rfl rfl ⟨rfl, rfl, rfl, rfl, rfl⟩ rfl rfl rfl rfl rfl (by kernel_rfl) Try.func8 (by kernel_rfl)
    (of_decide_eq_true (by kernel_rfl)) (by unfold Func.isWrapper; first | (rw [if_pos (by decide +kernel)]; kernel_rfl) | (rw [if_neg (by decide +kernel)]; exact ⟨rfl, rfl⟩))
    (fun os started H enc _ F => by rw [OpenClaim.pre_eq_preRow]; exact lifted8 os started H enc F)
end Go.Proofs.Ytopnlcjbklmicaa
