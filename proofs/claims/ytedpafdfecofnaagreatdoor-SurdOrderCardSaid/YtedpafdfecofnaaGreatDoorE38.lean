/-
  THE LAW SurdOrder holds for every three numbers, in every world in which the three listed tables hold what their initialisers lay; the card at the end.
-/
import Derived.Test.YtedpafdfecofnaaGreatDoorCards
import Derived.Test.YtedpafdfecofnaaGreatDoorTie
import Derived.Test.YtedpafdfecofnaaGreatDoorE13
import Derived.Test.YtedpafdfecofnaaGreatDoorE32
import Derived.Test.YtedpafdfecofnaaGreatDoorE33
import Derived.Test.YtedpafdfecofnaaGreatDoorE34
import Derived.Test.YtedpafdfecofnaaGreatDoorE35
import Derived.Test.YtedpafdfecofnaaGreatDoorE36
import Derived.Test.YtedpafdfecofnaaGreatDoorE37
import Derived.WalkKit
import Derived.ProofKit
import Derived.OpenShut
import Derived.Deep.DeepHandedRow
import Derived.Deep.SlicePairs
import Derived.Lib.SmallJoins
import Derived.Lib.LaidTab
import Derived.Stop.LaidErr
import Derived.MakeChecks
import Derived.Shelf.Vars
import Derived.Lay
set_option linter.unusedSimpArgs false
set_option linter.unusedVariables false

/-! ## K12 -/
namespace Go.Proofs.YtedpafdfecofnaaGreatDoor
open Go.ChangeMaps Go.MakeChecks Go.ChangeShapes Go.WideShapes Go.ChangeAt Go.RowKit Go.Deep Go.Joins

theorem laidOutP : laidOutB Tryz.prog = true := by kernel_rfl
theorem ownP : ownKnob Tryz.prog.godebug = none := by kernel_rfl
theorem dataPow : (Rows.laid_internal_strconv_uint64pow10 : DataW Unit) = Lib.tabData .u64 Lib.pow10Tab := by kernel_rfl

/-- What the three laid tables give. -/
theorem tabW {W : World} (h : laidMetH Tryz.prog [("math/bits.deBruijn32tab", Rows.laid_math_bits_deBruijn32tab), ("math/bits.deBruijn64tab", Rows.laid_math_bits_deBruijn64tab), ("internal/strconv.uint64pow10", Rows.laid_internal_strconv_uint64pow10)] W) :
    Lib.TabIs Tryz.prog W "internal/strconv.uint64pow10" .u64 Lib.pow10Tab := by
  rw [laidMetH_plain _ _ _ (by kernel_rfl)] at h
  have h3 := h.tail.tail
  rw [dataPow] at h3
  exact Lib.tabIs_of_head (rest := []) gPow (t := 179) (by kernel_rfl) Tryz.underlying179 Tryz.underlying114 (by kernel_rfl) (by kernel_rfl) h3

theorem wok {W : World} (h : laidMetH Tryz.prog [("math/bits.deBruijn32tab", Rows.laid_math_bits_deBruijn32tab), ("math/bits.deBruijn64tab", Rows.laid_math_bits_deBruijn64tab), ("internal/strconv.uint64pow10", Rows.laid_internal_strconv_uint64pow10)] W) (hS : W.ShapedOpen Tryz.prog) : WOk W := by
  refine ⟨tabW h, ?_, ?_⟩
  · exact cell_of_shapedOpen_int (g := 2) (t := 3) (zero := #[.int .i64 0]) hS (of_decide_eq_true (by kernel_rfl)) (by kernel_rfl) rfl (by kernel_rfl) (by kernel_rfl) Tryz.underlying3
  · obtain ⟨cs, hc, _⟩ := hS.1 5 ((List.replicate 64 (Value.int .u8 0)).toArray) 186 (of_decide_eq_true (by kernel_rfl)) (by kernel_rfl)
    have := (Array.getElem?_eq_some_iff.1 hc).1
    omega

section
variable {H : Type} {enc : TypeId × Value → H} {W : World}
theorem int_of_trod {n : Nat} {v : Value} {d : DataW H} {p : List MemPlace} (h : DataW.trod enc Tryz.prog W 0 (fun _ => true) true n 3 [v] = some (d, p)) : v = .int .i64 (intOf v) := by
  obtain ⟨k, hc, _, _⟩ := DataW.trod_int Tryz.underlying3 h
  obtain rfl : v = .int .i64 k := by simpa using hc
  rfl

theorem cell_lt {w : World} {a : Addr} {v : Value} (h : w.cell? a = some v) : a.block < w.heap.size := by
  by_cases hb : a.block < w.heap.size
  · exact hb
  · rw [World.cell?, Array.getElem?_eq_none (by omega)] at h
    simp at h

theorem map_range_at {f : Nat → Int × Int} {n i : Nat} (h : i < n) : ((List.range n).map f)[i]?.getD (0, 0) = f i := by simp [h]

/-- A slice of terms, opened: the terms that it holds. -/
theorem terms_open {n : Nat} {v : Value} {y : DataW H × List MemPlace} (hd : DataW.trod enc Tryz.prog W 0 (fun _ => true) true n 22 [v] = some y) (hw : (y.1.weights Tryz.prog 22).all (· ≤ reachBytes) = true) :
    ∃ l, TermsAt W v l := by
  rcases open_slice_pairs Tryz.underlying22 Tryz.underlying34 (by kernel_rfl) rfl rfl (by kernel_rfl) (by kernel_rfl) hd with ⟨hv, _⟩ | ⟨a, len, cap, m, k, V0, V1, D0, D1, P0, P1, hv, _, hle, _, hm, hy, hall⟩
  · obtain rfl : v = .slice none 0 0 := by simpa using hv
    exact ⟨[], by simp, .inl ⟨rfl, none, 0, rfl⟩⟩
  · obtain rfl : v = .slice (some a) len cap := by simpa using hv
    simp only [if_true] at hm
    subst hm
    subst hy
    have hb : Tryz.prog.bytesOf 34 = 16 := by kernel_rfl
    have hwt : len + (m - len) ≤ 8796093022208 := by
      simp only [DataW.weights, Tryz.underlying22, List.all_cons, Bool.and_eq_true, decide_eq_true_eq, List.length_map, List.length_range, hb] at hw
      have := hw.1
      unfold reachBytes at this
      omega
    refine ⟨(List.range len).map fun i => (intOf (V0 i), intOf (V1 i)), by simp; omega, ?_⟩
    by_cases hl : len = 0
    · subst hl
      exact .inl ⟨by simp, some a, m, rfl⟩
    · right
      obtain ⟨b, off, spot⟩ := a
      obtain ⟨h00, _⟩ := hall 0 (by omega)
      have hspot : spot = none := by simpa [Addr.add] using World.cell?_spot h00
      subst hspot
      have hblk : b < W.heap.size := cell_lt h00
      refine ⟨b, off, m, by simp, by simpa using hle, hblk, ?_⟩
      intro i hi
      have hi' : i < len := by simpa using hi
      obtain ⟨h0, h1, t0, t1⟩ := hall i (by omega)
      rw [map_range_at hi']
      rw [add_plain] at h0
      refine ⟨?_, ?_⟩
      · rw [h0, ← int_of_trod t0]
      · have h1' : W.cell? ⟨b, off + (i * 2 + 1), none⟩ = some (V1 i) := by rw [← add_plain]; exact h1
        rw [show off + i * 2 + 1 = off + (i * 2 + 1) by omega, h1', ← int_of_trod t1]
end


theorem opc_add : Hid (OpC 24 (addF 1)) := Lib.hid fun dx dy vx vy lx ly w hx hy => add_any (Lib.hid sort_any) dx dy vx vy lx ly w hx hy
theorem opc_mul : Hid (OpC 27 mulF) := Lib.hid fun dx dy vx vy lx ly w hx hy => mul_any (Lib.hid sort_any) dx dy vx vy lx ly w hx hy
/-- The law, from its segments. -/
theorem order_any (dx dy dz : Int) (vx vy vz : Value) (lx ly lz : List (Int × Int)) (w : World) (hx : TermsAt w vx lx) (hy : TermsAt w vy ly) (hz : TermsAt w vz lz) (hw : WOk w) :
    Calls Tryz.prog 12 #[.agg #[.int .i64 dx, vx, .int .i64 dy, vy, .int .i64 dz, vz]] w (AnsB true w) := by
  have hk : Hid KnownT := Lib.hid knownT
  have h17 : OSeg17 := @oseg17 hk opc_add opc_mul
  have h15 : OSeg15 := @oseg15 hk opc_add opc_mul @h17
  have h10 : OSeg10 := @oseg10 hk opc_add opc_mul @h15
  have h9 : OSeg9 := @oseg9 hk opc_add opc_mul @h10
  have h6 : OSeg6 := @oseg6 hk opc_add opc_mul @h9
  have h4 : OSeg4 := @oseg4 hk opc_add opc_mul @h6
  have h2 : OSeg2 := @oseg2 hk opc_add opc_mul @h4
  exact order_walk hk dx dy dz vx vy vz lx ly lz w hx hy hz hw @h2

section
variable {H : Type} {enc : TypeId × Value → H} {W : World}
/-- One of three numbers, opened. -/
theorem number_open {n : Nat} {c0 c1 : Value} {y : DataW H × List MemPlace} (h : DataW.trod enc Tryz.prog W 0 (fun _ => true) true n 24 [c0, c1] = some y) :
    ∃ y0 y1 m, y = (.agg [y0.1, y1.1], y0.2 ++ y1.2) ∧ DataW.trod enc Tryz.prog W 0 (fun _ => true) true m 3 [c0] = some y0 ∧ DataW.trod enc Tryz.prog W 0 (fun _ => true) true m 22 [c1] = some y1 := by
  obtain ⟨y0, y1, m, hy, _, h0, h1⟩ := trod_struct2 Tryz.underlying24 h
  have e3 : Tryz.prog.cellsOf 3 = 1 := by kernel_rfl
  have e22 : Tryz.prog.cellsOf 22 = 1 := by kernel_rfl
  refine ⟨y0, y1, m, hy, ?_, ?_⟩
  · simpa [e3] using h0
  · simpa [e22] using h1
set_option maxRecDepth 100000 in
theorem open_three {b0 : Nat} {v : Value} {d : DataW H} {p : List MemPlace} (hv : Value.okWide Tryz.prog W .any b0 58 v) (h : DataW.Trod enc Tryz.prog W 0 (fun _ => true) true 58 v d p) :
    ∃ c0 c1 c2 c3 c4 c5 y0 y1 y2 n, v = .agg #[c0, c1, c2, c3, c4, c5] ∧ d = .agg [y0.1, y1.1, y2.1] ∧ p = y0.2 ++ (y1.2 ++ y2.2) ∧
      DataW.trod enc Tryz.prog W 0 (fun _ => true) true n 24 [c0, c1] = some y0 ∧ DataW.trod enc Tryz.prog W 0 (fun _ => true) true n 24 [c2, c3] = some y1 ∧ DataW.trod enc Tryz.prog W 0 (fun _ => true) true n 24 [c4, c5] = some y2 := by
  obtain ⟨cs, rfl, hsz⟩ := okWide_struct Tryz.underlying58 hv
  have e58 : Tryz.prog.cellsOf 58 = 6 := by kernel_rfl
  have e24 : Tryz.prog.cellsOf 24 = 2 := by kernel_rfl
  obtain ⟨l⟩ := cs
  match l, hsz.trans e58 with
  | [c0, c1, c2, c3, c4, c5], _ =>
    obtain ⟨fuel, hf⟩ := h
    obtain ⟨xs, n, _, hx, _, hlen, hg⟩ := DataW.trod_struct Tryz.underlying58 hf
    match xs, hlen with
    | [y0, y1, y2], _ =>
      simp only [Prod.mk.injEq] at hx
      exact ⟨c0, c1, c2, c3, c4, c5, y0, y1, y2, n, rfl, by simpa using hx.1, by simpa using hx.2, by simpa [Value.cells, e24] using hg 0 _ rfl, by simpa [Value.cells, e24] using hg 1 _ rfl, by simpa [Value.cells, e24] using hg 2 _ rfl⟩
end

set_option maxRecDepth 100000 in
/-- WHAT THE WALK GIVES, FOR EVERY ARGUMENT AND EVERY WORLD THAT HOLDS THE TABLES. -/
theorem contract12 (H : Type) (enc : TypeId × Value → H) (W : World) (base : Nat) (args : Array Value) (ds gs : List (DataW H)) (before : List MemPlace)
    (hval : ∀ (j : Nat) t v, Tryz.f12.params[j]? = some t → args[j]? = some v → Value.okWide Tryz.prog W .any base t v)
    (hW : DataW.Whole enc Tryz.prog Tryz.f12.params.toList Rows.surdOrderSpec.vars false W args.toList ds gs before)
    (hz : (DataW.weightsEach Tryz.prog (Tryz.f12.params.toList ++ Rows.surdOrderSpec.plain.varTypes Tryz.prog) (ds ++ gs)).all (· ≤ reachBytes) = true)
    (hO : WOk W) :
    Calls Tryz.prog 12 args W fun e W' => ∃ v, e = .returned v ∧ Rows.surdOrderSpec.post enc Tryz.prog Tryz.f12 false true false false W args v W' := by
  have hW' := hW
  obtain ⟨p, q, hA0, hV, rfl, hfz, hnd⟩ := hW
  have hA : DataW.TrodAll enc Tryz.prog W 0 (fun _ => true) true Tryz.f12.params.toList args.toList ds p := hA0
  rw [Tryz.params12] at hA hval hz
  obtain ⟨v0, d0, rfl, rfl, h0⟩ := trodAll_one hA
  obtain ⟨rfl, rfl⟩ := trodVars_none hV
  have h0k := h0
  obtain ⟨c0, c1, c2, c3, c4, c5, y0, y1, y2, n, rfl, rfl, rfl, g0, g1, g2⟩ := open_three (hval 0 58 v0 rfl rfl) h0
  obtain ⟨p0, p1, m0, rfl, a0, a1⟩ := number_open g0
  obtain ⟨p2, p3, m1, rfl, a2, a3⟩ := number_open g1
  obtain ⟨p4, p5, m2, rfl, a4, a5⟩ := number_open g2
  clear hA0
  simp only [List.append_nil] at hW'
  have i0 := int_of_trod (v := c0) a0
  have i2 := int_of_trod (v := c2) a2
  have i4 := int_of_trod (v := c4) a4
  have hwt : ((p1.1.weights Tryz.prog 22).all fun x => decide (x ≤ reachBytes)) = true ∧ ((p3.1.weights Tryz.prog 22).all fun x => decide (x ≤ reachBytes)) = true ∧ ((p5.1.weights Tryz.prog 22).all fun x => decide (x ≤ reachBytes)) = true := by
    simp only [List.cons_append, List.nil_append, DataW.weightsEach, DataW.weights, Tryz.underlying58, Tryz.underlying24, List.all_append, List.all_cons, Bool.and_eq_true, decide_eq_true_eq, List.map_cons, List.map_nil, List.append_nil] at hz
    exact ⟨hz.1.1.2, hz.1.2.1.2, hz.1.2.2.2⟩
  obtain ⟨lx, hlx⟩ := terms_open a1 hwt.1
  obtain ⟨ly, hly⟩ := terms_open a3 hwt.2.1
  obtain ⟨lz, hlz⟩ := terms_open a5 hwt.2.2
  have hlt : ∀ x ∈ (p0.2 ++ p1.2) ++ ((p2.2 ++ p3.2) ++ (p4.2 ++ p5.2)), x.block < W.heap.size := fun x hx => by simpa using hW'.lt x (by simpa using hx)
  have hargs : ∀ (W' : World), Below W.heap.size W W' → DataW.Trod enc Tryz.prog W' 0 (fun b => decide (b < W.heap.size)) true 58 (.agg #[c0, c1, c2, c3, c4, c5]) (.agg [.agg [p0.1, p1.1], .agg [p2.1, p3.1], .agg [p4.1, p5.1]]) ((p0.2 ++ p1.2) ++ ((p2.2 ++ p3.2) ++ (p4.2 ++ p5.2))) :=
    fun W' hn => Below.trod laidOutP (by kernel_rfl) (of_decide_eq_true (by kernel_rfl)) h0k hn hlt
  have walk := order_any (intOf c0) (intOf c2) (intOf c4) c1 c3 c5 lx ly lz W hlx hly hlz hO
  rw [← i0, ← i2, ← i4] at walk
  refine walk.mono fun e W' ⟨he, hb⟩ => ?_
  subst he
  refine ⟨_, rfl, _, _, _, [], ((p0.2 ++ p1.2) ++ ((p2.2 ++ p3.2) ++ (p4.2 ++ p5.2))), [], hW', ?_, ?_, ?_, hb.frame _, fun h => by cases h⟩
  · exact trodAll_mk1 (shut_bool Tryz.underlying4 _)
  · exact trodAll_mk1 (hargs _ hb)
  · rfl
/-- A WORLD FOR THE WITNESS: the settled one, its three tables holding what their initialisers lay. -/
theorem laid_met12 (os : Os) : laidMet Tryz.prog Rows.surdOrderRow.laid ((World.laidAll Tryz.prog os Rows.surdOrderRow.laid).forCall (fun _ _ => 0) ⟨#[], #[.agg #[.int .i64 0, .slice none 0 0, .int .i64 0, .slice none 0 0, .int .i64 0, .slice none 0 0]], []⟩).memory :=
  laidMet_laidAll _ (by kernel_rfl) (by kernel_rfl)
theorem reads12 (os : Os) {H : Type} (enc : TypeId × Value → H) : ∃ places, DataW.whole enc Tryz.prog ((World.laidAll Tryz.prog os Rows.surdOrderRow.laid).forCall (fun _ _ => 0) ⟨#[], #[.agg #[.int .i64 0, .slice none 0 0, .int .i64 0, .slice none 0 0, .int .i64 0, .slice none 0 0]], []⟩).memory Tryz.f12.params.toList Rows.surdOrderSpec.vars false #[Value.agg #[.int .i64 0, .slice none 0 0, .int .i64 0, .slice none 0 0, .int .i64 0, .slice none 0 0]].toList 8 = some ([.agg [.agg [.lit (.int .i64 0), .nil], .agg [.lit (.int .i64 0), .nil], .agg [.lit (.int .i64 0), .nil]]], [], places) :=
  ⟨[], by kernel_rfl⟩

set_option maxRecDepth 100000 in
theorem lifted12 (os : Os) (started : os.Started) (H : Type) (enc : TypeId × Value → H) (F : Stop.Interp) :
    ReturnsInHanded {} Tryz.checked os 12 .any ((OpenSpec.ofChange Rows.surdOrderSpec).preRow enc Tryz.prog Tryz.f12 Rows.surdOrderRow.domain false Rows.surdOrderRow.laid) (((OpenSpec.ofChange Rows.surdOrderSpec).at F).post enc Tryz.prog Tryz.f12 false true false false) := by
  obtain ⟨places, hx⟩ := reads12 os enc
  refine returnsInHanded_of_row (C := Tryz.checked) (s := OpenSpec.ofChange Rows.surdOrderSpec) ownP started (by kernel_rfl) Tryz.func12
    (witness_row_at (enc := enc) (C := Tryz.checked) false (World.laidAll Tryz.prog os Rows.surdOrderRow.laid) #[.agg #[.int .i64 0, .slice none 0 0, .int .i64 0, .slice none 0 0, .int .i64 0, .slice none 0 0]] (World.laidAll_os _ _ _) (by kernel_rfl) (by kernel_rfl) (by kernel_rfl)
      (OpenSpec.preRow_of_cond 8 hx (by kernel_rfl) (fun k hk => by cases hk) (by kernel_rfl) (laid_met12 os))) ?_
  intro W base args ds gs before hval hW _ _ hz hL hS _
  exact contract12 H enc W base args ds gs before hval hW hz (wok hL hS)

theorem said12 : Rows.SurdOrderSaid :=
  OpenClaim.holds_of_cond 12 Tryz.f12 rfl rfl rfl rfl rfl rfl rfl ⟨rfl, rfl, rfl, rfl, rfl⟩ rfl rfl rfl rfl rfl (by kernel_rfl) Tryz.func12 (by kernel_rfl)
    (of_decide_eq_true (by kernel_rfl)) (by unfold Func.isWrapper; first | (rw [if_pos (by decide +kernel)]; kernel_rfl) | (rw [if_neg (by decide +kernel)]; exact ⟨rfl, rfl⟩))
    (fun os started H enc _ F => by rw [OpenClaim.pre_eq_preRow]; exact lifted12 os started H enc F)

/-- No parameter wants a stand-in; the program's own looks are off: what the card asks. -/
theorem plain12 (f : FuncId) (fn : Func) (hf : Tryz.pinned.checked.prog.funcNamed "chiti/chitilaw01.SurdOrder" = some f) (hfn : Tryz.pinned.checked.prog.funcs[f]? = some fn) :
    false = Tryz.pinned.checked.prog.looks [] ∧ ∀ (j : Nat) t, fn.params[j]? = some t → Tryz.pinned.checked.prog.wantsStandIn t = false := by
  obtain rfl : f = 12 := Option.some.inj ((show Tryz.prog.funcNamed "chiti/chitilaw01.SurdOrder" = some 12 by kernel_rfl).symm.trans hf) |>.symm
  obtain rfl : fn = Tryz.f12 := (Option.some.inj (Tryz.func12.symm.trans hfn)).symm
  refine ⟨by kernel_rfl, fun j t ht => ?_⟩
  rw [Tryz.params12] at ht
  have hm : t ∈ [58] := by simpa using Array.mem_of_getElem? ht
  have hall : ([58].all fun u => !Tryz.prog.wantsStandIn u) = true := by kernel_rfl
  exact (show Tryz.prog.wantsStandIn t = false by simpa using List.all_eq_true.1 hall t hm)

/-- THE CARD. -/
theorem card12 : Rows.SurdOrderCardSaid :=
  Claim7.holds_tied_plain_at .later [] _ _ _ _ said12 (fun _ h => by cases h) (by kernel_rfl) (fun _ h => by cases h) surdOrder_row_tie rfl ⟨rfl, rfl⟩ (by kernel_rfl) rfl plain12 (by kernel_rfl)
end Go.Proofs.YtedpafdfecofnaaGreatDoor
