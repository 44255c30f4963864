/-
  THE LAW SurdRoots holds for every number, in every world in which the three listed tables hold what their initialisers lay; the card at the end.
-/
import Derived.Test.YtedpafdfecofnaaGreatDoorF12
import Derived.Test.YtedpafdfecofnaaGreatDoorF23
import Derived.Test.YtedpafdfecofnaaGreatDoorF68
import Derived.WalkKit
import Derived.WalkSpells
import Derived.WalkLawsBesides
import Derived.Deep.QuietTactic
import Derived.BigQuiet
import Derived.Lib.Hide
import Derived.WalkSmall
import Derived.Maps.OwnSet
import Derived.Maps.RangeWalk
import Derived.Deep.RegionWith
import Derived.Deep.RegionHeld3
import Derived.Deep.DrawnRows
import Derived.Deep.DeepCutAuto
import Derived.OneCell
import Derived.KernelRfl
import Derived.Laws.StructEq
import Derived.StillTailTactics
import Derived.Laws.Externs
import Derived.RangeFuncBox
import Derived.Test.YtedpafdfecofnaaGreatDoorPlain
import Derived.Test.YtedpafdfecofnaaGreatDoorCards
import Derived.Test.YtedpafdfecofnaaGreatDoorTie
import Derived.Test.YtedpafdfecofnaaGreatDoorF13
import Derived.Test.YtedpafdfecofnaaGreatDoorF26
import Derived.ProofKit
import Derived.OpenShut
import Derived.Deep.DeepHandedRow
import Derived.Deep.SlicePairs
import Derived.Lib.SmallJoins
import Derived.Lib.LaidTab
import Derived.Stop.LaidErr
import Derived.MakeChecks
import Derived.Shelf.Vars
import Derived.Lay
set_option linter.unusedSimpArgs false
set_option linter.unusedVariables false

/-! ## D20 -/
namespace Go.Proofs.YtedpafdfecofnaaGreatDoor
open Go.RowKit Go.Maps Go.Shelf Go.Sort
attribute [local go_sem ↓] Go.wp_at_zero Go.wp_at_succ
/-- A box with a number. -/
def BoxR (W : World) (b : Nat) (d : Int) (v : Value) (l : List (Int × Int)) : Prop := Two W b (.int .i64 d) v 24 ∧ TermsAt W v l
theorem BoxR.at {W W' : World} {b : Nat} {d : Int} {v : Value} {l : List (Int × Int)} (h : BoxR W b d v l) (hb : Below W.heap.size W W') : BoxR W' b d v l := ⟨h.1.below hb h.1.lt, h.2.below hb⟩
/-- A call that gives a number, or an error. -/
def Op1R (f : Nat) (F : Int → List (Int × Int) → Int × List (Int × Int) × Int → Prop) : Prop := ∀ d v l w, TermsAt w v l → Calls Tryz.prog f #[.agg #[.int .i64 d, v]] w (NumP (F d l) w)
theorem Op1R.call {f : Nat} {F : Int → List (Int × Int) → Int × List (Int × Int) × Int → Prop} (h : Op1R f F) (d : Int) (v : Value) (l : List (Int × Int)) (w : World) (hx : TermsAt w v l) : Calls Tryz.prog f #[.agg #[.int .i64 d, v]] w (NumP (F d l) w) := h d v l w hx
set_option maxRecDepth 100000 in
set_option maxHeartbeats 16000000 in
theorem roots_walk (hk : Hid KnownT) (hroot : Hid (Op1R 31 RootP)) (d : Int) (vx : Value) (l : List (Int × Int)) (w : World) (hx : TermsAt w vx l) (hw : WOk w) :
    Calls Tryz.prog 6 #[.agg #[.int .i64 d, vx]] w (AnsB true w) := by
  obtain ⟨ax, cx, rfl, _⟩ := hx.placed
  have BA : Below w.heap.size w (w.alloc (.cells #[.int .i64 d, .slice ax l.length cx] 24)) := (Below.refl _ w).alloc (Nat.le_refl _) _
  have HX := Lib.hid (show BoxR (w.alloc (.cells #[.int .i64 d, .slice ax l.length cx] 24)) w.heap.size d (.slice ax l.length cx) l from ⟨Two.new w _ _ 24, hx.below BA⟩)
  have HBW := Lib.hid BA
  have HW := Lib.hid hw
  clear hx hw BA
  go_enter Tryz.func6, Tryz.ntmps6
  go_wp2_with fail
  refine (long_any d _ l _ HX.out.2).mono ?_
  rintro e w1 ⟨rfl, hb⟩
  replace HX := Lib.hid (HX.out.at hb)
  replace HBW := Lib.hid (HBW.out.trans (hb.mono HBW.out.size))
  clear hb
  by_cases hlx : 8 < l.length
  · rw [show decide (8 < l.length) = true from decide_eq_true hlx]
    go_wp2_with fail
    refine (hk.out _ (HW.out.below HBW.out)).mono ?_
    rintro e wk ⟨rfl, hb⟩
    have HBK := Lib.hid (HBW.out.trans (hb.mono HBW.out.size))
    clear hb
    go_wp2
    go_ret
    exact ⟨rfl, HBK.out⟩
  rw [show decide (8 < l.length) = false from decide_eq_false hlx]
  have fX0 := HX.out.1.c0
  have fX1 := HX.out.1.c1
  have fXz := HX.out.1.lt
  go_wp2_with fail
  refine (own_any d _ l _ HX.out.2 (by omega)).mono ?_
  rintro e w2 ⟨v2, rfl, ht, hb, _⟩
  have HT := Lib.hid ht
  clear fX0 fX1 fXz ht
  replace HX := Lib.hid (HX.out.at hb)
  replace HBW := Lib.hid (HBW.out.trans (hb.mono HBW.out.size))
  clear hb hlx
  go_wp2_with fail
  refine (hroot.out.call d _ l _ HT.out).mono ?_
  rintro e w3 ⟨r, hP, v3, rfl, ht, hb, _⟩
  obtain ⟨ar, cr, rfl, _⟩ := ht.placed
  have HP := Lib.hid hP
  have hq : Below w3.heap.size w3 (w3.alloc (.cells #[.int .i64 r.1, .slice ar r.2.1.length cr] 24)) := (Below.refl _ _).alloc (Nat.le_refl _) _
  have HR : Hid (BoxR (w3.alloc (.cells #[.int .i64 r.1, .slice ar r.2.1.length cr] 24)) w3.heap.size r.1 (.slice ar r.2.1.length cr) r.2.1) := Lib.hid ⟨Two.new _ _ _ _, ht.alloc _⟩
  replace HX := Lib.hid ((HX.out.at hb).at hq)
  replace HBW := Lib.hid ((HBW.out.trans (hb.mono HBW.out.size)).trans (hq.mono (Nat.le_trans HBW.out.size hb.size)))
  clear hb ht hq HT hP
  obtain ⟨w4, hw4⟩ : ∃ W, w3.alloc (.cells #[.int .i64 r.1, .slice ar r.2.1.length cr] 24) = W := ⟨_, rfl⟩
  obtain ⟨br, hbr⟩ : ∃ n, w3.heap.size = n := ⟨_, rfl⟩
  rw [hw4] at HX HR HBW
  rw [hbr] at HR
  have HW4 := Lib.hid hw4
  have HBR := Lib.hid hbr
  clear hw4 hbr
  go_upto_region 4 with fail
  rw [HW4.out, HBR.out]
  have fX0 := HX.out.1.c0
  have fX1 := HX.out.1.c1
  have fXz := HX.out.1.lt
  go_wp2_with fail
  refine (rroot_any d _ l _ HX.out.2).mono ?_
  rintro e w5 ⟨r', v5, hP', rfl, ht, hb⟩
  obtain rfl := root_same HP.out hP'
  obtain ⟨az, cz, rfl, _⟩ := ht.placed
  have hq : Below w5.heap.size w5 (w5.alloc (.cells #[.int .i64 r.1, .slice az r.2.1.length cz] 24)) := (Below.refl _ _).alloc (Nat.le_refl _) _
  have HS : Hid (BoxR (w5.alloc (.cells #[.int .i64 r.1, .slice az r.2.1.length cz] 24)) w5.heap.size r.1 (.slice az r.2.1.length cz) r.2.1) := Lib.hid ⟨Two.new _ _ _ _, ht.alloc _⟩
  replace HR := Lib.hid ((HR.out.at hb).at hq)
  replace HBW := Lib.hid ((HBW.out.trans (hb.mono HBW.out.size)).trans (hq.mono (Nat.le_trans HBW.out.size hb.size)))
  clear hb ht hq hP' HP HX fX0 fX1 fXz
  obtain ⟨w6, hw6⟩ : ∃ W, w5.alloc (.cells #[.int .i64 r.1, .slice az r.2.1.length cz] 24) = W := ⟨_, rfl⟩
  obtain ⟨bs, hbs⟩ : ∃ n, w5.heap.size = n := ⟨_, rfl⟩
  rw [hw6] at HR HS HBW
  rw [hbs] at HS
  have HW6 := Lib.hid hw6
  have HBS := Lib.hid hbs
  clear hw6 hbs HW4 HBR
  go_upto_region 5 with fail
  rw [HW6.out, HBS.out]
  have y0 := HR.out.1.c0
  have y1 := HR.out.1.c1
  have yz := HR.out.1.lt
  have z0 := HS.out.1.c0
  have z1 := HS.out.1.c1
  have zz := HS.out.1.lt
  go_wp2_with fail
  refine (same_any r.1 r.1 _ _ r.2.1 r.2.1 _ HR.out.2 HS.out.2).mono ?_
  rintro e w10 ⟨rfl, hb⟩
  rw [show decide (r.1 = r.1 ∧ r.2.1 = r.2.1) = true by simp]
  have HB10 := Lib.hid (HBW.out.trans (hb.mono HBW.out.size))
  clear y0 y1 yz z0 z1 zz hb HW6 HBS
  go_wp2_with fail
  refine (hk.out _ (HW.out.below HB10.out)).mono ?_
  rintro e wk ⟨rfl, hb⟩
  have HBK := Lib.hid (HB10.out.trans (hb.mono HB10.out.size))
  clear hb
  go_wp2
  go_ret
  exact ⟨rfl, HBK.out⟩
end Go.Proofs.YtedpafdfecofnaaGreatDoor

/-! ## K6 -/
namespace Go.Proofs.YtedpafdfecofnaaGreatDoor
open Go.ChangeMaps Go.MakeChecks Go.ChangeShapes Go.WideShapes Go.ChangeAt Go.RowKit Go.Deep Go.Joins

theorem laidOutP : laidOutB Tryz.prog = true := by kernel_rfl
theorem ownP : ownKnob Tryz.prog.godebug = none := by kernel_rfl
theorem dataPow : (Rows.laid_internal_strconv_uint64pow10 : DataW Unit) = Lib.tabData .u64 Lib.pow10Tab := by kernel_rfl

/-- What the three laid tables give. -/
theorem tabW {W : World} (h : laidMetH Tryz.prog [("math/bits.deBruijn32tab", Rows.laid_math_bits_deBruijn32tab), ("math/bits.deBruijn64tab", Rows.laid_math_bits_deBruijn64tab), ("internal/strconv.uint64pow10", Rows.laid_internal_strconv_uint64pow10)] W) :
    Lib.TabIs Tryz.prog W "internal/strconv.uint64pow10" .u64 Lib.pow10Tab := by
  rw [laidMetH_plain _ _ _ (by kernel_rfl)] at h
  have h3 := h.tail.tail
  rw [dataPow] at h3
  exact Lib.tabIs_of_head (rest := []) gPow (t := 179) (by kernel_rfl) Tryz.underlying179 Tryz.underlying114 (by kernel_rfl) (by kernel_rfl) h3

theorem wok {W : World} (h : laidMetH Tryz.prog [("math/bits.deBruijn32tab", Rows.laid_math_bits_deBruijn32tab), ("math/bits.deBruijn64tab", Rows.laid_math_bits_deBruijn64tab), ("internal/strconv.uint64pow10", Rows.laid_internal_strconv_uint64pow10)] W) (hS : W.ShapedOpen Tryz.prog) : WOk W := by
  refine ⟨tabW h, ?_, ?_⟩
  · exact cell_of_shapedOpen_int (g := 2) (t := 3) (zero := #[.int .i64 0]) hS (of_decide_eq_true (by kernel_rfl)) (by kernel_rfl) rfl (by kernel_rfl) (by kernel_rfl) Tryz.underlying3
  · obtain ⟨cs, hc, _⟩ := hS.1 5 ((List.replicate 64 (Value.int .u8 0)).toArray) 186 (of_decide_eq_true (by kernel_rfl)) (by kernel_rfl)
    have := (Array.getElem?_eq_some_iff.1 hc).1
    omega

section
variable {H : Type} {enc : TypeId × Value → H} {W : World}
theorem int_of_trod {n : Nat} {v : Value} {d : DataW H} {p : List MemPlace} (h : DataW.trod enc Tryz.prog W 0 (fun _ => true) true n 3 [v] = some (d, p)) : v = .int .i64 (intOf v) := by
  obtain ⟨k, hc, _, _⟩ := DataW.trod_int Tryz.underlying3 h
  obtain rfl : v = .int .i64 k := by simpa using hc
  rfl

theorem cell_lt {w : World} {a : Addr} {v : Value} (h : w.cell? a = some v) : a.block < w.heap.size := by
  by_cases hb : a.block < w.heap.size
  · exact hb
  · rw [World.cell?, Array.getElem?_eq_none (by omega)] at h
    simp at h

theorem map_range_at {f : Nat → Int × Int} {n i : Nat} (h : i < n) : ((List.range n).map f)[i]?.getD (0, 0) = f i := by simp [h]

/-- A slice of terms, opened: the terms that it holds. -/
theorem terms_open {n : Nat} {v : Value} {y : DataW H × List MemPlace} (hd : DataW.trod enc Tryz.prog W 0 (fun _ => true) true n 22 [v] = some y) (hw : (y.1.weights Tryz.prog 22).all (· ≤ reachBytes) = true) :
    ∃ l, TermsAt W v l := by
  rcases open_slice_pairs Tryz.underlying22 Tryz.underlying34 (by kernel_rfl) rfl rfl (by kernel_rfl) (by kernel_rfl) hd with ⟨hv, _⟩ | ⟨a, len, cap, m, k, V0, V1, D0, D1, P0, P1, hv, _, hle, _, hm, hy, hall⟩
  · obtain rfl : v = .slice none 0 0 := by simpa using hv
    exact ⟨[], by simp, .inl ⟨rfl, none, 0, rfl⟩⟩
  · obtain rfl : v = .slice (some a) len cap := by simpa using hv
    simp only [if_true] at hm
    subst hm
    subst hy
    have hb : Tryz.prog.bytesOf 34 = 16 := by kernel_rfl
    have hwt : len + (m - len) ≤ 8796093022208 := by
      simp only [DataW.weights, Tryz.underlying22, List.all_cons, Bool.and_eq_true, decide_eq_true_eq, List.length_map, List.length_range, hb] at hw
      have := hw.1
      unfold reachBytes at this
      omega
    refine ⟨(List.range len).map fun i => (intOf (V0 i), intOf (V1 i)), by simp; omega, ?_⟩
    by_cases hl : len = 0
    · subst hl
      exact .inl ⟨by simp, some a, m, rfl⟩
    · right
      obtain ⟨b, off, spot⟩ := a
      obtain ⟨h00, _⟩ := hall 0 (by omega)
      have hspot : spot = none := by simpa [Addr.add] using World.cell?_spot h00
      subst hspot
      have hblk : b < W.heap.size := cell_lt h00
      refine ⟨b, off, m, by simp, by simpa using hle, hblk, ?_⟩
      intro i hi
      have hi' : i < len := by simpa using hi
      obtain ⟨h0, h1, t0, t1⟩ := hall i (by omega)
      rw [map_range_at hi']
      rw [add_plain] at h0
      refine ⟨?_, ?_⟩
      · rw [h0, ← int_of_trod t0]
      · have h1' : W.cell? ⟨b, off + (i * 2 + 1), none⟩ = some (V1 i) := by rw [← add_plain]; exact h1
        rw [show off + i * 2 + 1 = off + (i * 2 + 1) by omega, h1', ← int_of_trod t1]
end


theorem op1_root : Hid (Op1R 31 RootP) := Lib.hid fun d v l w hx => root_any (Lib.hid sort_any) d v l w hx

set_option maxRecDepth 100000 in
/-- WHAT THE WALK GIVES, FOR EVERY ARGUMENT AND EVERY WORLD THAT HOLDS THE TABLES. -/
theorem contract6 (H : Type) (enc : TypeId × Value → H) (W : World) (base : Nat) (args : Array Value) (ds gs : List (DataW H)) (before : List MemPlace)
    (hval : ∀ (j : Nat) t v, Tryz.f6.params[j]? = some t → args[j]? = some v → Value.okWide Tryz.prog W .any base t v)
    (hW : DataW.Whole enc Tryz.prog Tryz.f6.params.toList Rows.surdRootsSpec.vars false W args.toList ds gs before)
    (hz : (DataW.weightsEach Tryz.prog (Tryz.f6.params.toList ++ Rows.surdRootsSpec.plain.varTypes Tryz.prog) (ds ++ gs)).all (· ≤ reachBytes) = true)
    (hO : WOk W) :
    Calls Tryz.prog 6 args W fun e W' => ∃ v, e = .returned v ∧ Rows.surdRootsSpec.post enc Tryz.prog Tryz.f6 false true false false W args v W' := by
  have hW' := hW
  obtain ⟨p, q, hA0, hV, rfl, hfz, hnd⟩ := hW
  have hA : DataW.TrodAll enc Tryz.prog W 0 (fun _ => true) true Tryz.f6.params.toList args.toList ds p := hA0
  rw [Tryz.params6] at hA hval hz
  obtain ⟨v0, d0, rfl, rfl, h0⟩ := trodAll_one hA
  obtain ⟨rfl, rfl⟩ := trodVars_none hV
  have h0k := h0
  obtain ⟨c0, c1, y0, y1, n, rfl, rfl, rfl, t0, t1⟩ := open_agg2 Tryz.underlying24 (by kernel_rfl) (by kernel_rfl) (hval 0 24 v0 rfl rfl) h0
  clear hA0
  simp only [List.append_nil] at hW'
  have i0 := int_of_trod (v := c0) t0
  have hwt : ((y1.1.weights Tryz.prog 22).all fun x => decide (x ≤ reachBytes)) = true := by
    simp only [List.cons_append, List.nil_append, DataW.weightsEach, DataW.weights, Tryz.underlying24, List.all_append, Bool.and_eq_true, List.map_cons, List.map_nil, List.append_nil] at hz
    exact hz.1.2
  obtain ⟨lx, hlx⟩ := terms_open t1 hwt
  have hlt : ∀ x ∈ y0.2 ++ y1.2, x.block < W.heap.size := fun x hx => by simpa using hW'.lt x (by simpa using hx)
  have ha0 : ∀ (W' : World), Below W.heap.size W W' → DataW.Trod enc Tryz.prog W' 0 (fun b => decide (b < W.heap.size)) true 24 (.agg #[c0, c1]) (.agg [y0.1, y1.1]) (y0.2 ++ y1.2) :=
    fun W' hn => Below.trod laidOutP (by kernel_rfl) (of_decide_eq_true (by kernel_rfl)) h0k hn hlt
  have walk := roots_walk (Lib.hid knownT) op1_root (intOf c0) c1 lx W hlx hO
  rw [← i0] at walk
  refine walk.mono fun e W' ⟨he, hb⟩ => ?_
  subst he
  refine ⟨_, rfl, _, _, _, [], y0.2 ++ y1.2, [], hW', ?_, ?_, ?_, hb.frame _, fun h => by cases h⟩
  · exact trodAll_mk1 (shut_bool Tryz.underlying4 _)
  · exact trodAll_mk1 (ha0 _ hb)
  · rfl

/-- A WORLD FOR THE WITNESS: the settled one, its three tables holding what their initialisers lay. -/
theorem laid_met6 (os : Os) : laidMet Tryz.prog Rows.surdRootsRow.laid ((World.laidAll Tryz.prog os Rows.surdRootsRow.laid).forCall (fun _ _ => 0) ⟨#[], #[.agg #[.int .i64 0, .slice none 0 0]], []⟩).memory :=
  laidMet_laidAll _ (by kernel_rfl) (by kernel_rfl)
theorem reads6 (os : Os) {H : Type} (enc : TypeId × Value → H) : ∃ places, DataW.whole enc Tryz.prog ((World.laidAll Tryz.prog os Rows.surdRootsRow.laid).forCall (fun _ _ => 0) ⟨#[], #[.agg #[.int .i64 0, .slice none 0 0]], []⟩).memory Tryz.f6.params.toList Rows.surdRootsSpec.vars false #[Value.agg #[.int .i64 0, .slice none 0 0]].toList 8 = some ([.agg [.lit (.int .i64 0), .nil]], [], places) :=
  ⟨[], by kernel_rfl⟩

set_option maxRecDepth 100000 in
theorem lifted6 (os : Os) (started : os.Started) (H : Type) (enc : TypeId × Value → H) (F : Stop.Interp) :
    ReturnsInHanded {} Tryz.checked os 6 .any ((OpenSpec.ofChange Rows.surdRootsSpec).preRow enc Tryz.prog Tryz.f6 Rows.surdRootsRow.domain false Rows.surdRootsRow.laid) (((OpenSpec.ofChange Rows.surdRootsSpec).at F).post enc Tryz.prog Tryz.f6 false true false false) := by
  obtain ⟨places, hx⟩ := reads6 os enc
  refine returnsInHanded_of_row (C := Tryz.checked) (s := OpenSpec.ofChange Rows.surdRootsSpec) ownP started (by kernel_rfl) Tryz.func6
    (witness_row_at (enc := enc) (C := Tryz.checked) false (World.laidAll Tryz.prog os Rows.surdRootsRow.laid) #[.agg #[.int .i64 0, .slice none 0 0]] (World.laidAll_os _ _ _) (by kernel_rfl) (by kernel_rfl) (by kernel_rfl)
      (OpenSpec.preRow_of_cond 8 hx (by kernel_rfl) (fun k hk => by cases hk) (by kernel_rfl) (laid_met6 os))) ?_
  intro W base args ds gs before hval hW _ _ hz hL hS _
  exact contract6 H enc W base args ds gs before hval hW hz (wok hL hS)

theorem said6 : Rows.SurdRootsSaid :=
  OpenClaim.holds_of_cond 6 Tryz.f6 rfl rfl rfl rfl rfl rfl rfl ⟨rfl, rfl, rfl, rfl, rfl⟩ rfl rfl rfl rfl rfl (by kernel_rfl) Tryz.func6 (by kernel_rfl)
    (of_decide_eq_true (by kernel_rfl)) (by unfold Func.isWrapper; first | (rw [if_pos (by decide +kernel)]; kernel_rfl) | (rw [if_neg (by decide +kernel)]; exact ⟨rfl, rfl⟩))
    (fun os started H enc _ F => by rw [OpenClaim.pre_eq_preRow]; exact lifted6 os started H enc F)

/-- No parameter wants a stand-in; the program's own looks are off: what the card asks. -/
theorem plain6 (f : FuncId) (fn : Func) (hf : Tryz.pinned.checked.prog.funcNamed "chiti/chitilaw01.SurdRoots" = some f) (hfn : Tryz.pinned.checked.prog.funcs[f]? = some fn) :
    false = Tryz.pinned.checked.prog.looks [] ∧ ∀ (j : Nat) t, fn.params[j]? = some t → Tryz.pinned.checked.prog.wantsStandIn t = false := by
  obtain rfl : f = 6 := Option.some.inj ((show Tryz.prog.funcNamed "chiti/chitilaw01.SurdRoots" = some 6 by kernel_rfl).symm.trans hf) |>.symm
  obtain rfl : fn = Tryz.f6 := (Option.some.inj (Tryz.func6.symm.trans hfn)).symm
  refine ⟨by kernel_rfl, fun j t ht => ?_⟩
  rw [Tryz.params6] at ht
  have hm : t ∈ [24] := by simpa using Array.mem_of_getElem? ht
  have hall : ([24].all fun u => !Tryz.prog.wantsStandIn u) = true := by kernel_rfl
  exact (show Tryz.prog.wantsStandIn t = false by simpa using List.all_eq_true.1 hall t hm)

/-- THE CARD. -/
theorem card6 : Rows.SurdRootsCardSaid :=
  Claim7.holds_tied_plain_at .later [] _ _ _ _ said6 (fun _ h => by cases h) (by kernel_rfl) (fun _ h => by cases h) surdRoots_row_tie rfl ⟨rfl, rfl⟩ (by kernel_rfl) rfl plain6 (by kernel_rfl)
end Go.Proofs.YtedpafdfecofnaaGreatDoor
