/-
  THE LAW TopCorrected, FOR EVERY INPUT, AND ITS CARD. The row lists three tables: the call is made in a world in which they hold what their initialisers lay.
-/
import Derived.Test.YtkjclafbpocabaaGreatDoorCards
import Derived.Test.YtkjclafbpocabaaGreatDoorTie
import Derived.Test.YtkjclafbpocabaaGreatDoorH13
import Derived.Test.YtkjclafbpocabaaGreatDoorH14
import Derived.WalkKit
import Derived.ProofKit
import Derived.OpenShut
import Derived.Deep.DeepHandedRow
import Derived.Deep.SlicePairs
import Derived.Lib.SmallJoins
import Derived.Lib.LaidTab
import Derived.Stop.LaidErr
import Derived.MakeChecks
import Derived.Shelf.Vars
import Derived.Lay
set_option linter.unusedSimpArgs false
set_option linter.unusedVariables false

/-! ## KZa -/
namespace Go.Proofs.YtkjclafbpocabaaGreatDoor
open Go.ChangeMaps Go.MakeChecks Go.ChangeShapes Go.WideShapes Go.ChangeAt Go.RowKit Go.Deep Go.Joins
theorem laidOutP : laidOutB Tryz.prog = true := by kernel_rfl
theorem ownP : ownKnob Tryz.prog.godebug = none := by kernel_rfl
theorem dataPow : (Rows.laid_internal_strconv_uint64pow10 : DataW Unit) = Lib.tabData .u64 Lib.pow10Tab := by kernel_rfl

/-- What the three laid tables give. -/
theorem tabW {W : World} (h : laidMetH Tryz.prog [("math/bits.deBruijn32tab", Rows.laid_math_bits_deBruijn32tab), ("math/bits.deBruijn64tab", Rows.laid_math_bits_deBruijn64tab), ("internal/strconv.uint64pow10", Rows.laid_internal_strconv_uint64pow10)] W) :
    Lib.TabIs Tryz.prog W "internal/strconv.uint64pow10" .u64 Lib.pow10Tab := by
  rw [laidMetH_plain _ _ _ (by kernel_rfl)] at h
  have h3 := h.tail.tail
  rw [dataPow] at h3
  exact Lib.tabIs_of_head (rest := []) gPow (t := 271) (by kernel_rfl) Tryz.underlying271 Tryz.underlying220 (by kernel_rfl) (by kernel_rfl) h3

theorem wok {W : World} (h : laidMetH Tryz.prog [("math/bits.deBruijn32tab", Rows.laid_math_bits_deBruijn32tab), ("math/bits.deBruijn64tab", Rows.laid_math_bits_deBruijn64tab), ("internal/strconv.uint64pow10", Rows.laid_internal_strconv_uint64pow10)] W) (hS : W.ShapedOpen Tryz.prog) : WOk W := by
  refine ⟨tabW h, trivial, ?_⟩
  obtain ⟨cs, hc, _⟩ := hS.1 4 ((List.replicate 64 (Value.int .u8 0)).toArray) 282 (of_decide_eq_true (by kernel_rfl)) (by kernel_rfl)
  have := (Array.getElem?_eq_some_iff.1 hc).1
  omega


section
variable {H : Type} {enc : TypeId × Value → H} {W : World}
theorem cell_lt {w : World} {a : Addr} {v : Value} (h : w.cell? a = some v) : a.block < w.heap.size := by
  by_cases hb : a.block < w.heap.size
  · exact hb
  · rw [World.cell?, Array.getElem?_eq_none (by omega)] at h
    simp at h
theorem weightsAll_mem {P : Program} {e : TypeId} {d : DataW H} : ∀ {l : List (DataW H)}, d ∈ l → ∀ n ∈ d.weights P e, n ∈ DataW.weightsAll P e l
  | x :: l, h, n, hn => by
    simp only [DataW.weightsAll, List.mem_append]
    rcases List.mem_cons.1 h with rfl | h
    · exact .inl hn
    · exact .inr (weightsAll_mem h n hn)
def boolOf : Value → Bool | .bool b => b | _ => false
theorem bool_of_trod {n : Nat} {v : Value} {d : DataW H} {p : List MemPlace} (h : DataW.trod enc Tryz.prog W 0 (fun _ => true) true n 4 [v] = some (d, p)) : v = .bool (boolOf v) := by
  obtain ⟨k, hc, _⟩ := DataW.trod_bool Tryz.underlying4 h
  obtain rfl : v = .bool k := by simpa using hc
  rfl

/-- A slice of marks, opened: the marks that it holds. -/
theorem marks_open {n : Nat} {v : Value} {y : DataW H × List MemPlace} (hd : DataW.trod enc Tryz.prog W 0 (fun _ => true) true n 59 [v] = some y) (hw : (y.1.weights Tryz.prog 59).all (· ≤ reachBytes) = true) :
    ∃ l, MarksAtz W v l := by
  rcases open_ints Tryz.underlying59 Tryz.underlying3 (by kernel_rfl) hd with ⟨hv, _⟩ | ⟨a, len, cap, zs, hv, _, hle, _, hm, hy, hall, _⟩
  · obtain rfl : v = .slice none 0 0 := by simpa using hv
    exact ⟨[], by simp, .inl ⟨rfl, none, 0, rfl⟩⟩
  · obtain rfl : v = .slice (some a) len cap := by simpa using hv
    simp only [if_true] at hm
    subst hy
    have hb : Tryz.prog.bytesOf 3 = 8 := by kernel_rfl
    have hlits : ∀ l : List Int, (lits (H := H) .i64 l).length = l.length := fun l => by simp [lits]
    have hwt : len ≤ 17592186043904 := by
      simp only [DataW.weights, Tryz.underlying59, List.all_cons, Bool.and_eq_true, decide_eq_true_eq, hb] at hw
      have h1 := hw.1
      rw [hlits, hlits, List.length_take, List.length_drop] at h1
      unfold reachBytes at h1
      omega
    refine ⟨zs.take len, by simp; omega, ?_⟩
    by_cases hl : len = 0
    · subst hl
      exact .inl ⟨by simp, some a, cap, rfl⟩
    · right
      obtain ⟨b, off, spot⟩ := a
      have h00 := hall 0 (by omega)
      have hspot : spot = none := by simpa [Addr.add] using World.cell?_spot h00
      subst hspot
      have hlen : (zs.take len).length = len := by simp; omega
      refine ⟨b, off, cap, by rw [hlen], by omega, cell_lt h00, ?_⟩
      intro i hi
      rw [hlen] at hi
      have h0 := hall i (by omega)
      rw [add_plain] at h0
      rw [h0, List.getElem?_take_of_lt hi]
      simp [List.getD]

theorem choose_list {α : Type} (p : Nat → α → Prop) : ∀ n, (∀ i, i < n → ∃ x, p i x) → ∃ l : List α, l.length = n ∧ ∀ i, i < n → ∃ x, l[i]? = some x ∧ p i x
  | 0, _ => ⟨[], rfl, fun i hi => by omega⟩
  | n + 1, h => by
    obtain ⟨l, hl, hall⟩ := choose_list p n (fun i hi => h i (by omega))
    obtain ⟨x, hx⟩ := h n (by omega)
    refine ⟨l ++ [x], by simp [hl], fun i hi => ?_⟩
    by_cases hin : i < n
    · obtain ⟨y, hy, hp⟩ := hall i hin
      exact ⟨y, by rw [List.getElem?_append_left (by omega)]; exact hy, hp⟩
    · obtain rfl : i = n := by omega
      exact ⟨x, by rw [List.getElem?_append_right (by omega), hl]; simp, hx⟩

/-- A slice of pieces, opened: the pieces that it holds. -/
theorem pieces_open {n : Nat} {v : Value} {y : DataW H × List MemPlace} (hd : DataW.trod enc Tryz.prog W 0 (fun _ => true) true n 22 [v] = some y) (hw : (y.1.weights Tryz.prog 22).all (· ≤ reachBytes) = true) :
    ∃ l, PiecesAtz W v l ∧ l.length * 32 ≤ 140737488351232 := by
  rcases open_slice_pairs Tryz.underlying22 Tryz.underlying87 (by kernel_rfl) rfl rfl (by kernel_rfl) (by kernel_rfl) hd with ⟨hv, _⟩ | ⟨a, len, cap, m, k, V0, V1, D0, D1, P0, P1, hv, _, hle, _, hm, hy, hall⟩
  · obtain rfl : v = .slice none 0 0 := by simpa using hv
    exact ⟨[], ⟨by simp, .inl ⟨rfl, none, 0, rfl⟩⟩, by simp⟩
  · obtain rfl : v = .slice (some a) len cap := by simpa using hv
    simp only [if_true] at hm
    subst hm
    subst hy
    have hb : Tryz.prog.bytesOf 87 = 32 := by kernel_rfl
    simp only [DataW.weights, Tryz.underlying22, List.all_cons, Bool.and_eq_true, decide_eq_true_eq, List.length_map, List.length_range, hb, List.all_append] at hw
    have hwt : (len + (m - len)) * 32 ≤ 140737488351232 := by
      have h1 := hw.1
      unfold reachBytes at h1
      omega
    have hmk : ∀ i, i < len → ∃ l, MarksAtz W (V1 i) l := by
      intro i hi
      refine marks_open (hall i (by omega)).2.2.2 ?_
      refine List.all_eq_true.2 fun z hz => List.all_eq_true.1 hw.2.1 z ?_
      refine weightsAll_mem (d := .agg [D0 i, D1 i]) (List.mem_map.2 ⟨i, List.mem_range.2 hi, rfl⟩) z ?_
      simp only [DataW.weights, Tryz.underlying87]
      simp only [DataW.weightsEach, List.map_cons, List.map_nil, List.append_nil, List.mem_append]
      exact .inr hz
    obtain ⟨ms, hms, hmsat⟩ := choose_list (fun i l => MarksAtz W (V1 i) l) len hmk
    refine ⟨(List.range len).map fun i => (boolOf (V0 i), ms[i]?.getD []), ⟨by simp; omega, ?_⟩, by simp; omega⟩
    by_cases hl : len = 0
    · subst hl
      exact .inl ⟨by simp, some a, m, rfl⟩
    · right
      obtain ⟨b, off, spot⟩ := a
      obtain ⟨h00, _⟩ := hall 0 (by omega)
      have hspot : spot = none := by simpa [Addr.add] using World.cell?_spot h00
      subst hspot
      refine ⟨b, off, m, by simp, by simpa using hle, cell_lt h00, ?_⟩
      intro i hi
      have hi' : i < len := by simpa using hi
      obtain ⟨h0, h1, t0, t1⟩ := hall i (by omega)
      have hat : ((List.range len).map fun i => (boolOf (V0 i), ms[i]?.getD []))[i]?.getD (false, []) = (boolOf (V0 i), ms[i]?.getD []) := by simp [hi']
      rw [hat]
      rw [add_plain] at h0
      refine ⟨by rw [h0, ← bool_of_trod t0], V1 i, ?_, ?_⟩
      · rw [add_plain] at h1
        rw [show off + i * 2 + 1 = off + (i * 2 + 1) by omega]
        exact h1
      · obtain ⟨x, hx, hp⟩ := hmsat i hi'
        show MarksAtz W (V1 i) (ms[i]?.getD [])
        rw [hx]
        exact hp
theorem int_of_trod {n : Nat} {v : Value} {d : DataW H} {p : List MemPlace} (h : DataW.trod enc Tryz.prog W 0 (fun _ => true) true n 3 [v] = some (d, p)) : v = .int .i64 (intOf v) := by
  obtain ⟨k, hc, _, _⟩ := DataW.trod_int Tryz.underlying3 h
  obtain rfl : v = .int .i64 k := by simpa using hc
  rfl
end

set_option maxRecDepth 100000 in
/-- WHAT THE WALK GIVES, FOR EVERY ARGUMENT AND EVERY WORLD THAT HOLDS THE TABLES. -/
theorem contract16 (H : Type) (enc : TypeId × Value → H) (W : World) (base : Nat) (args : Array Value) (ds gs : List (DataW H)) (before : List MemPlace)
    (hval : ∀ (j : Nat) t v, Tryz.f16.params[j]? = some t → args[j]? = some v → Value.okWide Tryz.prog W .any base t v)
    (hW : DataW.Whole enc Tryz.prog Tryz.f16.params.toList Rows.topCorrectedSpec.vars false W args.toList ds gs before)
    (hz : (DataW.weightsEach Tryz.prog (Tryz.f16.params.toList ++ Rows.topCorrectedSpec.plain.varTypes Tryz.prog) (ds ++ gs)).all (· ≤ reachBytes) = true)
    (hO : WOk W) :
    Calls Tryz.prog 16 args W fun e W' => ∃ v, e = .returned v ∧ Rows.topCorrectedSpec.post enc Tryz.prog Tryz.f16 false true false false W args v W' := by
  have hW' := hW
  obtain ⟨p, q, hA0, hV, rfl, hfz, hnd⟩ := hW
  have hA : DataW.TrodAll enc Tryz.prog W 0 (fun _ => true) true Tryz.f16.params.toList args.toList ds p := hA0
  rw [Tryz.params16] at hA hval hz
  obtain ⟨v0, v1, d0, d1, p0, p1, rfl, rfl, rfl, h0, h1⟩ := trodAll_two hA
  obtain ⟨rfl, rfl⟩ := trodVars_none hV
  have h0k := h0
  obtain ⟨c0, c1, y0, y1, n, rfl, rfl, rfl, t0, t1⟩ := open_agg2 Tryz.underlying24 (by kernel_rfl) (by kernel_rfl) (hval 0 24 v0 rfl rfl) h0
  obtain ⟨s, rfl, rfl, rfl, hs⟩ := open_int Tryz.underlying3 (hval 1 3 v1 rfl rfl) h1
  clear hA0
  simp only [List.append_nil] at hW'
  have hc0 := int_of_trod (v := c0) t0
  have hwt : ((y1.1.weights Tryz.prog 22).all fun x => decide (x ≤ reachBytes)) = true := by
    simp only [List.cons_append, List.nil_append, DataW.weightsEach, DataW.weights, Tryz.underlying24, List.all_append, List.all_cons, Bool.and_eq_true, decide_eq_true_eq, List.map_cons, List.map_nil, List.append_nil] at hz
    exact hz.1.2
  obtain ⟨l, hl, hbig⟩ := pieces_open t1 hwt
  have hlt : ∀ x ∈ y0.2 ++ y1.2, x.block < W.heap.size := fun x hx => by simpa using hW'.lt x (by simpa using hx)
  have hargs : ∀ (W' : World), Below W.heap.size W W' → DataW.Trod enc Tryz.prog W' 0 (fun b => decide (b < W.heap.size)) true 24 (.agg #[c0, c1]) (.agg [y0.1, y1.1]) (y0.2 ++ y1.2) :=
    fun W' hn => Below.trod laidOutP (by kernel_rfl) (of_decide_eq_true (by kernel_rfl)) h0k hn hlt
  have walk := corrected_walk (Lib.hid sort_any) (intOf c0) s c1 l W hl hbig hO
  rw [← hc0] at walk
  refine walk.mono fun e W' ⟨he, hb⟩ => ?_
  subst he
  refine ⟨_, rfl, _, _, _, [], (y0.2 ++ y1.2) ++ [], [], hW', ?_, ?_, ?_, hb.frame _, fun h => by cases h⟩
  · exact trodAll_mk1 (shut_bool Tryz.underlying4 _)
  · exact trodAll_mk2 (hargs _ hb) (shut_int Tryz.underlying3 hs)
  · rfl

end Go.Proofs.YtkjclafbpocabaaGreatDoor
