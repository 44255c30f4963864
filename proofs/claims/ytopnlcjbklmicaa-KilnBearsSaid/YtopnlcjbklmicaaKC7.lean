import Derived.Test.YtopnlcjbklmicaaKC0
import Derived.Test.YtopnlcjbklmicaaK57
import Derived.Laws.IdiomArrays
import Derived.Test.YtopnlcjbklmicaaRows
import Derived.WalkKit
import Derived.ProofKit
import Derived.OpenShut
import Derived.Deep.DeepHandedRow
import Derived.Deep.SlicePairs
import Derived.Lib.SmallJoins
import Derived.Stop.LaidErr
import Derived.MakeChecks
import Derived.Lay
namespace Go.Proofs.Ytopnlcjbklmicaa
open Go.ChangeMaps Go.MakeChecks Go.ChangeShapes Go.WideShapes Go.ChangeAt Go.RowKit Go.Deep Go.Joins
set_option linter.unusedVariables false
set_option linter.unusedSimpArgs false
set_option linter.constructorNameAsVariable false
section
variable {H : Type} {enc : TypeId × Value → H} {W : World}
theorem weightsAll_mem {P : Program} {e : TypeId} {d : DataW H} : ∀ {l : List (DataW H)}, d ∈ l → ∀ n ∈ d.weights P e, n ∈ DataW.weightsAll P e l
  | x :: l, h, n, hn => by
    simp only [DataW.weightsAll, List.mem_append]
    rcases List.mem_cons.1 h with rfl | h
    · exact .inl hn
    · exact .inr (weightsAll_mem h n hn)
theorem choose_list {α : Type} (p : Nat → α → Prop) : ∀ n, (∀ i, i < n → ∃ x, p i x) → ∃ l : List α, l.length = n ∧ ∀ i, i < n → ∃ x, l[i]? = some x ∧ p i x
  | 0, _ => ⟨[], rfl, fun i hi => by omega⟩
  | n + 1, h => by
    obtain ⟨l, hl, hall⟩ := choose_list p n (fun i hi => h i (by omega))
    obtain ⟨x, hx⟩ := h n (by omega)
    refine ⟨l ++ [x], by simp [hl], fun i hi => ?_⟩
    by_cases hin : i < n
    · obtain ⟨y, hy, hp⟩ := hall i hin
      exact ⟨y, by rw [List.getElem?_append_left (by omega)]; exact hy, hp⟩
    · obtain rfl : i = n := by omega
      exact ⟨x, by rw [List.getElem?_append_right (by omega), hl]; simp, hx⟩
theorem cell_blkT {w : World} {a : Addr} {v : Value} (h : w.cell? a = some v) : a.block < w.heap.size := by
  by_cases hb : a.block < w.heap.size
  · exact hb
  · rw [World.cell?, Array.getElem?_eq_none (by omega)] at h
    simp at h
/-- A slice of ints, opened. -/
theorem srcI_open {n : Nat} {v : Value} {y : DataW H × List MemPlace} (hd : DataW.trod enc Try.prog W 0 (fun _ => true) true n 46 [v] = some y) (hw : (y.1.weights Try.prog 46).all (· ≤ reachBytes) = true) :
    ∃ l, SrcI W v l := by
  rcases open_ints Try.underlying46 Try.underlying3 (by kernel_rfl) hd with ⟨hv, _⟩ | ⟨a, len, cap, zs, hv, _, hle, _, hm, hy, hall, _⟩
  · obtain rfl : v = .slice none 0 0 := by simpa using hv
    exact ⟨[], by simp, .inl ⟨rfl, rfl⟩⟩
  · obtain rfl : v = .slice (some a) len cap := by simpa using hv
    simp only [if_true] at hm
    subst hy
    have hb : Try.prog.bytesOf 3 = 8 := by kernel_rfl
    have hlits : ∀ l : List Int, (lits (H := H) .i64 l).length = l.length := fun l => by simp [lits]
    have hwt : len ≤ 17592186043904 := by
      simp only [DataW.weights, Try.underlying46, List.all_cons, Bool.and_eq_true, decide_eq_true_eq, hb] at hw
      have h1 := hw.1
      rw [hlits, hlits, List.length_take, List.length_drop] at h1
      unfold reachBytes at h1
      omega
    refine ⟨zs.take len, by simp; omega, ?_⟩
    by_cases hl : len = 0
    · subst hl
      exact .inr (.inl ⟨a, cap, rfl, by simp⟩)
    · right; right
      obtain ⟨b, off, spot⟩ := a
      have h00 := hall 0 (by omega)
      have hspot : spot = none := by simpa [Addr.add] using World.cell?_spot h00
      subst hspot
      have hlen : (zs.take len).length = len := by simp; omega
      refine ⟨b, off, cap, by rw [hlen], by omega, cell_blkT h00, ?_⟩
      intro i hi
      rw [hlen] at hi
      have h0 := hall i (by omega)
      rw [add_plain] at h0
      rw [h0, List.getElem?_take_of_lt hi]
      simp [List.getD]
/-- A slice of small numbers, opened. -/
theorem srcU_open {n : Nat} {v : Value} {y : DataW H × List MemPlace} (hd : DataW.trod enc Try.prog W 0 (fun _ => true) true n 118 [v] = some y) (hw : (y.1.weights Try.prog 118).all (· ≤ reachBytes) = true) :
    ∃ l, SrcU W v l := by
  rcases open_ints Try.underlying118 Try.underlying95 (by kernel_rfl) hd with ⟨hv, _⟩ | ⟨a, len, cap, zs, hv, _, hle, _, hm, hy, hall, hwf⟩
  · obtain rfl : v = .slice none 0 0 := by simpa using hv
    exact ⟨[], by simp, none, 0, rfl, by simp, fun i hi => by simp at hi⟩
  · obtain rfl : v = .slice (some a) len cap := by simpa using hv
    simp only [if_true] at hm
    subst hy
    have hb : Try.prog.bytesOf 95 = 2 := by kernel_rfl
    have hlits : ∀ l : List Int, (lits (H := H) .u16 l).length = l.length := fun l => by simp [lits]
    have hwt : len ≤ 140737488355328 := by
      simp only [DataW.weights, Try.underlying118, List.all_cons, Bool.and_eq_true, decide_eq_true_eq, hb] at hw
      have h1 := hw.1
      rw [hlits, hlits, List.length_take, List.length_drop] at h1
      unfold reachBytes at h1
      omega
    have hlen : (zs.take len).length = len := by simp; omega
    refine ⟨zs.take len, fun x hx => ?_, some a, cap, by rw [hlen], by omega, fun i hi => ?_⟩
    · have h1 := hwf x (List.mem_of_mem_take hx)
      simp [Lit.wf, IntKind.min, IntKind.max, IntKind.signed, IntKind.bits] at h1
      omega
    · rw [hlen] at hi
      obtain ⟨b, off, spot⟩ := a
      have h0 := hall i (by omega)
      have h00 := hall 0 (by omega)
      have hspot : spot = none := by simpa [Addr.add] using World.cell?_spot h00
      subst hspot
      refine ⟨b, off, rfl, cell_blkT h00, ?_⟩
      rw [add_plain] at h0
      rw [h0, List.getElem?_take_of_lt hi]
      simp [List.getD]
/-- A slice of tiers, opened. -/
theorem srcT_open {n : Nat} {v : Value} {y : DataW H × List MemPlace} (hd : DataW.trod enc Try.prog W 0 (fun _ => true) true n 67 [v] = some y) (hw : (y.1.weights Try.prog 67).all (· ≤ reachBytes) = true) :
    ∃ l, SrcT W v l := by
  rcases open_slice_pairs Try.underlying67 Try.underlying85 (by kernel_rfl) rfl rfl (by kernel_rfl) (by kernel_rfl) hd with ⟨hv, _⟩ | ⟨a, len, cap, m, k, V0, V1, D0, D1, P0, P1, hv, _, hle, _, hm, hy, hall⟩
  · obtain rfl : v = .slice none 0 0 := by simpa using hv
    exact ⟨[], none, 0, rfl, by simp, fun i hi => by simp at hi⟩
  · obtain rfl : v = .slice (some a) len cap := by simpa using hv
    simp only [if_true] at hm
    subst hm
    subst hy
    have hb : Try.prog.bytesOf 85 = 48 := by kernel_rfl
    simp only [DataW.weights, Try.underlying67, List.all_cons, Bool.and_eq_true, decide_eq_true_eq, List.length_map, List.length_range, hb, List.all_append] at hw
    have hwt : (len + (m - len)) * 48 ≤ 140737488351232 := by
      have h1 := hw.1
      unfold reachBytes at h1
      omega
    have hmk : ∀ i, i < len → ∃ q : List Int × List Int, SrcI W (V0 i) q.1 ∧ SrcI W (V1 i) q.2 := by
      intro i hi
      have hmem : ∀ z ∈ (DataW.agg [D0 i, D1 i]).weights Try.prog 85, decide (z ≤ reachBytes) = true := fun z hz =>
        List.all_eq_true.1 hw.2.1 z (weightsAll_mem (d := .agg [D0 i, D1 i]) (List.mem_map.2 ⟨i, List.mem_range.2 hi, rfl⟩) z hz)
      simp only [DataW.weights, Try.underlying85, DataW.weightsEach, List.map_cons, List.map_nil, List.append_nil, List.mem_append] at hmem
      obtain ⟨l1, h1⟩ := srcI_open (hall i (by omega)).2.2.1 (List.all_eq_true.2 fun z hz => hmem z (.inl hz))
      obtain ⟨l2, h2⟩ := srcI_open (hall i (by omega)).2.2.2 (List.all_eq_true.2 fun z hz => hmem z (.inr hz))
      exact ⟨(l1, l2), h1, h2⟩
    obtain ⟨ms, hms, hmsat⟩ := choose_list (fun i (q : List Int × List Int) => SrcI W (V0 i) q.1 ∧ SrcI W (V1 i) q.2) len hmk
    refine ⟨ms, some a, m, by rw [hms], by omega, fun i hi => ?_⟩
    rw [hms] at hi
    obtain ⟨b, off, spot⟩ := a
    obtain ⟨h00, _⟩ := hall 0 (by omega)
    have hspot : spot = none := by simpa [Addr.add] using World.cell?_spot h00
    subst hspot
    obtain ⟨h0, h1, t0, t1⟩ := hall i (by omega)
    obtain ⟨x, hx, hp1, hp2⟩ := hmsat i hi
    rw [add_plain] at h0 h1
    exact ⟨b, off, rfl, cell_blkT h00, V0 i, V1 i, h0, by rw [show off + i * 2 + 1 = off + (i * 2 + 1) by omega]; exact h1, by rw [hx]; exact hp1, by rw [hx]; exact hp2⟩
theorem array3T {α : Type} {a : Array α} (h : a.size = 3) : ∃ x y z, a = #[x, y, z] := by
  rcases a with ⟨l⟩
  match l, h with
  | [x, y, z], _ => exact ⟨x, y, z, rfl⟩
set_option maxRecDepth 100000 in
/-- A stack, opened. -/
theorem stack_open {b0 : Nat} {v : Value} {d : DataW H} {p : List MemPlace} (hv : Value.okWide Try.prog W .any b0 69 v) (h : DataW.Trod enc Try.prog W 0 (fun _ => true) true 69 v d p) (hw : (d.weights Try.prog 69).all (· ≤ reachBytes) = true) :
    ∃ x y tv ts, v = .agg #[.int .i64 x, .int .i64 y, tv] ∧ SrcT W tv ts := by
  obtain ⟨cs, rfl, hsz⟩ := okWide_struct Try.underlying69 hv
  obtain ⟨c0, c1, c2, rfl⟩ := array3T (hsz.trans (by kernel_rfl))
  obtain ⟨fuel, hf⟩ := h
  obtain ⟨xs, n, hd, hx, _, hlen, hall⟩ := DataW.trod_struct Try.underlying69 hf
  have hi : Try.prog.cellsOf 3 = 1 := by kernel_rfl
  have ht : Try.prog.cellsOf 67 = 1 := by kernel_rfl
  have h0 := hall 0 _ rfl
  have h1 := hall 1 _ rfl
  have h2 := hall 2 _ rfl
  have hl3 : xs.length = 3 := hlen
  obtain ⟨x0, x1, x2, rfl⟩ : ∃ x0 x1 x2, xs = [x0, x1, x2] := by
    match xs, hl3 with
    | [x0, x1, x2], _ => exact ⟨x0, x1, x2, rfl⟩
  have hd2 : d = .agg [x0.1, x1.1, x2.1] := by have := congrArg Prod.fst hx; simpa using this
  subst hd2
  simp only [DataW.weights, Try.underlying69, DataW.weightsEach, List.map_cons, List.map_nil, List.append_nil, List.all_append, Bool.and_eq_true] at hw
  simp only [List.getElem?_cons_zero, List.getElem?_cons_succ] at h0 h1 h2
  have e0 := int_of_trod (v := c0) (d := x0.1) (p := x0.2) (by simpa [hi, Value.cells] using h0)
  have e1 := int_of_trod (v := c1) (d := x1.1) (p := x1.2) (by simpa [hi, Value.cells] using h1)
  obtain ⟨ts, hts⟩ := srcT_open (v := c2) (y := x2) (by simpa [ht, Value.cells] using h2) (by
    first | exact hw.2.2 | (simpa using hw.2.2))
  exact ⟨intOf c0, intOf c1, c2, ts, by rw [← e0, ← e1], hts⟩
end
end Go.Proofs.Ytopnlcjbklmicaa
