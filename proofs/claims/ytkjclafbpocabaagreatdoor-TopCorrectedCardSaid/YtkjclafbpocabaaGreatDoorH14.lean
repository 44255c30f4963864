/-
  Contracts of the program's own functions (and their plain mathematics), on the way to the law: each for all arguments that its hypotheses let.
-/
import Derived.Test.YtkjclafbpocabaaGreatDoorG31
import Derived.Test.YtkjclafbpocabaaGreatDoorG33
import Derived.WalkKit
import Derived.WalkSpells
import Derived.WalkLawsBesides
import Derived.Deep.QuietTactic
import Derived.BigQuiet
import Derived.Lib.Hide
import Derived.WalkSmall
import Derived.Maps.OwnSet
import Derived.Maps.RangeWalk
import Derived.Deep.RegionWith
import Derived.Deep.RegionHeld3
import Derived.Deep.DrawnRows
import Derived.Deep.DeepCutAuto
import Derived.OneCell
import Derived.KernelRfl
import Derived.Laws.StructEq
import Derived.StillTailTactics
import Derived.Laws.Externs
import Derived.RangeFuncBox
import Derived.Test.YtkjclafbpocabaaGreatDoorPlain
set_option linter.unusedSimpArgs false
set_option linter.unusedVariables false

/-! ## KZs -/
namespace Go.Proofs
open Go.Shelf Go.RowKit Go.Lib Go.Sort
end Go.Proofs
namespace Go.Proofs.YtkjclafbpocabaaGreatDoor
open Go.Shelf Go.RowKit Go.Sort
theorem sort_none (p : Option Addr) (cap : Nat) (w : World) : Calls Tryz.prog 213 #[.slice p 0 cap, .func (.func 214) #[] #[]] w fun e w' => e = .returned (.tuple #[]) ∧ w' = w := by
  have hl := fun w => (Any.bits_Len Tryz.lays125 0 w (by omega) (by omega))
  change ∀ w, Calls Tryz.prog 233 _ _ _ at hl
  generalize (Lib.bitLen (Int.toNat 0) : Int) = bl at hl
  have HL := Lib.hid hl
  clear hl
  go_enter Tryz.func213, Tryz.ntmps213
  go_wp2_with (first | (go_at_call 233; refine (HL.out _).mono ?_; rintro e w' ⟨rfl, rfl⟩) | go_in)
  refine wp_loop_rounds 1 ?_
  rw [rounds_succ]
  go_wp2
  refine wp_loop_rounds 1 ?_
  rw [rounds_succ]
  go_wp2
  go_end0
  go_wp2
  refine bodyPost_ret (v := .tuple #[]) (by simp [results, Tryz.results232, go_sem]) rfl ?_
  go_wp2
  go_end0
  exact ⟨rfl, rfl⟩

/-- A term whose root lies in bounds. -/
abbrev TR := { t : Int × Int // 0 ≤ t.2 ∧ t.2 ≤ 1000000000000 }
instance : Inhabited TR := ⟨⟨(0, 0), by simp⟩⟩
def encT (x : TR) : List Value := [.int .i64 x.1.1, .int .i64 x.1.2]
def cmpT (x y : TR) : Int := x.1.2 - y.1.2
theorem isAgg34 (w : World) : (isAgg (Tryz.sortT_ren.t 24)).run Tryz.prog w = .ok true w := by kernel_rfl
theorem sizeOf34 (w : World) : (Go.sizeOf (Tryz.sortT_ren.t 24)).run Tryz.prog w = .ok 2 w := by kernel_rfl

theorem closure115 (x y : TR) (W : World) : Calls Tryz.prog 214 #[.agg #[.int .i64 x.1.1, .int .i64 x.1.2], .agg #[.int .i64 y.1.1, .int .i64 y.1.2]] W fun e w' => e = .returned (.int .i64 (cmpT x y)) ∧ ∃ q os', w' = grow (W.drewN q) os' := by
  obtain ⟨⟨a, b⟩, h1, h2⟩ := x
  obtain ⟨⟨c, d⟩, h3, h4⟩ := y
  unfold cmpT
  dsimp only at h1 h2 h3 h4 ⊢
  go_enter Tryz.func214, Tryz.ntmps214
  go_wp2
  go_ret
  exact ⟨rfl, 0, _, by rw [alloc_eq_grow, alloc_eq_grow, grow_grow]; rfl⟩

theorem cmpLaysT (blk off size : Nat) (w : World) : CmpLays Tryz.prog 214 #[] encT 2 cmpT blk off size w := fun _ _ _ _ x y => closure115 x y _

theorem ltT (x y : TR) : ltOf cmpT x y = decide (x.1.2 < y.1.2) := by
  unfold ltOf cmpT
  rw [Bool.eq_iff_iff]; simp; omega
theorem swoT : SWO (ltOf cmpT) where
  irrefl x := by rw [ltT]; simp
  trans x y z h1 h2 := by rw [ltT] at *; simp at *; omega
  ntrans x y z h1 h2 := by rw [ltT] at *; simp at *; omega

theorem flat_enc (d : Array TR) : (flatK encT 2 d).toList = flatT (d.toList.map (·.1)) := by
  apply List.ext_getElem?
  intro t
  by_cases ht : t < d.size * 2
  · have hi : t / 2 < d.size := by omega
    have hf := flatT_get (d.toList.map (·.1)) (t / 2) (by simpa using hi)
    have hg := get_flatK encT 2 d t ht
    have e1 : (d.toList.map (·.1))[t / 2]?.getD (0, 0) = (d[t / 2]!).1 := by
      rw [getElem!_pos d _ hi]; simp [hi]
    rw [e1] at hf
    have e2 : (flatK encT 2 d).toList[t]? = some ((flatK encT 2 d)[t]!) := by
      rw [getElem!_pos _ t (by simpa using ht), Array.getElem?_toList, Array.getElem?_eq_getElem]
    rw [e2, hg]
    rcases Nat.mod_two_eq_zero_or_one t with h | h
    · rw [h]
      have : t = t / 2 * 2 := by omega
      conv => rhs; rw [this]
      rw [hf.1]
      simp [encT]
    · rw [h]
      have : t = t / 2 * 2 + 1 := by omega
      conv => rhs; rw [this]
      rw [hf.2]
      simp [encT]
  · rw [List.getElem?_eq_none (by simp; omega), List.getElem?_eq_none (by rw [flatT_len]; simp; omega)]

theorem heap_sortedT {w : World} {g n : Nat} {os : Array Obj} {cur : Array Value} {e : TypeId} {fr : Nat × Nat} (d : Array Value) (hb : w.heap[g]? = some (.cells cur e fr)) :
    (grow (putRow id (Sort.ahead w n) g 0 d) os).heap[g]? = some (.cells (putCells id 0 d cur) e fr) := by
  have hg : g < w.heap.size := (Array.getElem?_eq_some_iff.1 hb).1
  rw [heap_grow_old _ _ (by simpa using hg)]
  simp [putRow, mapBlock, Sort.ahead, Array.getElem?_modify, hb, onCells]
theorem grownBy_sortedT {w : World} {g n : Nat} {os : Array Obj} (d : Array Value) : w.grownBy (grow (putRow id (Sort.ahead w n) g 0 d) os) (some g) := by
  refine ⟨rfl, rfl, rfl, by simp, fun k hk hne => ?_⟩
  rw [heap_grow_old _ _ (by simpa using hk)]
  have : g ≠ k := fun e => hne (by rw [e])
  simp [putRow, mapBlock, Sort.ahead, Array.getElem?_modify, this]
theorem take_putCellsT (cur : Array Value) (ts : Array Value) (h : ts.size ≤ cur.size) : (putCells id 0 ts cur).toList.take ts.size = ts.toList := by
  apply List.ext_getElem?
  intro j
  by_cases hj : j < ts.size
  · rw [List.getElem?_take_of_lt hj, Array.getElem?_toList]
    simp [putCells, hj, show j < cur.size by omega]
  · rw [List.getElem?_take_eq_none (by omega), List.getElem?_eq_none (by simp; omega)]

set_option maxHeartbeats 1000000 in
theorem sort_any : SortC := by
  intro base v l w ho hl hb
  have ho' := ho
  obtain ⟨hlen, ⟨rfl, h0⟩ | ⟨g, cap, cur, rfl, hbase, hblk, hcap, hmax, hcs, htk⟩⟩ := ho
  · have : l = [] := List.length_eq_zero_iff.1 h0
    subst this
    exact (sort_none none 0 w).mono fun e w' ⟨he, hw⟩ => ⟨he, ⟨[], List.Perm.refl _, List.Pairwise.nil, by rw [hw]; exact ho'⟩, by rw [hw]; exact World.grownBy.refl _ _⟩
  · obtain ⟨d, hd⟩ : ∃ d : Array TR, d.toList.map (·.1) = l := ⟨(l.pmap (fun t h => (⟨t, h⟩ : TR)) hb).toArray, by simp [List.map_pmap]⟩
    have hds : d.size = l.length := by rw [← hd]; simp
    have hfl := flat_enc d
    rw [hd] at hfl
    have hH : HoldsK encT 2 w g 0 d := by
      intro j hj
      have hj' : j < l.length * 2 := by simpa [hds] using hj
      refine ⟨?_, by simp [World.frozen?, hblk]⟩
      have h1 : (cur.toList.take (l.length * 2))[j]? = (flatK encT 2 d).toList[j]? := by rw [htk, hfl]
      rw [List.getElem?_take_of_lt hj'] at h1
      simp only [World.cell?, hblk, Nat.zero_add]
      simp only [Option.isSome_none, Bool.false_eq_true, if_false]
      rw [← Array.getElem?_toList, h1, Array.getElem?_toList, getElem!_pos _ j hj, Array.getElem?_eq_getElem hj]
      rfl
    have eg : ∀ args w, (callFunc 214 args).run Tryz.prog w = .ok (.enter 214 args) w := enters_of Tryz.func214 (by kernel_rfl) rfl
    have hcon := AnyQ.slices_SortFunc Tryz.sortT 2 isAgg34 sizeOf34 encT (fun _ => rfl) (fun x v hv => by simp [encT] at hv; rcases hv with rfl | rfl <;> rfl) cmpT swoT 214 #[] g 0 cap d w eg (cmpLaysT g 0 d.size w) hH (Array.getElem?_eq_some_iff.1 hblk).1 (by omega)
    rw [hds] at hcon
    change Calls Tryz.prog 213 _ _ _ at hcon
    refine hcon.mono ?_
    rintro e w' ⟨rfl, d', n, os, hp, hs, rfl⟩
    have hsz : d'.size = d.size := hp.1
    have hperm : d'.toList.Perm d.toList := by
      have := hp.2.2
      rw [← hds] at this
      have e1 : d'.extract 0 d.size = d' := by rw [← hsz]; simp
      have e2 : d.extract 0 d.size = d := by simp
      rwa [e1, e2] at this
    have hF : (flatK encT 2 d').size = l.length * 2 := by simp [hsz, hds]
    refine ⟨rfl, ⟨d'.toList.map (·.1), by rw [← hd]; exact hperm.map _, ?_, ?_⟩, grownBy_sortedT _⟩
    · rw [List.pairwise_map, List.pairwise_iff_getElem]
      intro i j hi hj hij
      have := hs i j (Nat.zero_le _) hij (by simp at hj; omega)
      rw [ltT] at this
      simp at hi hj
      rw [getElem!_pos d' i hi, getElem!_pos d' j hj] at this
      simp at this
      simpa using this
    · refine ⟨flatT_len _, .inr ⟨g, cap, _, by simp [hsz, hds], hbase, heap_sortedT _ hblk, by simp [hsz, hds]; exact hcap, hmax, by simp [putCells]; exact hcs, ?_⟩⟩
      rw [← flat_enc]
      have := take_putCellsT cur (flatK encT 2 d') (by rw [hF, hcs]; exact Nat.mul_le_mul_right _ hcap)
      rw [hF] at this
      simpa [hsz, hds] using this
end Go.Proofs.YtkjclafbpocabaaGreatDoor
