/-
  Contracts of the program's own functions (and their plain mathematics), on the way to the law: each for all arguments that its hypotheses let.
-/
import Derived.Test.YtkjclafbpocabaaGreatDoorG4
import Derived.WalkKit
import Derived.WalkSpells
import Derived.WalkLawsBesides
import Derived.Deep.QuietTactic
import Derived.BigQuiet
import Derived.Lib.Hide
import Derived.WalkSmall
import Derived.Maps.OwnSet
import Derived.Maps.RangeWalk
import Derived.Deep.RegionWith
import Derived.Deep.RegionHeld3
import Derived.OneCell
import Derived.RangeFuncBox
import Derived.Deep.DrawnRows
import Derived.Deep.DeepCutAuto
import Derived.KernelRfl
import Derived.Laws.StructEq
import Derived.StillTailTactics
import Derived.Laws.Externs
set_option linter.unusedSimpArgs false
set_option linter.unusedVariables false

/-! ## S9 -/
namespace Go.Proofs.YtkjclafbpocabaaGreatDoor
open Go.RowKit Go.Maps
theorem two_after_alloc {W0 : World} {b : Nat} {u1 u2 : Value} {T : TypeId} (h : Two W0 b u1 u2 T) (x v : Value) (hv : v.cells = #[v]) (o : Obj) :
    (((W0.setCell ⟨b, 0, none⟩ x).setCell ⟨b, 1, none⟩ v).alloc o).cell? ⟨b, 0, none⟩ = some x ∧ (((W0.setCell ⟨b, 0, none⟩ x).setCell ⟨b, 1, none⟩ v).alloc o).cell? ⟨b, 1, none⟩ = some v ∧ W0.grownBy (((W0.setCell ⟨b, 0, none⟩ x).setCell ⟨b, 1, none⟩ v).alloc o) (some b) := by
  have t5 := h.set0 x
  have t6 := (t5.set1 v hv).alloc o
  have g5 := grownBy_setCell W0 ⟨b, 0, none⟩ x
  have g6 := grownBy_setCell (W0.setCell ⟨b, 0, none⟩ x) ⟨b, 1, none⟩ v
  exact ⟨t6.c0, t6.c1, (g5.trans g6).trans (World.grownBy_alloc _ _ _)⟩
def SortC : Prop := ∀ base v l w, OwnT w base v l → l.length ≤ 1000 → (∀ t ∈ l, 0 ≤ t.2 ∧ t.2 ≤ 1000000000000) → Calls Tryz.prog 213 #[v, .func (.func 214) #[] #[]] w (SortTo base v l w)

/-- What a function gives that makes a number: the denominator, the terms, the error. -/
def finF (den : Int) (l : List (Int × Int)) : Int × List (Int × Int) × Int :=
  let s := sgnDv den l
  if 4 < l.length then (0, [], 8) else if 100000 < den.tdiv s ∨ (divS s l).all isPartF = false then (0, [], 10) else (den.tdiv s, divS s l, 0)
/-- A number and an error are returned; what was there is as it was. -/
def NumTo (r : Int × List (Int × Int) × Int) (w : World) (e : Ending) (w' : World) : Prop :=
  ∃ v, e = .returned (.tuple #[.agg #[.int .i64 r.1, v], .int .i64 r.2.2]) ∧ TermsAt w' v r.2.1 ∧ Below w.heap.size w w' ∧ ∀ k, v.ownBlock = some k → w.heap.size ≤ k
def FinTo (den : Int) (c : Int → Int) (w : World) (e : Ending) (w' : World) : Prop := ∃ l, IsTerms c l ∧ l.length ≤ 1000 ∧ NumTo (finF den l) w e w'

theorem termsAt_nil (w : World) : TermsAt w (.slice none 0 0) [] := ⟨by simp, .inl ⟨rfl, none, 0, rfl⟩⟩

set_option maxRecDepth 100000 in
set_option maxHeartbeats 1000000 in
theorem finish_any (hsort : Hid SortC) (den : Int) (B n : Nat) (c : Int → Int) (w : World) (hs : OwnSum w B n c) (hn : n ≤ 1000) (hd1 : -9000000000000000000 ≤ den) (hd2 : den ≤ 9000000000000000000) (hd3 : den ≠ 0)
    (hcr : Hid (∀ r, c r ≠ 0 → 0 ≤ r ∧ r ≤ 1000000000000)) (hcb : Hid (∀ r, -9000000000000000000 ≤ c r ∧ c r ≤ 9000000000000000000)) :
    Calls Tryz.prog 114 #[.int .i64 den, .map (some B)] w (FinTo den c w) := by
  have HOS := Lib.hid hs
  have HD3 := Lib.hid hd3
  clear hs hd3
  go_enter Tryz.func114, Tryz.ntmps114
  go_wp2_with fail
  refine (reduced_any den B n c _ (HOS.out.below ((Below.refl _ _).alloc (Nat.le_refl _) _)) hn hd1 hd2 HD3.out hsort hcr hcb).mono ?_
  rintro e w1 ⟨l, v, hit, hlen, rfl, hta, hbw, hfresh⟩
  obtain ⟨q, hq⟩ : ∃ q, den.tdiv (sgnDv den l) = q := ⟨_, rfl⟩
  rw [hq]
  have t0 := (Two.new w (.int .i64 0) (.slice none 0 0) 34).below hbw (by simp)
  have HQ := Lib.hid hq
  have HIT := Lib.hid hit
  have HB1 : Hid (Below w.heap.size w w1) := Lib.hid (((Below.refl _ _).alloc (Nat.le_refl _) _).trans (hbw.mono (by simp)))
  have HT0 := Lib.hid t0
  have hll : (divS (sgnDv den l) l).length = l.length := by simp [divS]
  obtain ⟨a, cap, rfl, hpl⟩ := hta.placed
  rw [hll] at hfresh ⊢
  have HTA : Hid (TermsAt w1 (.slice a l.length cap) (divS (sgnDv den l) l)) := Lib.hid (by rw [← hll]; exact hta)
  have hw1 : w.heap.size < w1.heap.size := t0.lt
  have HFR := Lib.hid hfresh
  clear hq hit t0 hbw hta hpl hll hfresh
  have HTW := Lib.hid (HT0.out.alloc (.cells #[.int .i64 q, .slice a l.length cap] 34))
  have hend : ∀ W0 : World, Two W0 w.heap.size (.int .i64 0) (.slice none 0 0) 34 → Below w.heap.size w W0 → TermsAt W0 (.slice a l.length cap) (divS (sgnDv den l) l) → ∀ x r v, NumTo (x, r, 0) w (.returned (.tuple #[.agg #[.int .i64 x, v], .int .i64 0])) W0 → True := fun _ _ _ _ _ _ _ _ => trivial
  clear hend
  have c0 := HT0.out.c0
  have c1 := HT0.out.c1
  have f0 := HT0.out.fr (i := 0)
  have f1 := HT0.out.fr (i := 1)
  have HBA : Hid (Below w.heap.size w (w1.alloc (.cells #[.int .i64 q, .slice a l.length cap] 34))) := Lib.hid (HB1.out.alloc HB1.out.size _)
  by_cases h4 : 4 < l.length
  · have HR : Hid (finF den l = (0, [], 8)) := Lib.hid (by simp [finF, h4])
    go_wp2
    obtain ⟨d1, d2, hg⟩ := two_after_alloc HT0.out (.int .i64 0) (.slice none 0 0) rfl (.cells #[.int .i64 q, .slice a l.length cap] 34)
    refine bodyPost_ret (v := .tuple #[.agg #[.int .i64 0, .slice none 0 0], .int .i64 8]) ?_ rfl ?_
    · simp [results, Tryz.results114, go_sem, d1, d2]
    · refine ⟨l, HIT.out, hlen, ?_⟩
      rw [HR.out]
      exact ⟨_, rfl, termsAt_nil _, HB1.out.grown hg HB1.out.size (by intro k hk; cases hk; exact Nat.le_refl _), fun k hk => by cases hk⟩
  · by_cases hd : 100000 < q
    · have HR : Hid (finF den l = (0, [], 10)) := Lib.hid (by simp only [finF]; rw [if_neg h4, if_pos (by left; rw [HQ.out]; exact hd)])
      go_wp2
      obtain ⟨d1, d2, hg⟩ := two_after_alloc HT0.out (.int .i64 0) (.slice none 0 0) rfl (.cells #[.int .i64 q, .slice a l.length cap] 34)
      refine bodyPost_ret (v := .tuple #[.agg #[.int .i64 0, .slice none 0 0], .int .i64 10]) ?_ rfl ?_
      · simp [results, Tryz.results114, go_sem, d1, d2]
      · refine ⟨l, HIT.out, hlen, ?_⟩
        rw [HR.out]
        exact ⟨_, rfl, termsAt_nil _, HB1.out.grown hg HB1.out.size (by intro k hk; cases hk; exact Nat.le_refl _), fun k hk => by cases hk⟩
    · have hdd : decide (100000 < q) = false := by simp; omega
      go_wp2_with fail
      refine (everyPart_at (.slice a l.length cap) (divS (sgnDv den l) l) _ (HTA.out.alloc _)).mono ?_
      rintro e w2 ⟨rfl, hb2⟩
      have HT2 := Lib.hid (HTW.out.below hb2 HTW.out.lt)
      have HB2 : Hid (Below w.heap.size w w2) := Lib.hid (HBA.out.trans (hb2.mono HBA.out.size))
      have HTA2 := Lib.hid ((HTA.out.alloc _).below hb2)
      have HX2 := Lib.hid ((Two.new w1 (.int .i64 q) (.slice a l.length cap) 34).below hb2 (by simp))
      clear hb2 c0 c1 f0 f1
      have c0 := HT2.out.c0
      have c1 := HT2.out.c1
      have f0 := HT2.out.fr (i := 0)
      have f1 := HT2.out.fr (i := 1)
      have x0 := HX2.out.c0
      have x1 := HX2.out.c1
      cases ha : (divS (sgnDv den l) l).all isPartF
      · have HR : Hid (finF den l = (0, [], 10)) := Lib.hid (by simp only [finF]; rw [if_neg h4, if_pos (by right; exact ha)])
        clear ha
        go_wp2
        obtain ⟨d0, d1, d2, hg⟩ := two_after HT2.out (.int .i64 0) (.slice none 0 0) rfl
        refine bodyPost_ret (v := .tuple #[.agg #[.int .i64 0, .slice none 0 0], .int .i64 10]) ?_ rfl ?_
        · simp [results, Tryz.results114, go_sem, d0, d1, d2]
        · refine ⟨l, HIT.out, hlen, ?_⟩
          rw [HR.out]
          exact ⟨_, rfl, termsAt_nil _, HB2.out.grown hg HB2.out.size (by intro k hk; cases hk; exact Nat.le_refl _), fun k hk => by cases hk⟩
      · have HR : Hid (finF den l = (q, divS (sgnDv den l) l, 0)) := Lib.hid (by simp only [finF]; rw [if_neg h4, if_neg (by rw [HQ.out, ha]; simp; omega), HQ.out])
        clear ha
        go_wp2
        obtain ⟨d0, d1, d2, hg⟩ := two_after HT2.out (.int .i64 q) (.slice a l.length cap) rfl
        refine bodyPost_ret (v := .tuple #[.agg #[.int .i64 q, .slice a l.length cap], .int .i64 0]) ?_ rfl ?_
        · simp [results, Tryz.results114, go_sem, d0, d1, d2]
        · refine ⟨l, HIT.out, hlen, ?_⟩
          rw [HR.out]
          refine ⟨_, rfl, HTA2.out.kept hg ?_, HB2.out.grown hg HB2.out.size (by intro k hk; cases hk; exact Nat.le_refl _), fun k hk => by have := HFR.out k hk; simp at this; omega⟩
          cases hv : (Value.slice a l.length cap).ownBlock with
          | none => exact .inl rfl
          | some k => right; have := HFR.out k hv; simp at this ⊢; omega
end Go.Proofs.YtkjclafbpocabaaGreatDoor

/-! ## R1 -/
namespace Go.Proofs.YtkjclafbpocabaaGreatDoor
open Go.RowKit Go.Maps
theorem cell_new1 (W : World) (v : Value) (t : TypeId) : (W.alloc (.cells #[v] t)).cell? ⟨W.heap.size, 0, none⟩ = some v ∧ (W.alloc (.cells #[v] t)).frozen? ⟨W.heap.size, 0, none⟩ = false := by
  exact ⟨cell_of_one (World.alloc_heap_new W _), free_of_one (World.alloc_heap_new W _)⟩
theorem cell_far {W W' : World} {B : Nat} {a : Addr} {v : Value} (h : W.cell? a = some v) (hg : W.grownBy W' (some B)) (hlt : a.block < W.heap.size) (hne : a.block ≠ B) : W'.cell? a = some v :=
  (World.cell?_of_block (hg.block a.block hlt (fun e => hne (by cases e; rfl)))).trans h
/-- cord.within -/
theorem cwithin_any (n l h : Int) (w : World) :
    Calls Tryz.prog 82 #[.int .i64 n, .int .i64 l, .int .i64 h] w fun e w' => e = .returned (.bool (inB n l h)) ∧ w' = w := by
  have hv : inB n l h = (decide (l ≤ n) && decide (n ≤ h)) := rfl
  by_cases h1 : l ≤ n
  · by_cases h2 : n ≤ h
    · have H := Lib.hid hv
      clear hv
      go_enter Tryz.func82, Tryz.ntmps82
      go_wp2
      go_ret
      exact ⟨ret_bool (by rw [H.out]; simp [h1, h2]), rfl⟩
    · have H := Lib.hid hv
      clear hv
      go_enter Tryz.func82, Tryz.ntmps82
      go_wp2
      go_ret
      exact ⟨ret_bool (by rw [H.out]; simp [h2]), rfl⟩
  · have H := Lib.hid hv
    clear hv
    go_enter Tryz.func82, Tryz.ntmps82
    go_wp2
    go_ret
    exact ⟨ret_bool (by rw [H.out]; simp [h1]; try (intros; omega)), rfl⟩
def isMarkF (n : Int) : Bool := inB n 2 1000
theorem isMark_any (n : Int) (w : World) :
    Calls Tryz.prog 135 #[.int .i64 n] w fun e w' => e = .returned (.bool (isMarkF n)) ∧ w' = w := by
  go_enter Tryz.func135, Tryz.ntmps135
  go_wp2_with fail
  refine (cwithin_any n 2 1000 _).mono ?_
  rintro e w2 ⟨rfl, rfl⟩
  go_wp2
  go_ret
  exact ⟨rfl, rfl⟩
theorem isNumber_any (d : Int) (v : Value) (l : List (Int × Int)) (w : World) (h : TermsAt w v l) :
    Calls Tryz.prog 144 #[.agg #[.int .i64 d, v]] w (AnsB (validF d l) w) := by
  have BB : Hid (Below w.heap.size w (w.alloc (.cells #[.int .i64 d, v] 34))) := Lib.hid ((Below.refl _ _).alloc (Nat.le_refl _) _)
  have HT := Lib.hid (h.below BB.out)
  clear h
  cases hv : validF d l
  all_goals
    have HV := Lib.hid hv
    clear hv
    go_enter Tryz.func144, Tryz.ntmps144
    go_wp2_with fail
    refine (check_any d v l _ HT.out).mono ?_
    rintro e w2 ⟨rfl, hb⟩
    have HB := Lib.hid (BB.out.trans (hb.mono BB.out.size))
    rw [HV.out]
    clear hb
    go_wp2
    go_ret
    exact ⟨rfl, HB.out⟩
end Go.Proofs.YtkjclafbpocabaaGreatDoor

/-! ## Q4 -/
namespace Go.Proofs.YtkjclafbpocabaaGreatDoor
open Go.RowKit Go.Maps
/-- A list of ints that a slice holds. -/
def MarksC (w : World) (b off : Nat) (l : List Int) : Prop := ∀ i, i < l.length → w.cell? ⟨b, off + i, none⟩ = some (.int .i64 (l[i]?.getD 0))
def MarksAt (w : World) (v : Value) (l : List Int) : Prop :=
  l.length ≤ 8796093022208 ∧ ((l = [] ∧ ∃ a cap, v = .slice a 0 cap) ∨ ∃ b off cap, v = .slice (some ⟨b, off, none⟩) l.length cap ∧ l.length ≤ cap ∧ b < w.heap.size ∧ MarksC w b off l)
theorem MarksC.below {w w' : World} {b off : Nat} {l : List Int} {B : Nat} (h : MarksC w b off l) (hb : b < B) (hw : Below B w w') : MarksC w' b off l :=
  fun i hi => (hw.cell (p := ⟨b, _, none⟩) hb).trans (h i hi)
theorem MarksAt.below {w w' : World} {v : Value} {l : List Int} (h : MarksAt w v l) (hw : Below w.heap.size w w') : MarksAt w' v l := by
  obtain ⟨hl, h | ⟨b, off, cap, hv, hcap, hb, hc⟩⟩ := h
  · exact ⟨hl, .inl h⟩
  · exact ⟨hl, .inr ⟨b, off, cap, hv, hcap, Nat.lt_of_lt_of_le hb hw.size, hc.below hb hw⟩⟩
theorem MarksAt.belowB {w w' : World} {v : Value} {l : List Int} {B : Nat} (h : MarksAt w v l) (hB : ∀ k, v.ownBlock = some k → k < B) (hw : Below B w w') (hs : w.heap.size ≤ w'.heap.size) : MarksAt w' v l := by
  obtain ⟨hl, h | ⟨b, off, cap, rfl, hcap, hb, hc⟩⟩ := h
  · exact ⟨hl, .inl h⟩
  · exact ⟨hl, .inr ⟨b, off, cap, rfl, hcap, Nat.lt_of_lt_of_le hb hs, hc.below (hB b rfl) hw⟩⟩
theorem MarksAt.alloc {w : World} {v : Value} {l : List Int} (h : MarksAt w v l) (o : Obj) : MarksAt (w.alloc o) v l := h.below ((Below.refl _ _).alloc (Nat.le_refl _) _)
theorem MarksAt.drew {w : World} {v : Value} {l : List Int} (h : MarksAt w v l) : MarksAt w.drew v l := h.below (Below.refl _ _).drew
def PlacedM (w : World) (a : Option Addr) (l : List Int) : Prop :=
  ∀ i, i < l.length → ∃ b off, a = some ⟨b, off, none⟩ ∧ b < w.heap.size ∧ w.cell? ⟨b, off + i, none⟩ = some (.int .i64 (l[i]?.getD 0))
theorem MarksAt.placed {w : World} {v : Value} {l : List Int} (h : MarksAt w v l) : ∃ a cap, v = .slice a l.length cap ∧ l.length ≤ 8796093022208 ∧ PlacedM w a l := by
  obtain ⟨hl, ⟨rfl, a, cap, rfl⟩ | ⟨b, off, cap, rfl, hcap, hb, hc⟩⟩ := h
  · exact ⟨a, cap, rfl, by simp, fun i hi => by simp at hi⟩
  · exact ⟨_, cap, rfl, hl, fun i hi => ⟨b, off, rfl, hb, hc i hi⟩⟩
theorem marksAt_nil (w : World) (a : Option Addr) (cap : Nat) : MarksAt w (.slice a 0 cap) [] := ⟨by simp, .inl ⟨rfl, a, cap, rfl⟩⟩
/-- The pieces of an old fraction: whether each is taken away, and its marks. -/
def PiecesC (w : World) (b off : Nat) (l : List (Bool × List Int)) : Prop :=
  ∀ i, i < l.length → w.cell? ⟨b, off + i * 2, none⟩ = some (.bool (l[i]?.getD (false, [])).1) ∧ ∃ vm, w.cell? ⟨b, off + i * 2 + 1, none⟩ = some vm ∧ MarksAt w vm (l[i]?.getD (false, [])).2
def PiecesAt (w : World) (v : Value) (l : List (Bool × List Int)) : Prop :=
  l.length ≤ 8796093022208 ∧ ((l = [] ∧ ∃ a cap, v = .slice a 0 cap) ∨ ∃ b off cap, v = .slice (some ⟨b, off, none⟩) l.length cap ∧ l.length ≤ cap ∧ b < w.heap.size ∧ PiecesC w b off l)
theorem PiecesC.below {w w' : World} {b off : Nat} {l : List (Bool × List Int)} (h : PiecesC w b off l) (hb : b < w.heap.size) (hw : Below w.heap.size w w') : PiecesC w' b off l :=
  fun i hi => ⟨(hw.cell (p := ⟨b, _, none⟩) hb).trans (h i hi).1, by
    obtain ⟨vm, h1, h2⟩ := (h i hi).2
    exact ⟨vm, (hw.cell (p := ⟨b, _, none⟩) hb).trans h1, h2.below hw⟩⟩
theorem PiecesAt.below {w w' : World} {v : Value} {l : List (Bool × List Int)} (h : PiecesAt w v l) (hw : Below w.heap.size w w') : PiecesAt w' v l := by
  obtain ⟨hl, h | ⟨b, off, cap, hv, hcap, hb, hc⟩⟩ := h
  · exact ⟨hl, .inl h⟩
  · exact ⟨hl, .inr ⟨b, off, cap, hv, hcap, Nat.lt_of_lt_of_le hb hw.size, hc.below hb hw⟩⟩
theorem PiecesAt.alloc {w : World} {v : Value} {l : List (Bool × List Int)} (h : PiecesAt w v l) (o : Obj) : PiecesAt (w.alloc o) v l := h.below ((Below.refl _ _).alloc (Nat.le_refl _) _)
theorem PiecesAt.drew {w : World} {v : Value} {l : List (Bool × List Int)} (h : PiecesAt w v l) : PiecesAt w.drew v l := h.below (Below.refl _ _).drew
def PlacedP (w : World) (a : Option Addr) (l : List (Bool × List Int)) : Prop :=
  ∀ i, i < l.length → ∃ b off, a = some ⟨b, off, none⟩ ∧ b < w.heap.size ∧ w.cell? ⟨b, off + i * 2, none⟩ = some (.bool (l[i]?.getD (false, [])).1) ∧ ∃ vm, w.cell? ⟨b, off + i * 2 + 1, none⟩ = some vm ∧ MarksAt w vm (l[i]?.getD (false, [])).2
theorem PiecesAt.placed {w : World} {v : Value} {l : List (Bool × List Int)} (h : PiecesAt w v l) : ∃ a cap, v = .slice a l.length cap ∧ l.length ≤ 8796093022208 ∧ PlacedP w a l := by
  obtain ⟨hl, ⟨rfl, a, cap, rfl⟩ | ⟨b, off, cap, rfl, hcap, hb, hc⟩⟩ := h
  · exact ⟨a, cap, rfl, by simp, fun i hi => by simp at hi⟩
  · exact ⟨_, cap, rfl, hl, fun i hi => ⟨b, off, rfl, hb, hc i hi⟩⟩
theorem piecesAt_nil (w : World) (a : Option Addr) (cap : Nat) : PiecesAt w (.slice a 0 cap) [] := ⟨by simp, .inl ⟨rfl, a, cap, rfl⟩⟩
theorem PlacedM.below {w w' : World} {a : Option Addr} {l : List Int} (h : PlacedM w a l) (hw : Below w.heap.size w w') : PlacedM w' a l := fun i hi => by
  obtain ⟨b, off, e, hb, hc⟩ := h i hi
  exact ⟨b, off, e, Nat.lt_of_lt_of_le hb hw.size, (hw.cell (p := ⟨b, _, none⟩) hb).trans hc⟩
theorem PlacedP.below {w w' : World} {a : Option Addr} {l : List (Bool × List Int)} (h : PlacedP w a l) (hw : Below w.heap.size w w') : PlacedP w' a l := fun i hi => by
  obtain ⟨b, off, e, hb, hc, vm, h1, h2⟩ := h i hi
  exact ⟨b, off, e, Nat.lt_of_lt_of_le hb hw.size, (hw.cell (p := ⟨b, _, none⟩) hb).trans hc, vm, (hw.cell (p := ⟨b, _, none⟩) hb).trans h1, h2.below hw⟩
end Go.Proofs.YtkjclafbpocabaaGreatDoor

/-! ## R2 -/
namespace Go.Proofs.YtkjclafbpocabaaGreatDoor
open Go.RowKit Go.Maps
/-- Numbers that a slice holds. -/
abbrev NumsL := List (Int × List (Int × Int))
def NumsC (w : World) (b off : Nat) (l : NumsL) : Prop :=
  ∀ i, i < l.length → w.cell? ⟨b, off + i * 2, none⟩ = some (.int .i64 (l[i]?.getD (0, [])).1) ∧ ∃ vt, w.cell? ⟨b, off + i * 2 + 1, none⟩ = some vt ∧ TermsAt w vt (l[i]?.getD (0, [])).2
def NumsAt (w : World) (v : Value) (l : NumsL) : Prop :=
  ∃ b off cap, v = .slice (some ⟨b, off, none⟩) l.length cap ∧ l.length ≤ cap ∧ l.length ≤ 1000 ∧ b < w.heap.size ∧ NumsC w b off l
theorem NumsAt.below {w w' : World} {v : Value} {l : NumsL} (h : NumsAt w v l) (hw : Below w.heap.size w w') : NumsAt w' v l := by
  obtain ⟨b, off, cap, hv, hcap, hl, hb, hc⟩ := h
  refine ⟨b, off, cap, hv, hcap, hl, Nat.lt_of_lt_of_le hb hw.size, fun i hi => ⟨(hw.cell (p := ⟨b, _, none⟩) hb).trans (hc i hi).1, ?_⟩⟩
  obtain ⟨vt, h1, h2⟩ := (hc i hi).2
  exact ⟨vt, (hw.cell (p := ⟨b, _, none⟩) hb).trans h1, h2.below hw⟩
def isNumF (x : Int × List (Int × Int)) : Bool := validF x.1 x.2
theorem allN_take_succ {α : Type} (z : α) (p : α → Bool) (l : List α) (k : Nat) (h : k < l.length) : (l.take (k + 1)).all p = ((l.take k).all p && p (l[k]?.getD z)) := by
  rw [List.take_succ_eq_append_getElem h, List.all_append]; simp [h]
theorem allN_not {α : Type} (z : α) (p : α → Bool) (l : List α) (k : Nat) (h : k < l.length) (hp : p (l[k]?.getD z) = false) : l.all p = false := by
  rw [List.all_eq_false]; exact ⟨l[k], List.getElem_mem h, by simp [h] at hp; simp [hp]⟩
theorem notNumber (bx : Nat) (d : Int) (v : Value) (l : List (Int × Int)) (w : World) (h : TermsAt w v l) (hb : w.cell? ⟨bx, 0, none⟩ = some (.func (.func 144) #[] #[])) (hbx : bx < w.heap.size) :
    Calls Tryz.prog 196 #[.agg #[.int .i64 d, v], .pointer (some ⟨bx, 0, none⟩)] w (AnsB (!validF d l) w) := by
  have HT := Lib.hid h
  clear h
  have BB : Hid (Below w.heap.size w (w.alloc (.cells #[.int .i64 d, v] 34))) := Lib.hid ((Below.refl _ _).alloc (Nat.le_refl _) _)
  have hc2 := (BB.out.cell (p := ⟨bx, 0, none⟩) hbx).trans hb
  go_enter Tryz.func196, Tryz.ntmps196
  go_wp2_with fail
  refine (isNumber_any d v l _ (HT.out.below BB.out)).mono ?_
  rintro e w2 ⟨rfl, hb2⟩
  have HB := Lib.hid (BB.out.trans (hb2.mono BB.out.size))
  clear hb2
  go_wp2
  go_ret
  exact ⟨rfl, HB.out⟩
set_option maxHeartbeats 1000000 in
theorem index_num (bx : Nat) (v : Value) (l : NumsL) (w : World) (h : NumsAt w v l) (hb : w.cell? ⟨bx, 0, none⟩ = some (.func (.func 144) #[] #[])) (hbx : bx < w.heap.size) :
    Calls Tryz.prog 227 #[v, .func (.func 196) #[] #[.pointer (some ⟨bx, 0, none⟩)]] w fun e w' => ∃ k : Int, e = .returned (.int .i64 k) ∧ Hid (0 ≤ k ↔ l.all isNumF = false) ∧ Below w.heap.size w w' := by
  obtain ⟨b, off, cap, rfl, hcap, hl, hbb, hc⟩ := h
  have HC := Lib.hid hc
  have HBX := Lib.hid hb
  clear hc hb
  go_enter Tryz.func227, Tryz.ntmps227
  go_wp2
  go_loopw [5, 8] (fun _ i wr => ∃ k : Nat, k ≤ l.length ∧ i = .int .i64 k ∧ Hid ((l.take k).all isNumF = true) ∧ Hid (Below w.heap.size w wr)) (fun _ i _ => l.length - (intOf i).toNat)
  case atStart => exact ⟨0, Nat.zero_le _, rfl, Lib.hid (by simp), Lib.hid (Below.refl _ _)⟩
  case round =>
    obtain ⟨k, hk, rfl, HA, HB⟩ := hrel
    by_cases hlt : k < l.length
    · obtain ⟨c1, vt, c2, ht⟩ := HC.out k hlt
      have c1 := (HB.out.cell (p := ⟨b, _, none⟩) hbb).trans c1
      have c2 := (HB.out.cell (p := ⟨b, _, none⟩) hbb).trans c2
      have has := allN_take_succ (0, []) isNumF l k hlt
      have hno := allN_not (0, []) isNumF l k hlt
      obtain ⟨⟨d, t⟩, hel⟩ : ∃ t, l[k]?.getD (0, []) = t := ⟨_, rfl⟩
      rw [hel] at c1 ht has hno
      simp only at c1 ht
      have HT := Lib.hid (ht.below HB.out)
      have HAS := Lib.hid has
      have HNO := Lib.hid hno
      have hbx2 := (HB.out.cell (p := ⟨bx, 0, none⟩) hbx).trans HBX.out
      have HBX2 := Lib.hid hbx2
      have hsz : bx < wr.heap.size := Nat.lt_of_lt_of_le hbx HB.out.size
      clear hel has hno ht hbx2
      go_wp2_with fail
      refine (notNumber bx d vt t _ HT.out HBX2.out hsz).mono ?_
      rintro e w2 ⟨rfl, hb2⟩
      have HB2 := Lib.hid (HB.out.trans (hb2.mono HB.out.size))
      clear hb2
      cases hp : validF d t
      · have HP := Lib.hid (HNO.out hp)
        clear hp
        go_wp2
        go_ret
        exact ⟨(k : Int), rfl, Lib.hid ⟨fun _ => HP.out, fun _ => by omega⟩, HB2.out⟩
      · have HP := Lib.hid hp
        clear hp
        go_wp2
        go_roundw
        case rel => exact ⟨k + 1, by omega, by go_num, Lib.hid (by rw [HAS.out, HA.out]; exact HP.out), HB2⟩
        case measure => simp [intOf]; omega
    · have hke : k = l.length := by omega
      have HA2 : Hid (l.all isNumF = true) := Lib.hid (by have := HA.out; rwa [hke, List.take_length] at this)
      clear HA hke
      go_wp2
      go_ret
      exact ⟨-1, rfl, Lib.hid ⟨fun h => by omega, fun h => by rw [HA2.out] at h; cases h⟩, HB.out⟩
theorem contains_num (bx : Nat) (v : Value) (l : NumsL) (w : World) (h : NumsAt w v l) (hb : w.cell? ⟨bx, 0, none⟩ = some (.func (.func 144) #[] #[])) (hbx : bx < w.heap.size) :
    Calls Tryz.prog 195 #[v, .func (.func 196) #[] #[.pointer (some ⟨bx, 0, none⟩)]] w (AnsB (!l.all isNumF) w) := by
  have hi := index_num bx v l w h hb hbx
  obtain ⟨b, off, cap, rfl, _⟩ := h
  have HI := Lib.hid hi
  clear hi hb
  go_enter Tryz.func195, Tryz.ntmps195
  go_wp2_with fail
  refine HI.out.mono ?_
  rintro e w2 ⟨k, rfl, hk, hb2⟩
  have HB2 := Lib.hid hb2
  clear hb2
  by_cases hk0 : 0 ≤ k
  · have HA := Lib.hid (hk.out.1 hk0)
    clear hk
    go_wp2
    go_ret
    exact ⟨ret_bool (by rw [HA.out]; simp; try omega), HB2.out⟩
  · have HA : Hid (l.all isNumF = true) := Lib.hid (by cases h : l.all isNumF with | true => rfl | false => exact absurd (hk.out.2 h) hk0)
    clear hk
    go_wp2
    go_ret
    exact ⟨ret_bool (by rw [HA.out]; simp; try omega), HB2.out⟩
theorem every_num (v : Value) (l : NumsL) (w : World) (h : NumsAt w v l) :
    Calls Tryz.prog 143 #[.func (.func 144) #[] #[], v] w (AnsB (l.all isNumF) w) := by
  have BB : Hid (Below w.heap.size w (w.alloc (.cells #[.func (.func 144) #[] #[]] 119))) := Lib.hid ((Below.refl _ _).alloc (Nat.le_refl _) _)
  have hnew := (cell_new1 w (.func (.func 144) #[] #[]) 119).1
  have hc := contains_num w.heap.size v l _ (h.below BB.out) hnew (by simp)
  obtain ⟨b, off, cap, rfl, _⟩ := h
  have HC := Lib.hid hc
  clear hc hnew
  go_enter Tryz.func143, Tryz.ntmps143
  go_wp2_with fail
  refine HC.out.mono ?_
  rintro e w2 ⟨rfl, hb2⟩
  have HB2 := Lib.hid (BB.out.trans (hb2.mono BB.out.size))
  clear hb2
  go_wp2
  go_ret
  exact ⟨ret_bool (by simp), HB2.out⟩
end Go.Proofs.YtkjclafbpocabaaGreatDoor
