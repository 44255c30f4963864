/-
  Contracts of the program's own functions (and their plain mathematics), on the way to the law: each for all arguments that its hypotheses let.
-/
import Derived.Test.YtkjclafbpocabaaGreatDoorH8
import Derived.WalkKit
import Derived.WalkSpells
import Derived.WalkLawsBesides
import Derived.Deep.QuietTactic
import Derived.BigQuiet
import Derived.Lib.Hide
import Derived.WalkSmall
import Derived.Maps.OwnSet
import Derived.Maps.RangeWalk
import Derived.Deep.RegionWith
import Derived.Deep.RegionHeld3
import Derived.Deep.DrawnRows
import Derived.Deep.DeepCutAuto
import Derived.OneCell
import Derived.KernelRfl
import Derived.Laws.StructEq
import Derived.StillTailTactics
import Derived.Laws.Externs
import Derived.RangeFuncBox
import Derived.Test.YtkjclafbpocabaaGreatDoorPlain
import Derived.Test.YtkjclafbpocabaaGreatDoorG30
set_option linter.unusedSimpArgs false
set_option linter.unusedVariables false

/-! ## ZC14 -/
namespace Go.Proofs.YtkjclafbpocabaaGreatDoor
open Go.RowKit Go.Maps Go.Shelf Go.Sort
/-- What Chain returns. -/
inductive ChainR (n : Int) : Nat → Int × PiecesL → Int × PiecesL → Prop
  | zero (o : Int × PiecesL) : ChainR n 0 o o
  | stop {k : Nat} {o : Int × PiecesL} {r : (Int × PiecesL) × Int} (h : ExtTo o n r) (he : r.2 ≠ 0) : ChainR n (k + 1) o o
  | step {k : Nat} {o o' : Int × PiecesL} {r : (Int × PiecesL) × Int} (h : ExtTo o n r) (he : r.2 = 0) (t : ChainR n k r.1 o') : ChainR n (k + 1) o o'
def ChainTo (o : Int × PiecesL) (n : Int) (most : Int) (r : (Int × PiecesL) × Int) : Prop :=
  if oldF o = false then r = ((0, []), 2) else if inB n 1 1000 = false ∨ inB most 0 8 = false then r = ((0, []), 3) else ∃ o', ChainR n most.toNat o o' ∧ r = (o', 0)
def ChainedTo (o : Int × PiecesL) (n most : Int) (w : World) (e : Ending) (w' : World) : Prop :=
  ∃ (r : (Int × PiecesL) × Int) (ms : List Value) (v : Value), ChainTo o n most r ∧ e = .returned (.tuple #[.agg #[.int .i64 r.1.1, v], .int .i64 r.2]) ∧ RowP w' w.heap.size v r.1.2 ms ∧ MarksIn w' r.1.2 ms (fun k => w.heap.size ≤ k) ∧ r.1.2.length ≤ 100 ∧ Below w.heap.size w w'
set_option maxRecDepth 100000 in
set_option maxHeartbeats 2000000 in
theorem chain_old (hsort : Hid SortC) (n N most : Int) (v : Value) (ps : PiecesL) (w : World) (h : PiecesAtz w v ps) : Calls Tryz.prog 32 #[.agg #[.int .i64 n, v], .int .i64 N, .int .i64 most] w (ChainedTo (n, ps) N most w) := by
  obtain ⟨a, cap, rfl, _, _⟩ := h.placed
  have W2 : Below w.heap.size w ((w.alloc (.cells #[.int .i64 n, .slice a ps.length cap] 24)).alloc (.cells #[.int .i64 0, .slice none 0 0] 24)) := ((Below.refl _ w).alloc (Nat.le_refl _) _).alloc (by simp) _
  have X := (Two.new w (.int .i64 n) (.slice a ps.length cap) 24).alloc (.cells #[.int .i64 0, .slice none 0 0] 24)
  have R : Two ((w.alloc (.cells #[.int .i64 n, .slice a ps.length cap] 24)).alloc (.cells #[.int .i64 0, .slice none 0 0] 24)) (w.heap.size + 1) (.int .i64 0) (.slice none 0 0) 24 := by
    have := Two.new (w.alloc (.cells #[.int .i64 n, .slice a ps.length cap] 24)) (.int .i64 0) (.slice none 0 0) 24
    simpa using this
  have P := h.below W2
  obtain ⟨W1, hW1⟩ : ∃ W1, (w.alloc (.cells #[.int .i64 n, .slice a ps.length cap] 24)).alloc (.cells #[.int .i64 0, .slice none 0 0] 24) = W1 := ⟨_, rfl⟩
  rw [hW1] at W2 X R P
  have x0 := X.c0
  have x1 := X.c1
  have HX := Lib.hid X
  have HR := Lib.hid R
  have HB := Lib.hid W2
  have HP := Lib.hid P
  have HV := Lib.hid (valid_old n _ ps _ P)
  clear h X R W2 P
  go_enter Tryz.func32, Tryz.ntmps32
  go_wp2_with fail
  clear hW1
  refine HV.out.mono ?_
  rintro e w2 ⟨rfl, hb2⟩
  have HX2 := Lib.hid (HX.out.below hb2 HX.out.lt)
  have HR2 := Lib.hid (HR.out.below hb2 HR.out.lt)
  have HB2 := Lib.hid (HB.out.trans (hb2.mono HB.out.size))
  have HP2 := Lib.hid (HP.out.below hb2)
  clear hb2 HX HR HB HP HV x0 x1
  cases ho : oldF (n, ps)
  · have HE : Hid (ChainTo (n, ps) N most ((0, []), 2)) := Lib.hid (by unfold ChainTo; rw [if_pos ho])
    have r0 := HR2.out.c0
    have r1 := HR2.out.c1
    have f0 := HR2.out.fr (i := 0)
    have f1 := HR2.out.fr (i := 1)
    clear ho
    go_wp2
    obtain ⟨d0, d1, d2, hg⟩ := two_after HR2.out (.int .i64 0) (.slice none 0 0) rfl
    refine bodyPost_ret (v := .tuple #[.agg #[.int .i64 0, .slice none 0 0], .int .i64 2]) ?_ rfl ?_
    · simp [results, Tryz.results32, go_sem, d0, d1, d2]
    · exact ⟨_, [], _, HE.out, rfl, rowP_nil _ _, fun i hi => by simp at hi, by simp, HB2.out.grown hg HB2.out.size (by intro k hk; cases hk; omega)⟩
  · have HO := Lib.hid ho
    have hok := (oldF_ok ho).2
    have HL8 := Lib.hid hok.1
    have HOK := Lib.hid hok.2
    clear ho hok
    have hbad : Hid (inB N 1 1000 = false ∨ inB most 0 8 = false → ChainTo (n, ps) N most ((0, []), 3)) := Lib.hid (fun hh => by unfold ChainTo; rw [if_neg (by rw [HO.out]; simp), if_pos hh])
    have r0 := HR2.out.c0
    have r1 := HR2.out.c1
    have f0 := HR2.out.fr (i := 0)
    have f1 := HR2.out.fr (i := 1)
    go_wp2_with fail
    refine (cwithin_any N 1 1000 _).mono ?_
    rintro e w3 ⟨rfl, rfl⟩
    cases hi : inB N 1 1000
    · have HE := Lib.hid (hbad.out (.inl hi))
      clear hi
      go_wp2
      obtain ⟨d0, d1, d2, hg⟩ := two_after HR2.out (.int .i64 0) (.slice none 0 0) rfl
      refine bodyPost_ret (v := .tuple #[.agg #[.int .i64 0, .slice none 0 0], .int .i64 3]) ?_ rfl ?_
      · simp [results, Tryz.results32, go_sem, d0, d1, d2]
      · exact ⟨_, [], _, HE.out, rfl, rowP_nil _ _, fun i hi => by simp at hi, by simp, HB2.out.grown hg HB2.out.size (by intro k hk; cases hk; omega)⟩
    · have HI := Lib.hid hi
      clear hi
      go_wp2_with fail
      refine (cwithin_any most 0 8 _).mono ?_
      rintro e w4 ⟨rfl, rfl⟩
      cases hj : inB most 0 8
      · have HE := Lib.hid (hbad.out (.inr hj))
        clear hj
        go_wp2
        obtain ⟨d0, d1, d2, hg⟩ := two_after HR2.out (.int .i64 0) (.slice none 0 0) rfl
        refine bodyPost_ret (v := .tuple #[.agg #[.int .i64 0, .slice none 0 0], .int .i64 3]) ?_ rfl ?_
        · simp [results, Tryz.results32, go_sem, d0, d1, d2]
        · exact ⟨_, [], _, HE.out, rfl, rowP_nil _ _, fun i hi => by simp at hi, by simp, HB2.out.grown hg HB2.out.size (by intro k hk; cases hk; omega)⟩
      · have hm : 0 ≤ most ∧ most ≤ 8 := by unfold inB at hj; simp only [Bool.and_eq_true, decide_eq_true_eq] at hj; exact hj
        obtain ⟨K, rfl⟩ : ∃ K : Nat, most = K := ⟨most.toNat, by omega⟩
        have hK : K ≤ 8 := by omega
        have HGO : Hid (∀ o', ChainR N K (n, ps) o' → ChainTo (n, ps) N K (o', 0)) := Lib.hid (fun o' hh => by unfold ChainTo; rw [if_neg (by rw [HO.out]; simp), if_neg (by rw [HI.out, hj]; simp)]; exact ⟨o', by simpa using hh, rfl⟩)
        have hl8 := HL8.out
        have HCO := Lib.hid (copied_old n _ ps _ HP2.out (by omega) HOK.out)
        have x0 := HX2.out.c0
        have x1 := HX2.out.c1
        clear hj hm hl8 r0 r1 f0 f1 hbad
        go_wp2_with fail
        refine HCO.out.mono ?_
        rintro e w5 ⟨ms, v5, rfl, hrow5, hmi5, hb5⟩
        obtain ⟨a5, c5, rfl, _⟩ := hrow5.shape
        have hs2 := HR2.out.lt
        have hs5 := hb5.size
        have R5 := (HR2.out.below hb5 HR2.out.lt).alloc (.cells #[.int .i64 n, .slice a5 ps.length c5] 24)
        have B5' := HB2.out.trans (hb5.mono HB2.out.size)
        have B5 := B5'.alloc B5'.size (.cells #[.int .i64 n, .slice a5 ps.length c5] 24)
        have L5 := Two.new w5 (.int .i64 n) (.slice a5 ps.length c5) 24
        have W5 := (hrow5.kept (World.grownBy_alloc w5 (.cells #[.int .i64 n, .slice a5 ps.length c5] 24) none) (by cases hv : (Value.slice a5 ps.length c5).ownBlock with | none => exact .inl rfl | some q => right; intro e; cases e)).low (base' := w.heap.size + 2) (by omega)
        have M5 := (hmi5.kept (World.grownBy_alloc w5 (.cells #[.int .i64 n, .slice a5 ps.length c5] 24) none) (fun q _ e => by cases e)).mono (Q := fun k => w.heap.size + 2 ≤ k ∧ k ≠ w5.heap.size) (fun k hk => by omega)
        have hown5 : ∀ q, (Value.slice a5 ps.length c5).ownBlock = some q → q ≠ w5.heap.size := fun q hq => by have := hrow5.lt q hq; omega
        have HR5 := Lib.hid R5
        have HB5 := Lib.hid B5
        have HL5 := Lib.hid L5
        have HW5 := Lib.hid W5
        have HM5 := Lib.hid M5
        have HO5 := Lib.hid hown5
        have HLB : Hid (w.heap.size + 2 ≤ w5.heap.size) := Lib.hid (by omega)
        clear R5 B5' B5 L5 W5 M5 hown5 hrow5 hmi5 hb5 hs2 hs5 HX2 HR2 HB2 HP2 x0 x1 HCO
        go_wp2
        go_loopw [29] (fun i wr => ∃ (k : Nat) (n1 : Int) (ps1 : PiecesL) (ms : List Value) (v1 : Value), k ≤ K ∧ i = .int .i64 k ∧ Hid (Two wr (w.heap.size + 1) (.int .i64 0) (.slice none 0 0) 24) ∧ Hid (Two wr w5.heap.size (.int .i64 n1) v1 24) ∧ Hid (RowP wr (w.heap.size + 2) v1 ps1 ms) ∧ Hid (MarksIn wr ps1 ms (fun k => w.heap.size + 2 ≤ k ∧ k ≠ w5.heap.size)) ∧ Hid (∀ q, v1.ownBlock = some q → q ≠ w5.heap.size) ∧ ps1.length ≤ 100 ∧ Hid (∀ o', ChainR N (K - k) (n1, ps1) o' → ChainR N K (n, ps) o') ∧ Hid (Below w.heap.size w wr)) (fun i _ => K - (intOf i).toNat)
        case atStart => exact ⟨0, n, ps, ms, _, Nat.zero_le _, rfl, HR5, HL5, HW5, HM5, HO5, by have := HL8.out; omega, Lib.hid (fun o' hh => by simpa using hh), HB5⟩
        case round =>
          obtain ⟨k, n1, ps1, ms, v1, hk, rfl, HR, HL, HW, HM, HV1, hpl, HC, HB⟩ := hrel
          clear HR5 HB5 HL5 HW5 HM5 HO5
          obtain ⟨a1, c1, rfl, _⟩ := HW.out.shape
          have l0 := HL.out.c0
          have l1 := HL.out.c1
          by_cases hlt : k < K
          · have HEX := Lib.hid (extend_old hsort n1 N _ ps1 wr (HW.out.at HM.out (by omega)))
            go_wp2_with fail
            refine HEX.out.mono ?_
            rintro e w6 ⟨⟨⟨n6, ps6⟩, e6⟩, ms6, v6, he6, rfl, hrow6, hmi6, hpl6, hb6⟩
            obtain ⟨a6, c6, rfl, _⟩ := hrow6.shape
            simp only at hrow6 hmi6 hpl6
            dsimp only
            have hlb := HLB.out
            have hs6 := hb6.size
            have hll := HL.out.lt
            have R7 := (HR.out.below hb6 HR.out.lt).alloc (.cells #[.int .i64 n6, .slice a6 ps6.length c6] 24)
            have L7 := (HL.out.below hb6 HL.out.lt).alloc (.cells #[.int .i64 n6, .slice a6 ps6.length c6] 24)
            have B7' := HB.out.trans (hb6.mono HB.out.size)
            have B7 := B7'.alloc B7'.size (.cells #[.int .i64 n6, .slice a6 ps6.length c6] 24)
            have N7 := Two.new w6 (.int .i64 n6) (.slice a6 ps6.length c6) 24
            have HRz := Lib.hid R7
            have HLz := Lib.hid L7
            have HBz := Lib.hid B7
            have HNz := Lib.hid N7
            have l0' := L7.c0
            have l1' := L7.c1
            by_cases he : e6 = 0
            · subst he
              have W7 := (hrow6.kept (World.grownBy_alloc w6 (.cells #[.int .i64 n6, .slice a6 ps6.length c6] 24) none) (by cases hv : (Value.slice a6 ps6.length c6).ownBlock with | none => exact .inl rfl | some q => right; intro e; cases e)).low (base' := w.heap.size + 2) (by omega)
              have M7 := (hmi6.kept (World.grownBy_alloc w6 (.cells #[.int .i64 n6, .slice a6 ps6.length c6] 24) none) (fun q _ e => by cases e)).mono (Q := fun k => w.heap.size + 2 ≤ k ∧ k ≠ w5.heap.size) (fun k hk => by omega)
              have O7 : ∀ q, (Value.slice a6 ps6.length c6).ownBlock = some q → q ≠ w5.heap.size := fun q hq => by have := hrow6.lt q hq; omega
              have HW7 := Lib.hid W7
              have HM7 := Lib.hid M7
              have HO7 := Lib.hid O7
              have HC7 : Hid (∀ o', ChainR N (K - (k + 1)) (n6, ps6) o' → ChainR N K (n, ps) o') := Lib.hid (fun o' hh => HC.out o' (by rw [show K - k = (K - (k + 1)) + 1 by omega]; exact .step he6 rfl hh))
              have hpl7 : ps6.length ≤ 100 := hpl6
              have lf0 := L7.fr (i := 0)
              have lf1 := L7.fr (i := 1)
              have n0 := N7.c0
              have n1' := N7.c1
              clear R7 L7 B7' B7 N7 W7 M7 O7 hrow6 hmi6 hb6 he6 HEX l0 l1 hs6 hlb
              go_wp2
              have hgd := (two_after HLz.out (.int .i64 n6) (.slice a6 ps6.length c6) rfl).2.2.2
              have hlb := HLB.out
              have L8 := (HLz.out.set0 (.int .i64 n6)).set1 (.slice a6 ps6.length c6) rfl
              have R8 := HRz.out.kept hgd (fun e => by have h : w.heap.size + 1 = w5.heap.size := Option.some.inj e; omega)
              have W8 := HW7.out.kept hgd (by
                cases hv : (Value.slice a6 ps6.length c6).ownBlock with
                | none => exact .inl rfl
                | some q => right; have h5 := HO7.out q hv; intro e; have h : q = w5.heap.size := Option.some.inj e; omega)
              have M8 := HM7.out.kept hgd (fun q hq e => by have h : q = w5.heap.size := Option.some.inj e; omega)
              have B8 := HBz.out.grown hgd HBz.out.size (fun q hq => by have h : w5.heap.size = q := Option.some.inj hq; omega)
              go_roundw
              case rel => exact ⟨k + 1, n6, ps6, ms6, _, by omega, by go_num, Lib.hid R8, Lib.hid L8, Lib.hid W8, Lib.hid M8, HO7, hpl7, HC7, Lib.hid B8⟩
              case measure => simp [intOf]; omega
            · have HE : Hid (ChainR N K (n, ps) (n1, ps1)) := Lib.hid (HC.out _ (by rw [show K - k = (K - (k + 1)) + 1 by omega]; exact .stop he6 he))
              have HWz := Lib.hid ((HW.out.kept (below_grown2 hb6 none) (by cases hv : (Value.slice a1 ps1.length c1).ownBlock with | none => exact .inl rfl | some q => right; intro e; cases e)).kept (World.grownBy_alloc w6 (.cells #[.int .i64 n6, .slice a6 ps6.length c6] 24) none) (by cases hv : (Value.slice a1 ps1.length c1).ownBlock with | none => exact .inl rfl | some q => right; intro e; cases e))
              have HMz := Lib.hid ((HM.out.kept (below_grown2 hb6 none) (fun q _ e => by cases e)).kept (World.grownBy_alloc w6 (.cells #[.int .i64 n6, .slice a6 ps6.length c6] 24) none) (fun q _ e => by cases e))
              clear R7 L7 B7' B7 N7 hrow6 hmi6 hb6 he6 HEX l0 l1 hs6 hlb
              have hlb := HLB.out
              have r0 := HRz.out.c0
              have r1 := HRz.out.c1
              have f0 := HRz.out.fr (i := 0)
              have f1 := HRz.out.fr (i := 1)
              go_wp2
              have hgd := (two_after HRz.out (.int .i64 n1) (.slice a1 ps1.length c1) rfl).2.2.2
              have X4 := (HRz.out.set0 (.int .i64 n1)).set1 (.slice a1 ps1.length c1) rfl
              have d0 := X4.c0
              have d1 := X4.c1
              have hrl := HWz.out.lt
              refine bodyPost_ret (v := .tuple #[.agg #[.int .i64 n1, .slice a1 ps1.length c1], .int .i64 0]) ?_ rfl ?_
              · simp [results, Tryz.results32, go_sem, d0, d1]
              · refine ⟨((n1, ps1), 0), _, _, HGO.out _ HE.out, rfl, (HWz.out.kept hgd ?_).low (by omega), (HMz.out.kept hgd (fun q hq e => by have h : q = w.heap.size + 1 := Option.some.inj e; omega)).mono (fun q hq => by omega), hpl, HBz.out.grown hgd HBz.out.size (fun q hq => by have h : w.heap.size + 1 = q := Option.some.inj hq; omega)⟩
                cases hv : (Value.slice a1 ps1.length c1).ownBlock with
                | none => exact .inl rfl
                | some q => right; have h5 := hrl q hv; intro e; have h : q = w.heap.size + 1 := Option.some.inj e; omega
          · have hke : k = K := by omega
            have HE : Hid (ChainR N K (n, ps) (n1, ps1)) := Lib.hid (HC.out _ (by rw [hke, Nat.sub_self]; exact .zero _))
            have HRz := HR
            have HWz := HW
            have HMz := HM
            have HBz := HB
            clear hke
            have hlb := HLB.out
            have r0 := HRz.out.c0
            have r1 := HRz.out.c1
            have f0 := HRz.out.fr (i := 0)
            have f1 := HRz.out.fr (i := 1)
            go_wp2
            have hgd := (two_after HRz.out (.int .i64 n1) (.slice a1 ps1.length c1) rfl).2.2.2
            have X4 := (HRz.out.set0 (.int .i64 n1)).set1 (.slice a1 ps1.length c1) rfl
            have d0 := X4.c0
            have d1 := X4.c1
            have hrl := HWz.out.lt
            refine bodyPost_ret (v := .tuple #[.agg #[.int .i64 n1, .slice a1 ps1.length c1], .int .i64 0]) ?_ rfl ?_
            · simp [results, Tryz.results32, go_sem, d0, d1]
            · refine ⟨((n1, ps1), 0), _, _, HGO.out _ HE.out, rfl, (HWz.out.kept hgd ?_).low (by omega), (HMz.out.kept hgd (fun q hq e => by have h : q = w.heap.size + 1 := Option.some.inj e; omega)).mono (fun q hq => by omega), hpl, HBz.out.grown hgd HBz.out.size (fun q hq => by have h : w.heap.size + 1 = q := Option.some.inj hq; omega)⟩
              cases hv : (Value.slice a1 ps1.length c1).ownBlock with
              | none => exact .inl rfl
              | some q => right; have h5 := hrl q hv; intro e; have h : q = w.heap.size + 1 := Option.some.inj e; omega
end Go.Proofs.YtkjclafbpocabaaGreatDoor

/-! ## ZP3 -/
namespace Go.Proofs.YtkjclafbpocabaaGreatDoor
open Go.RowKit Go.Maps
theorem val_add_of {d e p q p' q' D : Int} {l m L : List (Int × Int)} (x : Val d l p q) (y : Val e m p' q') (z : Val D L (q' * p + 1 * q * p') (q * q')) {r : Int × List (Int × Int) × Int} (h : addF 1 d l e m r) : r = (D, L, 0) := by
  obtain ⟨vx, hq, a, rfl, ha⟩ := x
  obtain ⟨vy, hq', b, rfl, hb⟩ := y
  obtain ⟨vz, hz, c, rfl, hc⟩ := z
  refine addF_of vx vy h vz (fun r => ?_)
  rw [qL_coef, qL_coef, qL_coef]
  by_cases hr : r = 1
  · simp only [hr, if_true]
    refine cancel_r (k := q * q') (by omega) ?_
    have e1 : c * (d * e) * (q * q') = c * (q * q') * (d * e) := by grind
    have e2 : (e * a + 1 * d * b) * D * (q * q') = (e * q' * (a * q) + d * q * (b * q')) * D := by grind
    rw [e1, e2, hc, ha, hb]; grind
  · simp [hr]
theorem num_eq {r s : Int × List (Int × Int) × Int} (h1 : r.1 = s.1) (h2 : r.2.1 = s.2.1) (h3 : r.2.2 = s.2.2) : r = s := by
  obtain ⟨a, b, c⟩ := r
  obtain ⟨d, e, f⟩ := s
  simp only at h1 h2 h3
  subst h1 h2 h3
  rfl
theorem make_uniq1 {m c : Int} (hm1 : 1 ≤ m) (hm2 : m ≤ 100000) (hc1 : -100000 ≤ c) (hc2 : c ≤ 100000) {f g : Int × List (Int × Int) × Int} (h : makeF m [(c, 1)] f) (k : makeF m [(c, 1)] g) : f = g := by
  obtain ⟨f0, fv⟩ := val_make hm1 hm2 hc1 hc2 h
  obtain ⟨g0, gv⟩ := val_make hm1 hm2 hc1 hc2 k
  obtain ⟨e1, e2⟩ := val_uniq fv gv
  exact num_eq e1 e2 (f0.trans g0.symm)
theorem add_uniq1 {d e p q p' q' : Int} {l m : List (Int × Int)} (x : Val d l p q) (y : Val e m p' q') {r s : Int × List (Int × Int) × Int} (h : addF 1 d l e m r) (k : addF 1 d l e m s) : r = s := by
  rcases val_add x y h with h1 | h1
  · exact (num_eq (r := r) (s := (r.1, r.2.1, 0)) rfl rfl h1.1).trans (val_add_of x y h1.2 k).symm
  · rcases val_add x y k with k1 | k1
    · exact (val_add_of x y k1.2 h).trans (num_eq (r := (s.1, s.2.1, 0)) (s := s) rfl rfl k1.1.symm)
    · rw [h1, k1]
theorem with_det {ps : PiecesL} {x : Int × List (Int × Int)} {r : Int × List (Int × Int) × Int} (h : WithP x ps r) : ∀ {p q : Int} {s : Int × List (Int × Int) × Int}, Val x.1 x.2 p q → PiecesOk ps → WithP x ps s → r = s := by
  induction h with
  | done x => intro p q s _ _ k; cases k; rfl
  | over h =>
    intro p q s _ _ k
    cases k with
    | over _ => rfl
    | err h2 _ _ _ => omega
    | more h2 _ _ _ _ => omega
  | @err x pc ps f sm h hf ha he =>
    intro p q s hx ho k
    have hp := (ho pc (by simp)).1.prod
    have hs := signI_bd pc.1
    have hfv := (val_make hp.1 h (by omega) (by omega) hf).2
    cases k with
    | over h2 => omega
    | err h2 hf2 ha2 he2 =>
      have e1 := make_uniq1 hp.1 h (by omega) (by omega) hf hf2
      subst e1
      rw [add_uniq1 hx hfv ha ha2]
    | more h2 hf2 ha2 he2 t =>
      have e1 := make_uniq1 hp.1 h (by omega) (by omega) hf hf2
      subst e1
      rw [add_uniq1 hx hfv ha ha2] at he
      exact absurd he2 he
  | @more x pc ps f sm r h hf ha he t ih =>
    intro p q s hx ho k
    have hp := (ho pc (by simp)).1.prod
    have hs := signI_bd pc.1
    have hfv := (val_make hp.1 h (by omega) (by omega) hf).2
    cases k with
    | over h2 => omega
    | err h2 hf2 ha2 he2 =>
      have e1 := make_uniq1 hp.1 h (by omega) (by omega) hf hf2
      subst e1
      rw [add_uniq1 hx hfv ha ha2] at he
      exact absurd he he2
    | more h2 hf2 ha2 he2 t2 =>
      have e1 := make_uniq1 hp.1 h (by omega) (by omega) hf hf2
      subst e1
      have e2 := add_uniq1 hx hfv ha ha2
      subst e2
      have hv := (val_add hx hfv ha).resolve_right (fun e => by rw [e] at he; exact absurd he (by decide))
      exact ih hv.2 (fun y hy => ho y (by simp [hy])) t2
theorem value_det {n : Int} {ps : PiecesL} {r s : Int × List (Int × Int) × Int} (h : ValueTo (n, ps) r) (k : ValueTo (n, ps) s) : r = s := by
  cases ho : oldF (n, ps)
  · rw [h.1 ho, k.1 ho]
  · obtain ⟨f, hf, hw⟩ := h.2 ho
    obtain ⟨g, hg, hk⟩ := k.2 ho
    obtain ⟨h1, _, h3⟩ := oldF_ok ho
    have e := make_uniq1 (m := 1) (c := n) (by omega) (by omega) (by omega) (by omega) hf hg
    subst e
    exact with_det hw (val_make (by omega) (by omega) (by omega) (by omega) hf).2 h3 hk
theorem with_step {x : Int × List (Int × Int)} {p q D : Int} {L : List (Int × Int)} {pc : Bool × List Int} {ps : PiecesL} {r : Int × List (Int × Int) × Int} (hx : Val x.1 x.2 p q) (hp : MarksOk pc.2) (h2 : prodF pc.2 ≤ 100000) (z : Val D L (prodF pc.2 * p + 1 * q * signI pc.1) (q * prodF pc.2)) (h : WithP x (pc :: ps) r) : WithP (D, L) ps r := by
  have hp1 := hp.prod
  have hs := signI_bd pc.1
  cases h with
  | over h3 => omega
  | err h3 hf ha he =>
    have hfv := (val_make hp1.1 h3 (by omega) (by omega) hf).2
    have := val_add_of hx hfv z ha
    rw [this] at he; exact absurd rfl he
  | more h3 hf ha he t =>
    have hfv := (val_make hp1.1 h3 (by omega) (by omega) hf).2
    have := val_add_of hx hfv z ha
    rw [this] at t
    exact t
theorem with_nil {x : Int × List (Int × Int)} {r : Int × List (Int × Int) × Int} (h : WithP x [] r) : r = (x.1, x.2, 0) := by cases h; rfl
theorem qL_val {d c p q : Int} (hd1 : 1 ≤ d) (hd2 : d ≤ 100000) (hc1 : -100000 ≤ c) (hc2 : c ≤ 100000) (hg : Int.gcd d c = 1) (hq : 1 ≤ q) (e : c * q = p * d) : Val d (qL c) p q := ⟨qL_vld hd1 hd2 ⟨hc1, hc2⟩ hg, hq, c, rfl, e⟩
def co0 : Int × PiecesL := (1, [(false, [3])])
def co1 : Int × PiecesL := (1, [(false, [3]), (false, [3, 4])])
def co2 : Int × PiecesL := (1, [(false, [3]), (false, [3, 4]), (true, [3, 4, 34])])
theorem mk3 : MarksOk [3] := ⟨by decide, by decide⟩
theorem mk34 : MarksOk [3, 4] := ⟨by decide, by decide⟩
theorem mk3434 : MarksOk [3, 4, 34] := ⟨by decide, by decide⟩
theorem start_val {f : Int × List (Int × Int) × Int} (hf : makeF 1 [(1, 1)] f) : Val f.1 f.2.1 1 1 := (val_make (by omega) (by omega) (by omega) (by omega) hf).2
theorem v43 : Val 3 (qL 4) (prodF [3] * 1 + 1 * 1 * signI false) (1 * prodF [3]) := qL_val (by decide) (by decide) (by decide) (by decide) (by decide) (by decide) (by decide)
theorem v1712 : Val 12 (qL 17) (prodF [3, 4] * (prodF [3] * 1 + 1 * 1 * signI false) + 1 * (1 * prodF [3]) * signI false) ((1 * prodF [3]) * prodF [3, 4]) := qL_val (by decide) (by decide) (by decide) (by decide) (by decide) (by decide) (by decide)
theorem v577 : Val 408 (qL 577) (prodF [3, 4, 34] * (prodF [3, 4] * (prodF [3] * 1 + 1 * 1 * signI false) + 1 * (1 * prodF [3]) * signI false) + 1 * ((1 * prodF [3]) * prodF [3, 4]) * signI true) (((1 * prodF [3]) * prodF [3, 4]) * prodF [3, 4, 34]) := qL_val (by decide) (by decide) (by decide) (by decide) (by decide) (by decide) (by decide)
theorem value0 {r : Int × List (Int × Int) × Int} (h : ValueTo co0 r) : r = (3, qL 4, 0) := by
  obtain ⟨f, hf, hw⟩ := h.2 (by decide)
  have h1 := with_step (start_val hf) mk3 (by decide) v43 hw
  exact with_nil h1
theorem value1 {r : Int × List (Int × Int) × Int} (h : ValueTo co1 r) : r = (12, qL 17, 0) := by
  obtain ⟨f, hf, hw⟩ := h.2 (by decide)
  have h1 := with_step (start_val hf) mk3 (by decide) v43 hw
  have h2 := with_step (x := (3, qL 4)) v43 mk34 (by decide) v1712 h1
  exact with_nil h2
theorem value2 {r : Int × List (Int × Int) × Int} (h : ValueTo co2 r) : r = (408, qL 577, 0) := by
  obtain ⟨f, hf, hw⟩ := h.2 (by decide)
  have h1 := with_step (start_val hf) mk3 (by decide) v43 hw
  have h2 := with_step (x := (3, qL 4)) v43 mk34 (by decide) v1712 h1
  have h3 := with_step (x := (12, qL 17)) v1712 mk3434 (by decide) v577 h2
  exact with_nil h3
theorem ext_of {o : Int × PiecesL} {n δ : Int} {r : (Int × PiecesL) × Int} {x : Int × List (Int × Int) × Int} (ho : oldF o = true) (hi : inB n 1 1000 = true) (hv : ∀ y, ValueTo o y → y = x) (h0 : x.2.2 = 0) (hc : corrF x.1 (nmrF x.2.1).1 n = (δ, 0)) (hl : o.2.length ≠ 8) (hp : isPieceFz (nextPiece δ o.2) = true) (h : ExtTo o n r) : r = ((o.1, o.2 ++ [nextPiece δ o.2]), 0) := by
  unfold ExtTo at h
  rw [if_neg (by rw [ho]; simp), if_neg (by rw [hi]; simp)] at h
  obtain ⟨y, hy, h⟩ := h
  have := hv y hy
  subst this
  rcases h with h | ⟨_, δ', e', hc', h⟩
  · exact absurd h0 h.1
  · rw [hc] at hc'
    cases hc'
    rcases h with h | ⟨_, h | ⟨_, h | h⟩⟩
    · exact absurd rfl h.1
    · exact absurd h.1 hl
    · rw [hp] at h; exact absurd h.1 (by simp)
    · exact h.2
theorem ext0 {r : (Int × PiecesL) × Int} (h : ExtTo co0 2 r) : r = (co1, 0) :=
  (ext_of (δ := 12) (x := (3, qL 4, 0)) (by decide) (by decide) (fun y hy => value0 hy) rfl (by decide) (by decide) (by decide) h).trans (by decide)
theorem ext1' {r : (Int × PiecesL) × Int} (h : ExtTo co1 2 r) : r = (co2, 0) :=
  (ext_of (δ := -408) (x := (12, qL 17, 0)) (by decide) (by decide) (fun y hy => value1 hy) rfl (by decide) (by decide) (by decide) h).trans (by decide)
theorem chain2 {r : (Int × PiecesL) × Int} (h : ChainTo co0 2 2 r) : r = (co2, 0) := by
  unfold ChainTo at h
  rw [if_neg (by decide), if_neg (by decide)] at h
  obtain ⟨o', h, rfl⟩ := h
  have h2 : ChainR 2 2 co0 o' := h
  cases h2 with
  | stop he hn => have := ext0 he; subst this; exact absurd rfl hn
  | step he hn t =>
    have := ext0 he
    subst this
    cases t with
    | stop he hn => have := ext1' he; subst this; exact absurd rfl hn
    | step he hn t =>
      have := ext1' he
      subst this
      cases t
      rfl
end Go.Proofs.YtkjclafbpocabaaGreatDoor
