import Derived.Test.YtopnlcjbklmicaaK27
import Derived.Lib.MinMax
import Derived.WalkKit
import Derived.WalkSpells
import Derived.WalkLawsBesides
import Derived.Deep.QuietTactic
import Derived.BigQuiet
import Derived.Lib.Hide
import Derived.WalkSmall
import Derived.Maps.OwnSet
import Derived.Maps.RangeWalk
import Derived.Deep.RegionWith
import Derived.Deep.RegionHeld3
import Derived.Deep.DrawnRows
import Derived.Deep.DeepCutAuto
import Derived.OneCell
import Derived.KernelRfl
import Derived.Laws.StructEq
import Derived.StillTailTactics
import Derived.Laws.Externs
import Derived.RangeFuncBox
import Derived.Outline
import Derived.RangeFuncNested
import Derived.RangeFuncBound
import Derived.RangeFuncCalls
import Derived.RangeFuncLeaves
import Derived.Shelf.RegionOpen
import Derived.OwnWalkIn
import Derived.TacticsInMore
import Derived.LoopNIn
import Derived.LoopIn
import Derived.Test.YtopnlcjbklmicaaProg
namespace Go.Proofs.Ytopnlcjbklmicaa
open Go.RowKit Go.Maps Go.Shelf
set_option linter.unusedVariables false
set_option linter.unusedSimpArgs false
theorem min_fold (a b : Int) : (if b < a then b else a) = min a b := by rw [Int.min_def]; split <;> split <;> omega
theorem run_min_five {P : Program} (w : World) (ts : Array TypeId) (t : TypeId) (a b c d e : Int) :
    (Builtin.min_ ts t #[.int .i64 a, .int .i64 b, .int .i64 c, .int .i64 d, .int .i64 e]).run P w = .ok (.int .i64 (min (min (min (min a b) c) d) e)) w := by
  simp [Builtin.min_, Builtin.min2, min_fold]
/-- What becomes of a store by a change: none of what can be taken may be less than nothing. -/
def chF (r : Int × St) : St × Int :=
  if r.1 ≠ 0 then (St.zero, r.1) else if min (min (min (min r.2.wet r.2.dry) r.2.fired) r.2.laid) r.2.miss < 0 then (St.zero, 9) else (r.2, 0)
theorem But.toBelow {x y n : Nat} {A B : World} (h : But x y A B) (h0 : n ≤ A.heap.size) (h1 : n ≤ x) (h2 : n ≤ y) : Below n A B := h.below h0 h1 h2
theorem blk_set8 {W : World} {b : Nat} {T : TypeId} {v0 v1 v2 v3 v4 v5 v6 v7 : Value} (h : Blk W b #[v0, v1, v2, v3, v4, v5, v6, v7] T) (x0 x1 x2 x3 x4 x5 x6 x7 : Int) :
    Blk ((((((((W.setCell ⟨b, 0, none⟩ (.int .i64 x0)).setCell ⟨b, 1, none⟩ (.int .i64 x1)).setCell ⟨b, 2, none⟩ (.int .i64 x2)).setCell ⟨b, 3, none⟩ (.int .i64 x3)).setCell ⟨b, 4, none⟩ (.int .i64 x4)).setCell ⟨b, 5, none⟩ (.int .i64 x5)).setCell ⟨b, 6, none⟩ (.int .i64 x6)).setCell ⟨b, 7, none⟩ (.int .i64 x7)) b #[.int .i64 x0, .int .i64 x1, .int .i64 x2, .int .i64 x3, .int .i64 x4, .int .i64 x5, .int .i64 x6, .int .i64 x7] T := by
  have h8 := (((((((h.set 0 (by simp) (.int .i64 x0) rfl).set 1 (by simp) (.int .i64 x1) rfl).set 2 (by simp) (.int .i64 x2) rfl).set 3 (by simp) (.int .i64 x3) rfl).set 4 (by simp) (.int .i64 x4) rfl).set 5 (by simp) (.int .i64 x5) rfl).set 6 (by simp) (.int .i64 x6) rfl).set 7 (by simp) (.int .i64 x7) rfl
  simpa using h8
theorem below_set8 {B b : Nat} {A W : World} (h : Below B A W) (hb : B ≤ b) (x0 x1 x2 x3 x4 x5 x6 x7 : Int) : Below B A ((((((((W.setCell ⟨b, 0, none⟩ (.int .i64 x0)).setCell ⟨b, 1, none⟩ (.int .i64 x1)).setCell ⟨b, 2, none⟩ (.int .i64 x2)).setCell ⟨b, 3, none⟩ (.int .i64 x3)).setCell ⟨b, 4, none⟩ (.int .i64 x4)).setCell ⟨b, 5, none⟩ (.int .i64 x5)).setCell ⟨b, 6, none⟩ (.int .i64 x6)).setCell ⟨b, 7, none⟩ (.int .i64 x7)) :=
  (((((((h.setCell (p := ⟨b, 0, none⟩) hb _).setCell (p := ⟨b, 1, none⟩) hb _).setCell (p := ⟨b, 2, none⟩) hb _).setCell (p := ⟨b, 3, none⟩) hb _).setCell (p := ⟨b, 4, none⟩) hb _).setCell (p := ⟨b, 5, none⟩) hb _).setCell (p := ⟨b, 6, none⟩) hb _).setCell (p := ⟨b, 7, none⟩) hb _
set_option maxHeartbeats 1000000 in
theorem changed_any (F : Nat) (lb : Array Value) (s : St) (r : Int × St) (w : World) (eg : ∀ args w, (callFunc F args).run Try.prog w = .ok (.enter F args) w)
    (hc : ∀ W, Below w.heap.size w W → Blk W w.heap.size s.vals.toArray 133 → Calls Try.prog F (#[.pointer (some ⟨w.heap.size, 0, none⟩)] ++ lb) W fun e W' => e = .returned (.int .i64 r.1) ∧ Blk W' w.heap.size r.2.vals.toArray 133 ∧ But w.heap.size w.heap.size W W') :
    Calls Try.prog 101 #[.agg s.vals.toArray, .func (.func F) #[] lb] w fun e w' => e = .returned (.tuple #[.agg (chF r).1.vals.toArray, .int .i64 (chF r).2]) ∧ Below w.heap.size w w' := by
  obtain ⟨a, b, c, d, e, f, g, h⟩ := s
  obtain ⟨er, a', b', c', d', e', f', g', h'⟩ := r
  dsimp only [St.vals] at *
  have B1 := (Blk.new w #[.int .i64 a, .int .i64 b, .int .i64 c, .int .i64 d, .int .i64 e, .int .i64 f, .int .i64 g, .int .i64 h] 133).alloc (.cells #[.int .i64 0, .int .i64 0, .int .i64 0, .int .i64 0, .int .i64 0, .int .i64 0, .int .i64 0, .int .i64 0] 133)
  have R1 := Blk.newI (w.alloc (.cells #[.int .i64 a, .int .i64 b, .int .i64 c, .int .i64 d, .int .i64 e, .int .i64 f, .int .i64 g, .int .i64 h] 133)) (w.heap.size + 1) #[.int .i64 0, .int .i64 0, .int .i64 0, .int .i64 0, .int .i64 0, .int .i64 0, .int .i64 0, .int .i64 0] 133 (by simp)
  have BB := (((Below.refl _ w).alloc (Nat.le_refl _) (.cells #[.int .i64 a, .int .i64 b, .int .i64 c, .int .i64 d, .int .i64 e, .int .i64 f, .int .i64 g, .int .i64 h] 133)).alloc (by simp) (.cells #[.int .i64 0, .int .i64 0, .int .i64 0, .int .i64 0, .int .i64 0, .int .i64 0, .int .i64 0, .int .i64 0] 133))
  have HC := Lib.hid (hc _ BB B1)
  have HR1 := Lib.hid R1
  have HBB := Lib.hid BB
  have HMN := @run_min_five Try.prog
  clear B1 R1 BB hc
  go_enter Try.func101, Try.ntmps101
  go_wp2_with fail
  refine HC.out.mono ?_
  rintro x W2 ⟨rfl, hb2, hbut⟩
  have hs1 : ((w.alloc (.cells #[.int .i64 a, .int .i64 b, .int .i64 c, .int .i64 d, .int .i64 e, .int .i64 f, .int .i64 g, .int .i64 h] 133)).alloc (.cells #[.int .i64 0, .int .i64 0, .int .i64 0, .int .i64 0, .int .i64 0, .int .i64 0, .int .i64 0, .int .i64 0] 133)).heap.size = w.heap.size + 2 := by simp
  have HB2 := Lib.hid (HBB.out.trans (hbut.toBelow (by omega) (Nat.le_refl _) (Nat.le_refl _)))
  have HR2 := Lib.hid (hbut.blk HR1.out (by omega) (by omega))
  have k0 := hb2.cell (i := 0) (v := .int .i64 a') rfl
  have k1 := hb2.cell (i := 1) (v := .int .i64 b') rfl
  have k2 := hb2.cell (i := 2) (v := .int .i64 c') rfl
  have k3 := hb2.cell (i := 3) (v := .int .i64 d') rfl
  have k4 := hb2.cell (i := 4) (v := .int .i64 e') rfl
  have k5 := hb2.cell (i := 5) (v := .int .i64 f') rfl
  have k6 := hb2.cell (i := 6) (v := .int .i64 g') rfl
  have k7 := hb2.cell (i := 7) (v := .int .i64 h') rfl
  have r0 := HR2.out.cell (i := 0) (v := .int .i64 0) rfl
  have f0 := HR2.out.fr (i := 0)
  have r1 := HR2.out.cell (i := 1) (v := .int .i64 0) rfl
  have f1 := HR2.out.fr (i := 1)
  have r2 := HR2.out.cell (i := 2) (v := .int .i64 0) rfl
  have f2 := HR2.out.fr (i := 2)
  have r3 := HR2.out.cell (i := 3) (v := .int .i64 0) rfl
  have f3 := HR2.out.fr (i := 3)
  have r4 := HR2.out.cell (i := 4) (v := .int .i64 0) rfl
  have f4 := HR2.out.fr (i := 4)
  have r5 := HR2.out.cell (i := 5) (v := .int .i64 0) rfl
  have f5 := HR2.out.fr (i := 5)
  have r6 := HR2.out.cell (i := 6) (v := .int .i64 0) rfl
  have f6 := HR2.out.fr (i := 6)
  have r7 := HR2.out.cell (i := 7) (v := .int .i64 0) rfl
  have f7 := HR2.out.fr (i := 7)
  have HF : Hid (er = er) := Lib.hid rfl
  clear hb2 hbut hs1 HC HBB HR1 eg
  by_cases he : er = 0
  · subst he
    obtain ⟨m, hm⟩ : ∃ m, min (min (min (min a' b') d') e') g' = m := ⟨_, rfl⟩
    obtain ⟨q, hq⟩ : ∃ q, decide (m < 0) = q := ⟨_, rfl⟩
    have HMN2 := HMN
    clear HMN
    have HMN := fun (w : World) (ts : Array TypeId) (t : TypeId) => HMN2 w ts t a' b' d' e' g'
    clear HMN2
    rw [hm] at HMN
    have HM := Lib.hid hm
    have HQ := Lib.hid hq
    clear hm
    cases q
    · have hmq : decide (m < 0) = false := hq
      clear hq
      have HCH : Hid (chF (0, ⟨a', b', c', d', e', f', g', h'⟩) = (⟨a', b', c', d', e', f', g', h'⟩, 0)) := Lib.hid (by unfold chF; dsimp only; rw [if_neg (by simp), HM.out, if_neg (of_decide_eq_false HQ.out)])
      have HZ8 := Lib.hid (blk_set8 HR2.out a' b' c' d' e' f' g' h')
      have HB8 := Lib.hid (below_set8 (b := w.heap.size + 1) HB2.out (by omega) a' b' c' d' e' f' g' h')
      clear HF
      go_wp2
      obtain ⟨W8, hW8⟩ : ∃ W8, ((((((((W2.setCell ⟨w.heap.size + 1, 0, none⟩ (.int .i64 a')).setCell ⟨w.heap.size + 1, 1, none⟩ (.int .i64 b')).setCell ⟨w.heap.size + 1, 2, none⟩ (.int .i64 c')).setCell ⟨w.heap.size + 1, 3, none⟩ (.int .i64 d')).setCell ⟨w.heap.size + 1, 4, none⟩ (.int .i64 e')).setCell ⟨w.heap.size + 1, 5, none⟩ (.int .i64 f')).setCell ⟨w.heap.size + 1, 6, none⟩ (.int .i64 g')).setCell ⟨w.heap.size + 1, 7, none⟩ (.int .i64 h')) = W8 := ⟨_, rfl⟩
      rw [hW8] at HZ8 HB8 ⊢
      have z0 := HZ8.out.cell (i := 0) (v := .int .i64 a') rfl
      have z1 := HZ8.out.cell (i := 1) (v := .int .i64 b') rfl
      have z2 := HZ8.out.cell (i := 2) (v := .int .i64 c') rfl
      have z3 := HZ8.out.cell (i := 3) (v := .int .i64 d') rfl
      have z4 := HZ8.out.cell (i := 4) (v := .int .i64 e') rfl
      have z5 := HZ8.out.cell (i := 5) (v := .int .i64 f') rfl
      have z6 := HZ8.out.cell (i := 6) (v := .int .i64 g') rfl
      have z7 := HZ8.out.cell (i := 7) (v := .int .i64 h') rfl
      refine bodyPost_ret (v := .tuple #[.agg #[.int .i64 a', .int .i64 b', .int .i64 c', .int .i64 d', .int .i64 e', .int .i64 f', .int .i64 g', .int .i64 h'], .int .i64 0]) ?_ rfl ?_
      · simp [results, Try.results101, go_sem, z0, z1, z2, z3, z4, z5, z6, z7]
      · exact ⟨by rw [HCH.out], HB8.out⟩
    · have hmq : decide (m < 0) = true := hq
      clear hq
      have HCH : Hid (chF (0, ⟨a', b', c', d', e', f', g', h'⟩) = (⟨0, 0, 0, 0, 0, 0, 0, 0⟩, 9)) := Lib.hid (by unfold chF; dsimp only; rw [if_neg (by simp), HM.out, if_pos (of_decide_eq_true HQ.out)]; rfl)
      have HZ8 := Lib.hid (blk_set8 HR2.out 0 0 0 0 0 0 0 0)
      have HB8 := Lib.hid (below_set8 (b := w.heap.size + 1) HB2.out (by omega) 0 0 0 0 0 0 0 0)
      clear HF
      go_wp2
      obtain ⟨W8, hW8⟩ : ∃ W8, ((((((((W2.setCell ⟨w.heap.size + 1, 0, none⟩ (.int .i64 0)).setCell ⟨w.heap.size + 1, 1, none⟩ (.int .i64 0)).setCell ⟨w.heap.size + 1, 2, none⟩ (.int .i64 0)).setCell ⟨w.heap.size + 1, 3, none⟩ (.int .i64 0)).setCell ⟨w.heap.size + 1, 4, none⟩ (.int .i64 0)).setCell ⟨w.heap.size + 1, 5, none⟩ (.int .i64 0)).setCell ⟨w.heap.size + 1, 6, none⟩ (.int .i64 0)).setCell ⟨w.heap.size + 1, 7, none⟩ (.int .i64 0)) = W8 := ⟨_, rfl⟩
      rw [hW8] at HZ8 HB8 ⊢
      have z0 := HZ8.out.cell (i := 0) (v := .int .i64 0) rfl
      have z1 := HZ8.out.cell (i := 1) (v := .int .i64 0) rfl
      have z2 := HZ8.out.cell (i := 2) (v := .int .i64 0) rfl
      have z3 := HZ8.out.cell (i := 3) (v := .int .i64 0) rfl
      have z4 := HZ8.out.cell (i := 4) (v := .int .i64 0) rfl
      have z5 := HZ8.out.cell (i := 5) (v := .int .i64 0) rfl
      have z6 := HZ8.out.cell (i := 6) (v := .int .i64 0) rfl
      have z7 := HZ8.out.cell (i := 7) (v := .int .i64 0) rfl
      refine bodyPost_ret (v := .tuple #[.agg #[.int .i64 0, .int .i64 0, .int .i64 0, .int .i64 0, .int .i64 0, .int .i64 0, .int .i64 0, .int .i64 0], .int .i64 9]) ?_ rfl ?_
      · simp [results, Try.results101, go_sem, z0, z1, z2, z3, z4, z5, z6, z7]
      · exact ⟨by rw [HCH.out], HB8.out⟩
  · have hne : (er != 0) = true := by simpa using he
    have HCH : Hid (chF (er, ⟨a', b', c', d', e', f', g', h'⟩) = (⟨0, 0, 0, 0, 0, 0, 0, 0⟩, er)) := Lib.hid (by unfold chF; dsimp only; rw [if_pos he]; rfl)
    have HZ8 := Lib.hid (blk_set8 HR2.out 0 0 0 0 0 0 0 0)
    have HB8 := Lib.hid (below_set8 (b := w.heap.size + 1) HB2.out (by omega) 0 0 0 0 0 0 0 0)
    clear HF
    go_wp2
    obtain ⟨W8, hW8⟩ : ∃ W8, ((((((((W2.setCell ⟨w.heap.size + 1, 0, none⟩ (.int .i64 0)).setCell ⟨w.heap.size + 1, 1, none⟩ (.int .i64 0)).setCell ⟨w.heap.size + 1, 2, none⟩ (.int .i64 0)).setCell ⟨w.heap.size + 1, 3, none⟩ (.int .i64 0)).setCell ⟨w.heap.size + 1, 4, none⟩ (.int .i64 0)).setCell ⟨w.heap.size + 1, 5, none⟩ (.int .i64 0)).setCell ⟨w.heap.size + 1, 6, none⟩ (.int .i64 0)).setCell ⟨w.heap.size + 1, 7, none⟩ (.int .i64 0)) = W8 := ⟨_, rfl⟩
    rw [hW8] at HZ8 HB8 ⊢
    have z0 := HZ8.out.cell (i := 0) (v := .int .i64 0) rfl
    have z1 := HZ8.out.cell (i := 1) (v := .int .i64 0) rfl
    have z2 := HZ8.out.cell (i := 2) (v := .int .i64 0) rfl
    have z3 := HZ8.out.cell (i := 3) (v := .int .i64 0) rfl
    have z4 := HZ8.out.cell (i := 4) (v := .int .i64 0) rfl
    have z5 := HZ8.out.cell (i := 5) (v := .int .i64 0) rfl
    have z6 := HZ8.out.cell (i := 6) (v := .int .i64 0) rfl
    have z7 := HZ8.out.cell (i := 7) (v := .int .i64 0) rfl
    refine bodyPost_ret (v := .tuple #[.agg #[.int .i64 0, .int .i64 0, .int .i64 0, .int .i64 0, .int .i64 0, .int .i64 0, .int .i64 0, .int .i64 0], .int .i64 er]) ?_ rfl ?_
    · simp [results, Try.results101, go_sem, z0, z1, z2, z3, z4, z5, z6, z7]
    · exact ⟨by rw [HCH.out], HB8.out⟩
end Go.Proofs.Ytopnlcjbklmicaa
