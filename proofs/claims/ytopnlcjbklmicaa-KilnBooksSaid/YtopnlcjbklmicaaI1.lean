import Derived.Test.YtopnlcjbklmicaaK0
import Derived.WalkKit
import Derived.WalkSpells
import Derived.WalkLawsBesides
import Derived.Deep.QuietTactic
import Derived.BigQuiet
import Derived.Lib.Hide
import Derived.WalkSmall
import Derived.Maps.OwnSet
import Derived.Maps.RangeWalk
import Derived.Deep.RegionWith
import Derived.Deep.RegionHeld3
import Derived.Deep.DrawnRows
import Derived.Deep.DeepCutAuto
import Derived.OneCell
import Derived.KernelRfl
import Derived.Laws.StructEq
import Derived.StillTailTactics
import Derived.Laws.Externs
import Derived.RangeFuncBox
import Derived.Outline
import Derived.RangeFuncNested
import Derived.RangeFuncBound
import Derived.RangeFuncCalls
import Derived.RangeFuncLeaves
import Derived.Shelf.RegionOpen
import Derived.OwnWalkIn
import Derived.TacticsInMore
import Derived.LoopNIn
import Derived.LoopIn
import Derived.Test.YtopnlcjbklmicaaProg
namespace Go.Proofs.Ytopnlcjbklmicaa
open Go.RowKit Go.Maps Go.Shelf
set_option linter.unusedVariables false
set_option linter.unusedSimpArgs false
/-- The blocks that K names lie as they lay. -/
structure Kept (K : Nat → Obj → Prop) (W W' : World) : Prop where
  size : W.heap.size ≤ W'.heap.size
  same : ∀ k o, W.heap[k]? = some o → K k o → W'.heap[k]? = some o
theorem Kept.refl (K : Nat → Obj → Prop) (W : World) : Kept K W W := ⟨Nat.le_refl _, fun _ _ h _ => h⟩
theorem Kept.trans {K : Nat → Obj → Prop} {A B C : World} (h : Kept K A B) (k : Kept K B C) : Kept K A C :=
  ⟨Nat.le_trans h.size k.size, fun i o hi ho => k.same i o (h.same i o hi ho) ho⟩
theorem Kept.of_below {K : Nat → Obj → Prop} {A B : World} (h : Below A.heap.size A B) : Kept K A B :=
  ⟨h.size, fun k o hk _ => (h.block k (Array.getElem?_eq_some_iff.1 hk).1).trans hk⟩
theorem Kept.putObj {K : Nat → Obj → Prop} (W : World) (l : Nat) (o' : Obj) (hl : ∀ o, W.heap[l]? = some o → ¬ K l o) : Kept K W (W.putObj l o') :=
  ⟨by simp, fun k o hk ho => (World.putObj_heap_other (fun e => by subst e; exact hl o hk ho)).trans hk⟩
theorem Kept.setCell {K : Nat → Obj → Prop} (W : World) (a : Addr) (u : Value) (hl : ∀ o, W.heap[a.block]? = some o → ¬ K a.block o) : Kept K W (W.setCell a u) :=
  ⟨(KeepsWalks.setCell W a u).size, fun k o hk ho => (Below.heap_setCell W a u k (fun e => by subst e; exact hl o hk ho)).trans hk⟩
theorem Kept.alloc (K : Nat → Obj → Prop) (W : World) (o : Obj) : Kept K W (W.alloc o) :=
  ⟨by simp, fun k o' hk _ => (Below.heap_alloc W o k (Array.getElem?_eq_some_iff.1 hk).1).trans hk⟩
theorem Kept.drew (K : Nat → Obj → Prop) (W : World) : Kept K W W.drew := ⟨Nat.le_refl _, fun _ _ h _ => h⟩
theorem KeepsFrom.mono {B B' : Nat} {W W' : World} (h : KeepsFrom B W W') (hB : B ≤ B') : KeepsFrom B' W W' := ⟨h.size, fun k o hk ho hc => h.same k o (Nat.le_trans hB hk) ho hc⟩
theorem KeepsFrom.of_below {B : Nat} {W W' : World} (h : Below W.heap.size W W') : KeepsFrom B W W' := ⟨h.size, fun k o _ ho _ => (h.block k (Array.getElem?_eq_some_iff.1 ho).1).trans ho⟩
theorem KeepsFrom.putBelow {B : Nat} (W : World) (l : Nat) (o : Obj) (h : l < B) : KeepsFrom B W (W.putObj l o) := ⟨by simp, fun k o' hk ho _ => (World.putObj_heap_other (by omega)).trans ho⟩
theorem roundIn_any {n m l : Nat} {P : Program} {f : FuncId} {tmps : Array Value} {assign body : Code} {w : World} {R : Ending → World → Prop}
    (h : RoundIn Fence.wide n P l f tmps assign body w R) : RoundIn Fence.wide m P l f tmps assign body w R := ⟨h.1, fun c cs _ => h.2 c cs (fun _ hd => by cases hd)⟩
theorem yieldAt_any {n m l : Nat} {P : Program} {args : Array Value} {w : World} {R : Ending → World → Prop}
    (h : YieldAt Fence.wide n P l args w R) : YieldAt Fence.wide m P l args w R := by
  obtain ⟨fn, tmps, assign, body, h1, h2⟩ := h
  exact ⟨fn, tmps, assign, body, h1, roundIn_any h2⟩
theorem callsIn_any {n m : Nat} {P : Program} {f : FuncId} {args : Array Value} {w : World} {R : Ending → World → Prop}
    (h : CallsIn Fence.wide n P f args w R) : CallsIn Fence.wide m P f args w R := callsIn_wide.2 (callsIn_wide.1 h)
/-- An iterator gives these elements in this order, as long as a round says 'go on', while the blocks of K lie as they lay. -/
def Iter {α : Type} (P : Program) (g : Nat) (lb : Array Value) (encs : α → Array Value) (K : Nat → Obj → Prop) (xs : List α) (w : World) : Prop :=
  ∀ (l : Nat) (J : List α → World → Prop) (Jx : List α → World → Prop) (W : World), Kept K w W → OwnFrom W.heap.size J → OwnFrom W.heap.size Jx →
    (∀ pre x W1, J pre W1 → (pre ++ [x]) <+: xs → YieldAt Fence.wide 9 P l (encs x) W1 fun e W' =>
      ((e = .returned (.bool true) ∧ J (pre ++ [x]) W' ∧ Kept K W1 W') ∨ (e = .returned (.bool false) ∧ Jx (pre ++ [x]) W')) ∧ KeepsFrom W.heap.size W1 W') →
    J [] W →
    CallsIn Fence.wide 9 P g (#[.func (.yield l) #[] #[]] ++ lb) W fun e W' => (∃ v, e = .returned v) ∧ (J xs W' ∨ ∃ pre, pre <+: xs ∧ Jx pre W')
/-- How the body of a round may be left. -/
def roundP {α : Type} (B : Nat) (K : Nat → Obj → Prop) (I : List α → World → Prop) (Ix : Code → List α → World → Prop) (xs : List α) (W : World) : Exit → Act → World → Prop
  | .normal, _, W' => KeepsFrom B W W' ∧ Kept K W W' ∧ I xs W'
  | .ret, _, W' => KeepsFrom B W W' ∧ Ix .ret xs W'
  | .exit id, _, W' => KeepsFrom B W W' ∧ Ix (.exit id) xs W'
  | .goto t, _, W' => KeepsFrom B W W' ∧ Ix (.goto t) xs W'
  | .panic _, _, _ => False
  | .outgrown, _, _ => False
/-- One round of a loop whose record lies at l, all that lies from B on and is no cells being kept by the body. -/
theorem round_any {α : Type} {P : Program} {ps : Array Tmp} {assign body : Code} {fn : FuncId} {tmps : Array Value} {encs : α → Array Value} {K : Nat → Obj → Prop} {B l Dn : Nat}
    (hBl : B ≤ l) (hKl : ∀ r, ¬ K l (.loop r)) (hps : ∀ x, (encs x).size = ps.size)
    (rec : LoopState → Option Code → Loop) (hrec : rec = fun st pe => { state := st, pending := pe, fn, tmps, params := ps, assign, body, defers := Dn })
    (I : List α → World → Prop) (Ix : Code → List α → World → Prop) (hI : OwnFrom B I) (hIx : ∀ c, OwnFrom B (Ix c)) (Ax : α → Act → World → Prop) (hAx : ∀ x a', OwnFrom B (fun (_ : Unit) W => Ax x a' W))
    (G : World → Prop) (hG : ∀ W W', KeepsFrom B W W' → G W → G W') (hGl : ∀ W o, G W → G (W.putObj l o))
    (hassign : ∀ (pre : List α) (x : α) (W : World) (Q : Act → World → Prop), I pre W → (∀ a' W', KeepsFrom B W W' → Kept K W W' → I pre W' → Ax x a' W' → Q a' W') →
      assign.wpIn (Fence.wide.inRound l) 9 P (Exit.then Q (fun _ _ _ => False)) { tmps := (ps.zip (encs x)).foldl (fun t (p, v) => t.setIfInBounds p v) tmps, defers := [] } W)
    (pre : List α) (x : α)
    (hbody : ∀ (a' : Act) (W : World), (∃ r, W.heap[l]? = some (.loop r)) → I pre W → Ax x a' W → body.wpIn (Fence.wide.inRound l) 9 P (roundP B K I Ix (pre ++ [x]) W) a' W)
    (W : World) (hi : I pre W) (hl : W.heap[l]? = some (.loop (rec .ready none))) (hg : G W) :
    YieldAt Fence.wide 9 P l (encs x) W fun e W' =>
      ((e = .returned (.bool true) ∧ (I (pre ++ [x]) W' ∧ W'.heap[l]? = some (.loop (rec .ready none)) ∧ G W') ∧ Kept K W W') ∨
      (e = .returned (.bool false) ∧ ∃ c, Ix c (pre ++ [x]) W' ∧ W'.heap[l]? = some (.loop (rec .done (some c))) ∧ G W')) ∧ KeepsFrom (l + 1) W W' := by
  have hy := run_yield (P := P) (args := encs x) hl (by rw [hrec]; exact hps x)
  rw [hrec] at hy
  refine ⟨fn, _, assign, body, hy, roundIn_of_wpIn trivial (hassign pre x W _ hi ?_)⟩
  intro a' Wa k1 k2 hia hax
  have hla := k1.same _ _ hBl hl rfl
  have hlt : l < Wa.heap.size := (Array.getElem?_eq_some_iff.1 hla).1
  refine ⟨_, run_beginRound hla (by rw [hrec]), ?_⟩
  obtain ⟨Wb, hWb⟩ : ∃ Wb, Wa.putObj l (.loop { rec .ready none with state := .busy }) = Wb := ⟨_, rfl⟩
  rw [hWb]
  have hlb : Wb.heap[l]? = some (.loop { rec .ready none with state := .busy }) := by rw [← hWb]; exact World.putObj_heap_same hlt
  have hib : I pre Wb := by rw [← hWb]; exact hI.putObj _ hia hBl hla rfl
  have hab : Ax x a' Wb := by rw [← hWb]; exact (hAx x a').putObj (s := ()) _ hax hBl hla rfl
  have hgb : G Wb := by rw [← hWb]; exact hGl _ _ (hG _ _ k1 hg)
  have kb : Kept K W Wb := k2.trans (by rw [← hWb]; exact Kept.putObj _ _ _ (fun o ho => by rw [hla] at ho; cases ho; exact hKl _))
  have fb : KeepsFrom (l + 1) W Wb := (KeepsFrom.mono k1 (by omega)).trans (by rw [← hWb]; exact KeepsFrom.putBelow _ _ _ (by omega))
  refine wpIn_mono (hbody a' Wb ⟨_, hlb⟩ hib hab) ?_
  have fin : ∀ (jump : Option Code) (W3 : World), KeepsFrom B Wb W3 →
      (Instr.endRound l jump).run P W3 = .ok (.bool jump.isNone) (W3.putObj l (.loop (rec (if jump.isNone then .ready else .done) jump))) ∧
      W3.heap[l]? = some (.loop { rec .ready none with state := .busy }) ∧
      (W3.putObj l (.loop (rec (if jump.isNone then .ready else .done) jump))).heap[l]? = some (.loop (rec (if jump.isNone then .ready else .done) jump)) := fun jump W3 hk3 => by
    have hl3 := hk3.same _ _ hBl hlb rfl
    have := run_endRound (P := P) jump hl3
    rw [hrec] at this ⊢
    exact ⟨this, by rw [hrec] at hl3; exact hl3, World.putObj_heap_same (Array.getElem?_eq_some_iff.1 hl3).1⟩
  rintro e a3 W3 hp
  cases e with
  | normal =>
    obtain ⟨hk3, hkp3, hi3⟩ := hp
    obtain ⟨hr, hl3, hl4⟩ := fin none W3 hk3
    exact ⟨_, _, hr, .inl ⟨rfl, ⟨hI.putObj _ hi3 hBl hl3 rfl, hl4, hGl _ _ (hG _ _ hk3 hgb)⟩, (kb.trans hkp3).trans (Kept.putObj _ _ _ (fun o ho => by rw [hl3] at ho; cases ho; exact hKl _))⟩, (fb.trans (KeepsFrom.mono hk3 (by omega))).trans (KeepsFrom.putBelow _ _ _ (by omega))⟩
  | ret =>
    obtain ⟨hk3, hi3⟩ := hp
    obtain ⟨hr, hl3, hl4⟩ := fin (some .ret) W3 hk3
    exact ⟨_, _, hr, .inr ⟨rfl, .ret, (hIx _).putObj _ hi3 hBl hl3 rfl, hl4, hGl _ _ (hG _ _ hk3 hgb)⟩, (fb.trans (KeepsFrom.mono hk3 (by omega))).trans (KeepsFrom.putBelow _ _ _ (by omega))⟩
  | exit id =>
    obtain ⟨hk3, hi3⟩ := hp
    obtain ⟨hr, hl3, hl4⟩ := fin (some (.exit id)) W3 hk3
    exact ⟨_, _, hr, .inr ⟨rfl, .exit id, (hIx _).putObj _ hi3 hBl hl3 rfl, hl4, hGl _ _ (hG _ _ hk3 hgb)⟩, (fb.trans (KeepsFrom.mono hk3 (by omega))).trans (KeepsFrom.putBelow _ _ _ (by omega))⟩
  | goto t =>
    obtain ⟨hk3, hi3⟩ := hp
    obtain ⟨hr, hl3, hl4⟩ := fin (some (.goto t)) W3 hk3
    exact ⟨_, _, hr, .inr ⟨rfl, .goto t, (hIx _).putObj _ hi3 hBl hl3 rfl, hl4, hGl _ _ (hG _ _ hk3 hgb)⟩, (fb.trans (KeepsFrom.mono hk3 (by omega))).trans (KeepsFrom.putBelow _ _ _ (by omega))⟩
  | panic ch => exact hp.elim
  | outgrown => exact hp.elim
theorem ownFrom_row {α : Type} {B l : Nat} {I : List α → World → Prop} {o : Obj} (hI : OwnFrom B I) (hB : l < B) : OwnFrom B (fun pre W => I pre W ∧ W.heap[l]? = some o) :=
  fun s A C row hs hg hr => ⟨hI s A C row hs.1 hg hr, (hg.block l (Array.getElem?_eq_some_iff.1 hs.2).1 (fun e => by have := (hr l e.symm).1; omega)).trans hs.2⟩
theorem OwnFrom.up {β : Type} {B B' : Nat} {I : β → World → Prop} (h : OwnFrom B I) (hB : B ≤ B') : OwnFrom B' I :=
  fun s A C row hs hg hr => h s A C row hs hg (fun r e => ⟨Nat.le_trans hB (hr r e).1, (hr r e).2⟩)
/-- A range over an iterator, not within a round. -/
theorem range_outer {α : Type} {P : Program} {g : Operand} {ps : Array Tmp} {assign body : Code} {Q : Exit → Act → World → Prop} {a : Act} {w : World}
    {gf : Nat} {lb : Array Value} (hg : a.eval g = .func (.func gf) #[] lb) (eg : ∀ args w, (callFunc gf args).run P w = .ok (.enter gf args) w)
    {encs : α → Array Value} {K : Nat → Obj → Prop} {xs : List α} (hit : Iter P gf lb encs K xs w) (hK : ∀ k r, w.heap.size ≤ k → ¬ K k (.loop r)) (hps : ∀ x, (encs x).size = ps.size)
    (I : List α → World → Prop) (Ix : Code → List α → World → Prop) (hI : OwnFrom w.heap.size I) (hIx : ∀ c, OwnFrom w.heap.size (Ix c)) (h0 : I [] w) (Ax : α → Act → World → Prop) (hAx : ∀ x a', OwnFrom w.heap.size (fun (_ : Unit) W => Ax x a' W))
    (hassign : ∀ (l : Nat) (pre : List α) (x : α) (W : World) (Q : Act → World → Prop), I pre W → (∀ a' W', KeepsFrom w.heap.size W W' → Kept K W W' → I pre W' → Ax x a' W' → Q a' W') →
      assign.wpIn (Fence.wide.inRound l) 9 P (Exit.then Q (fun _ _ _ => False)) { tmps := (ps.zip (encs x)).foldl (fun t (p, v) => t.setIfInBounds p v) a.tmps, defers := [] } W)
    (hbody : ∀ (l : Nat) (pre : List α) (x : α) (a' : Act) (W : World), w.heap.size ≤ l → (∃ r, W.heap[l]? = some (.loop r)) → I pre W → Ax x a' W → (pre ++ [x]) <+: xs → body.wpIn (Fence.wide.inRound l) 9 P (roundP w.heap.size K I Ix (pre ++ [x]) W) a' W)
    (hdone : ∀ (D : Nat) (W : World), w.heap.size ≤ D → I xs W → W.heap[D]? = some (.deferred (some [])) → Q .normal { a with defers := { target := .collected D, args := #[] } :: a.defers } W)
    (hstop : ∀ (D : Nat) (c : Code) (pre : List α) (W : World), w.heap.size ≤ D → pre <+: xs → Ix c pre W → W.heap[D]? = some (.deferred (some [])) → c.wpIn Fence.wide 9 P Q { a with defers := { target := .collected D, args := #[] } :: a.defers } W) :
    (Code.rangeFunc g ps assign body).wpIn Fence.wide 9 P Q a w := by
  refine wpIn_rangeFunc ?_
  intro fn _
  obtain ⟨rec, hrec⟩ : ∃ rec : LoopState → Option Code → Loop, rec = fun st pe => { state := st, pending := pe, fn, tmps := a.tmps, params := ps, assign, body, defers := w.heap.size } := ⟨_, rfl⟩
  obtain ⟨W1, hW1⟩ : ∃ W1, (w.alloc (.deferred (some []))).alloc (.loop (rec .ready none)) = W1 := ⟨_, rfl⟩
  have hL1 : W1.heap[w.heap.size + 1]? = some (.loop (rec .ready none)) := by
    rw [← hW1]; have := World.alloc_heap_new (w.alloc (.deferred (some []))) (.loop (rec .ready none)); rwa [World.size_alloc] at this
  have hK1 : W1.heap[w.heap.size]? = some (.deferred (some [])) := by
    rw [← hW1]; exact (Below.heap_alloc _ _ _ (by simp)).trans (World.alloc_heap_new w _)
  have hI1 : I [] W1 := by rw [← hW1]; exact hI.alloc _ (hI.alloc _ h0)
  have hsz : W1.heap.size = w.heap.size + 2 := by rw [← hW1]; simp
  have hb1 : Kept K w W1 := by rw [← hW1]; exact (Kept.alloc K _ _).trans (Kept.alloc K _ _)
  refine ⟨w.heap.size + 1, [{ target := .collected w.heap.size, args := #[] }], W1, { target := .fn (.func gf) lb, args := #[.func (.yield (w.heap.size + 1)) #[] #[]] }, W1, gf,
    #[.func (.yield (w.heap.size + 1)) #[] #[]] ++ lb, W1, ?_, ?_, ?_, ?_, ?_, ?_⟩
  · rw [← hW1, hrec]; exact run_enterLoop_outer _ _ _ _ _
  · simp only [resolve, hg]
    simp [go_sem]
  · intro f' _; trivial
  · simp [invoke, go_sem, eg]
  · intro h; cases h
  · refine callsIn_any ((hit (w.heap.size + 1)
      (fun pre W => (I pre W ∧ W.heap[w.heap.size + 1]? = some (.loop (rec .ready none))) ∧ W.heap[w.heap.size]? = some (.deferred (some [])))
      (fun pre W => ∃ c, (Ix c pre W ∧ W.heap[w.heap.size + 1]? = some (.loop (rec .done (some c)))) ∧ W.heap[w.heap.size]? = some (.deferred (some [])))
      W1 hb1 (ownFrom_row (ownFrom_row (OwnFrom.up hI (by omega)) (by omega)) (by omega))
      (fun s A C row hs hg' hr => by
        obtain ⟨c, hc⟩ := hs
        exact ⟨c, ownFrom_row (ownFrom_row (OwnFrom.up (hIx c) (by omega)) (by omega)) (by omega) s A C row hc hg' hr⟩)
      ?_ ⟨⟨hI1, hL1⟩, hK1⟩).mono ?_)
    · rintro pre x W ⟨⟨hi, hl⟩, hk⟩ hpre
      refine (round_any (P := P) (fn := fn) (B := w.heap.size) (K := K) (by omega) (fun r => hK _ r (by omega)) hps rec hrec I Ix hI hIx Ax hAx
        (fun W => W.heap[w.heap.size]? = some (.deferred (some []))) (fun W W' h hd => h.same _ _ (Nat.le_refl _) hd rfl) (fun W o hd => (World.putObj_heap_other (by omega)).trans hd)
        (fun pre x W Q => hassign _ pre x W Q) pre x (fun a' W hr hi ha => hbody _ pre x a' W (by omega) hr hi ha hpre) W hi hl hk).mono ?_
      rintro e W' ⟨⟨rfl, ⟨h1, h2, h3⟩, h4⟩ | ⟨rfl, c, h1, h2, h3⟩, hf⟩
      · exact ⟨.inl ⟨rfl, ⟨⟨h1, h2⟩, h3⟩, h4⟩, KeepsFrom.mono hf (by omega)⟩
      · exact ⟨.inr ⟨rfl, c, ⟨h1, h2⟩, h3⟩, KeepsFrom.mono hf (by omega)⟩
    · rintro e W2 ⟨⟨v, rfl⟩, (⟨⟨hi, hl⟩, hk⟩ | ⟨pre, hSp, c, ⟨hi, hl⟩, hk⟩)⟩
      · exact ⟨none, _, by have := run_endLoop (P := P) hl (by rw [hrec]; simp); rw [hrec] at this; exact this, hdone _ _ (Nat.le_refl _) (hI.putObj _ hi (by omega) hl rfl) ((World.putObj_heap_other (by omega)).trans hk)⟩
      · exact ⟨some c, _, by have := run_endLoop (P := P) hl (by rw [hrec]; simp); rw [hrec] at this; exact this, hstop _ c pre _ (Nat.le_refl _) hSp ((hIx c).putObj _ hi (by omega) hl rfl) ((World.putObj_heap_other (by omega)).trans hk)⟩
/-- A range over an iterator within a round of loop l0. -/
theorem range_inner {α : Type} {P : Program} {g : Operand} {ps : Array Tmp} {assign body : Code} {Q : Exit → Act → World → Prop} {a : Act} {w : World}
    {l₀ : Nat} {r₀ : Loop} (hl₀ : w.heap[l₀]? = some (.loop r₀))
    {gf : Nat} {lb : Array Value} (hg : a.eval g = .func (.func gf) #[] lb) (eg : ∀ args w, (callFunc gf args).run P w = .ok (.enter gf args) w)
    {encs : α → Array Value} {K : Nat → Obj → Prop} {xs : List α} (hit : Iter P gf lb encs K xs w) (hK : ∀ k r, w.heap.size ≤ k → ¬ K k (.loop r)) (hps : ∀ x, (encs x).size = ps.size)
    (I : List α → World → Prop) (Ix : Code → List α → World → Prop) (hI : OwnFrom w.heap.size I) (hIx : ∀ c, OwnFrom w.heap.size (Ix c)) (h0 : I [] w) (Ax : α → Act → World → Prop) (hAx : ∀ x a', OwnFrom w.heap.size (fun (_ : Unit) W => Ax x a' W))
    (hassign : ∀ (l : Nat) (pre : List α) (x : α) (W : World) (Q : Act → World → Prop), I pre W → (∀ a' W', KeepsFrom w.heap.size W W' → Kept K W W' → I pre W' → Ax x a' W' → Q a' W') →
      assign.wpIn (Fence.wide.inRound l) 9 P (Exit.then Q (fun _ _ _ => False)) { tmps := (ps.zip (encs x)).foldl (fun t (p, v) => t.setIfInBounds p v) a.tmps, defers := [] } W)
    (hbody : ∀ (l : Nat) (pre : List α) (x : α) (a' : Act) (W : World), w.heap.size ≤ l → (∃ r, W.heap[l]? = some (.loop r)) → I pre W → Ax x a' W → (pre ++ [x]) <+: xs → body.wpIn (Fence.wide.inRound l) 9 P (roundP w.heap.size K I Ix (pre ++ [x]) W) a' W)
    (hdone : ∀ (W : World), I xs W → Q .normal a W)
    (hstop : ∀ (c : Code) (pre : List α) (W : World), pre <+: xs → Ix c pre W → c.wpIn (Fence.wide.inRound l₀) 9 P Q a W) :
    (Code.rangeFunc g ps assign body).wpIn (Fence.wide.inRound l₀) 9 P Q a w := by
  refine wpIn_rangeFunc ?_
  intro fn _
  obtain ⟨rec, hrec⟩ : ∃ rec : LoopState → Option Code → Loop, rec = fun st pe => { state := st, pending := pe, fn, tmps := a.tmps, params := ps, assign, body, defers := r₀.defers } := ⟨_, rfl⟩
  obtain ⟨W1, hW1⟩ : ∃ W1, w.alloc (.loop (rec .ready none)) = W1 := ⟨_, rfl⟩
  have hL1 : W1.heap[w.heap.size]? = some (.loop (rec .ready none)) := by rw [← hW1]; exact World.alloc_heap_new w _
  have hI1 : I [] W1 := by rw [← hW1]; exact hI.alloc _ h0
  have hsz : W1.heap.size = w.heap.size + 1 := by rw [← hW1]; simp
  have hb1 : Kept K w W1 := by rw [← hW1]; exact Kept.alloc K _ _
  refine ⟨w.heap.size, [], W1, { target := .fn (.func gf) lb, args := #[.func (.yield w.heap.size) #[] #[]] }, W1, gf,
    #[.func (.yield w.heap.size) #[] #[]] ++ lb, W1, ?_, ?_, ?_, ?_, ?_, ?_⟩
  · rw [← hW1, hrec]; exact run_enterLoop_inner hl₀ _ _ _ _ _
  · simp only [resolve, hg]
    simp [go_sem]
  · intro f' _; trivial
  · simp [invoke, go_sem, eg]
  · intro h; cases h
  · refine CallsIn.inRound l₀ (callsIn_any ((hit w.heap.size
      (fun pre W => I pre W ∧ W.heap[w.heap.size]? = some (.loop (rec .ready none)))
      (fun pre W => ∃ c, Ix c pre W ∧ W.heap[w.heap.size]? = some (.loop (rec .done (some c))))
      W1 hb1 (ownFrom_row (OwnFrom.up hI (by omega)) (by omega))
      (fun s A C row hs hg' hr => by
        obtain ⟨c, hc⟩ := hs
        exact ⟨c, ownFrom_row (OwnFrom.up (hIx c) (by omega)) (by omega) s A C row hc hg' hr⟩)
      ?_ ⟨hI1, hL1⟩).mono ?_))
    · rintro pre x W ⟨hi, hl⟩ hpre
      refine (round_any (P := P) (fn := fn) (B := w.heap.size) (K := K) (Nat.le_refl _) (fun r => hK _ r (Nat.le_refl _)) hps rec hrec I Ix hI hIx Ax hAx
        (fun _ => True) (fun _ _ _ _ => trivial) (fun _ _ _ => trivial)
        (fun pre x W Q => hassign _ pre x W Q) pre x (fun a' W hr hi ha => hbody _ pre x a' W (Nat.le_refl _) hr hi ha hpre) W hi hl trivial).mono ?_
      rintro e W' ⟨⟨rfl, ⟨h1, h2, _⟩, h4⟩ | ⟨rfl, c, h1, h2, _⟩, hf⟩
      · exact ⟨.inl ⟨rfl, ⟨h1, h2⟩, h4⟩, KeepsFrom.mono hf (by omega)⟩
      · exact ⟨.inr ⟨rfl, c, h1, h2⟩, KeepsFrom.mono hf (by omega)⟩
    · rintro e W2 ⟨⟨v, rfl⟩, (⟨hi, hl⟩ | ⟨pre, hSp, c, hi, hl⟩)⟩
      · exact ⟨none, _, by have := run_endLoop (P := P) hl (by rw [hrec]; simp); rw [hrec] at this; exact this, hdone _ (hI.putObj _ hi (Nat.le_refl _) hl rfl)⟩
      · exact ⟨some c, _, by have := run_endLoop (P := P) hl (by rw [hrec]; simp); rw [hrec] at this; exact this, hstop c pre _ hSp ((hIx c).putObj _ hi (Nat.le_refl _) hl rfl)⟩
end Go.Proofs.Ytopnlcjbklmicaa
