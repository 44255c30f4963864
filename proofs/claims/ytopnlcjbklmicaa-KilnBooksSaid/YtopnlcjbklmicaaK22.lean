import Derived.Test.YtopnlcjbklmicaaK21
import Derived.WalkKit
import Derived.WalkSpells
import Derived.WalkLawsBesides
import Derived.Deep.QuietTactic
import Derived.BigQuiet
import Derived.Lib.Hide
import Derived.WalkSmall
import Derived.Maps.OwnSet
import Derived.Maps.RangeWalk
import Derived.Deep.RegionWith
import Derived.Deep.RegionHeld3
import Derived.Deep.DrawnRows
import Derived.Deep.DeepCutAuto
import Derived.OneCell
import Derived.KernelRfl
import Derived.Laws.StructEq
import Derived.StillTailTactics
import Derived.Laws.Externs
import Derived.RangeFuncBox
import Derived.Outline
import Derived.RangeFuncNested
import Derived.RangeFuncBound
import Derived.RangeFuncCalls
import Derived.RangeFuncLeaves
import Derived.Shelf.RegionOpen
import Derived.OwnWalkIn
import Derived.TacticsInMore
import Derived.LoopNIn
import Derived.LoopIn
import Derived.Test.YtopnlcjbklmicaaProg
namespace Go.Proofs.Ytopnlcjbklmicaa
open Go.RowKit Go.Maps Go.Shelf
set_option linter.unusedVariables false
set_option linter.unusedSimpArgs false
attribute [local go_sem] Oper.semAt_some
/-- What stands while loads are passed on: the boxes, the loads so far, and what presses below. -/
structure PassI (w : World) (W H : Int) (tv : Value) (gp g7 N base : Nat) (pr ls bl : List (Nat × Nat)) (Wr : World) : Prop where
  s : Blk Wr w.heap.size #[.int .i64 W, .int .i64 H, tv] 143
  p : Blk Wr (w.heap.size + 1) #[.slice (some ⟨gp, 0, none⟩) N N] 78
  ld : ∃ lv, Boxed Wr (w.heap.size + 1 + 1) 78 lv ∧ Wr.ownsRow base 116 2 lv ls.length (flatL ls) ∧ True
  bw : Blk Wr (w.heap.size + 1 + 1 + 1) #[.slice (some ⟨g7, 0, none⟩) N N] 78
  lb : LoadsB Wr g7 bl
  lp : LoadsB Wr gp pr
  b : Below w.heap.size w Wr
theorem PassI.own {β : Type} {w : World} {W H : Int} {tv : Value} {gp g7 N base B : Nat} {pr ls bl : List (Nat × Nat)} (hB : w.heap.size ≤ B) :
    OwnFrom B (fun (_ : β) Wr => PassI w W H tv gp g7 N base pr ls bl Wr) := fun s X Y row hs hg hr =>
  have hr2 : ∀ r, row = some r → ∃ o : Obj, X.heap[r]? = some o ∧ o.isCells = false := fun r e => (hr r e).2
  ⟨blk_own _ _ (fun _ : Unit => _) () X Y row hs.s hg hr2, blk_own _ _ (fun _ : Unit => _) () X Y row hs.p hg hr2,
   holdsRow_own base _ _ _ 2 (fun _ : Unit => ls.length) (fun _ => flatL ls) (fun _ _ => True) () X Y row hs.ld hg hr2,
   blk_own _ _ (fun _ : Unit => _) () X Y row hs.bw hg hr2, blk_own _ _ (fun _ : Unit => _) () X Y row hs.lb hg hr2, blk_own _ _ (fun _ : Unit => _) () X Y row hs.lp hg hr2,
   ownFrom_below (β := Unit) (Nat.le_refl _) hB () X Y row hs.b hg hr⟩
theorem ownsRow_block {W : World} {base k : Nat} {v : Value} {e : TypeId} {xs : List Value} {j : Nat} (h : W.ownsRow base e 2 v k xs) (hv : v.ownBlock = some j) : base ≤ j ∧ j < W.heap.size := by
  rcases h.2 with ⟨rfl, _⟩ | ⟨g, cap, cur, rfl, hb, hgb, _⟩
  · cases hv
  · cases hv
    exact ⟨hb, (Array.getElem?_eq_some_iff.1 hgb).1⟩
theorem PassI.but {w : World} {W H : Int} {tv : Value} {gp g7 N base x : Nat} {pr ls bl : List (Nat × Nat)} {A B : World} (h : PassI w W H tv gp g7 N base pr ls bl A) (hb : But x (w.heap.size + 1 + 1 + 1 + 1) A B)
    (hx : A.heap.size ≤ x) (hg7 : w.heap.size + 5 ≤ g7) (hbase : w.heap.size + 5 ≤ base) (hgp : gp < w.heap.size) : PassI w W H tv gp g7 N base pr ls bl B := by
  have l1 := h.s.lt
  have l2 := h.p.lt
  have l3 := h.bw.lt
  have l4 := Blk.lt h.lb
  have l5 := Blk.lt h.lp
  obtain ⟨lv, b1, b2, _⟩ := h.ld
  have l6 := b1.lt
  refine ⟨hb.blk h.s (by omega) (by omega), hb.blk h.p (by omega) (by omega), ⟨lv, hb.blk b1 (by omega) (by omega), ?_, trivial⟩, hb.blk h.bw (by omega) (by omega), hb.blk h.lb (by omega) (by omega), hb.blk h.lp (by omega) (by omega), h.b.trans (hb.below (by omega) (by omega) (by omega))⟩
  rcases b2.2 with ⟨rfl, h0⟩ | ⟨g, cap, cur, rfl, hgb, hgo, hrest⟩
  · exact ⟨b2.1, .inl ⟨rfl, h0⟩⟩
  · have hlt := (Array.getElem?_eq_some_iff.1 hgo).1
    exact ⟨b2.1, .inr ⟨g, cap, cur, rfl, hgb, (hb.block g hlt (by omega) (by omega)).trans hgo, hrest⟩⟩
theorem But.of_below {x y : Nat} {A B : World} (g : Below A.heap.size A B) : But x y A B := (But.refl x y A).past g
/-- Fails with an error. -/
def PassX (w : World) (e : Int) (Wr : World) : Prop :=
  Blk Wr (w.heap.size + 1 + 1) #[.slice none 0 0] 78 ∧ Blk Wr (w.heap.size + 1 + 1 + 1) #[.slice none 0 0] 78 ∧ Blk Wr (w.heap.size + 1 + 1 + 1 + 1) #[.int .i64 e] 26 ∧ Below w.heap.size w Wr
theorem PassX.own {β : Type} {w : World} {e : Int} {B : Nat} (hB : w.heap.size ≤ B) : OwnFrom B (fun (_ : β) Wr => PassX w e Wr) := fun s X Y row hs hg hr =>
  have hr2 : ∀ r, row = some r → ∃ o : Obj, X.heap[r]? = some o ∧ o.isCells = false := fun r e => (hr r e).2
  ⟨blk_own _ _ (fun _ : Unit => _) () X Y row hs.1 hg hr2, blk_own _ _ (fun _ : Unit => _) () X Y row hs.2.1 hg hr2, blk_own _ _ (fun _ : Unit => _) () X Y row hs.2.2.1 hg hr2, ownFrom_below (β := Unit) (Nat.le_refl _) hB () X Y row hs.2.2.2 hg hr⟩
/-- A tier whose bricks all rest on something. -/
structure TierOk (ts : List (List Int × List Int)) (ti : Nat) : Prop where
  wt : ∀ b, b < (ts[ti]?.getD ([], [])).2.length → 0 ≤ (ts[ti]?.getD ([], [])).2[b]?.getD 0 ∧ (ts[ti]?.getD ([], [])).2[b]?.getD 0 ≤ 1000
  rs : ∀ b, b < (ts[ti]?.getD ([], [])).2.length → 1 ≤ (restsL ts ti b).length
theorem But.keptT {n₀ bt x y : Nat} {A B : World} (h : But x y A B) (hx : A.heap.size ≤ x) {vs : Array Value} {T : TypeId} (hy : Blk A y vs T) (h0 : n₀ ≤ y) (h1 : T ≠ 143) (h2 : T ≠ 74) (h3 : T ≠ 128) (hb : y ≠ bt) : Kept (KT n₀ bt) A B :=
  ⟨h.size, fun k o hk ho => by
    have hlt := (Array.getElem?_eq_some_iff.1 hk).1
    refine (h.block k hlt (by omega) (fun e => ?_)).trans hk
    subst e
    rw [show A.heap[k]? = _ from hy] at hk
    cases hk
    rcases ho with h4 | ⟨h4, _⟩
    · exact KS.other h0 h1 h2 h3 h4
    · exact hb h4⟩
theorem Blk.ne {W : World} {a b : Nat} {vs us : Array Value} {S T : TypeId} (h : Blk W a vs S) (g : Blk W b us T) (hne : S ≠ T) : a ≠ b := by
  intro e
  subst e
  have h' : W.heap[a]? = some (.cells vs S) := h
  have g' : W.heap[a]? = some (.cells us T) := g
  rw [h'] at g'
  cases g'
  exact hne rfl
theorem via {A : World} {T : World → Prop} {G : Prop} (h : (∀ W5, Below A.heap.size A W5 → T W5) → G) (k : ∀ W5, Below A.heap.size A W5 → T W5) : G := h k
theorem own_shape2 {W : World} {base k : Nat} {v : Value} {e : TypeId} {xs : List Value} (h : W.ownsRow base e 2 v k xs) : ∃ p c, v = .slice p k c := by
  rcases h.2 with ⟨rfl, rfl⟩ | ⟨g, cap, cur, rfl, _⟩
  · exact ⟨_, _, rfl⟩
  · exact ⟨_, _, rfl⟩
theorem kt_set {n₀ bt b i : Nat} {W : World} {vs : Array Value} {T : TypeId} (h : Blk W b vs T) (h0 : n₀ ≤ b) (h1 : T ≠ 143) (h2 : T ≠ 74) (h3 : T ≠ 128) (hb : b ≠ bt) (u : Value) :
    Kept (KT n₀ bt) W (W.setCell ⟨b, i, none⟩ u) := Kept.setCell _ _ _ (fun o ho => by
  rw [show W.heap[b]? = _ from h] at ho
  cases ho
  rintro (h4 | ⟨h4, _⟩)
  · exact KS.other h0 h1 h2 h3 h4
  · exact hb h4)
theorem ks_set {n₀ b i : Nat} {W : World} {vs : Array Value} {T : TypeId} (h : Blk W b vs T) (h0 : n₀ ≤ b) (h1 : T ≠ 143) (h2 : T ≠ 74) (h3 : T ≠ 128) (u : Value) :
    Kept (KS n₀) W (W.setCell ⟨b, i, none⟩ u) := Kept.setCell _ _ _ (fun o ho => by
  rw [show W.heap[b]? = _ from h] at ho
  cases ho
  exact KS.other h0 h1 h2 h3)
theorem PassI.past {w : World} {W H : Int} {tv : Value} {gp g7 N base : Nat} {pr ls bl : List (Nat × Nat)} {A B : World} (h : PassI w W H tv gp g7 N base pr ls bl A) (hb : Below A.heap.size A B) : PassI w W H tv gp g7 N base pr ls bl B := by
  obtain ⟨lv, b1, b2, _⟩ := h.ld
  exact ⟨h.s.past hb, h.p.past hb, ⟨lv, Blk.past b1 hb, b2.kept (row := none) ⟨hb.os, hb.tape, hb.output, hb.size, fun i hi _ => hb.block i hi⟩ (by cases hv : lv.ownBlock <;> simp), trivial⟩, h.bw.past hb, Blk.past h.lb hb, Blk.past h.lp hb, h.b.trans (hb.mono h.b.size)⟩
theorem ownFrom_keptT {β : Type} {n₀ bt B : Nat} {w : World} (hB : n₀ ≤ B) : OwnFrom B (fun (_ : β) W => Kept (KT n₀ bt) w W) := fun s X Y row hs hg hr =>
  ⟨Nat.le_trans hs.size hg.size, fun k o hk ho => by
    have hX := hs.same k o hk ho
    refine (hg.block k (Array.getElem?_eq_some_iff.1 hX).1 (fun e => ?_)).trans hX
    obtain ⟨h1, o', h2, h3⟩ := hr k e.symm
    rw [hX] at h2
    cases h2
    rcases ho with (h4 | ⟨vs, f, rfl | rfl | rfl⟩) | ⟨_, h5⟩
    · omega
    · cases h3
    · cases h3
    · cases h3
    · rw [h3] at h5; cases h5⟩
theorem PassI.setB {w : World} {W H : Int} {tv : Value} {gp g7 N base : Nat} {pr ls bl bl' : List (Nat × Nat)} {A B : World} (h : PassI w W H tv gp g7 N base pr ls bl A) (hb : But g7 g7 A B) (hl : LoadsB B g7 bl')
    (hg75 : w.heap.size + 5 ≤ g7) (hg7 : g7 < base) (hgp : gp < w.heap.size) : PassI w W H tv gp g7 N base pr ls bl' B := by
  obtain ⟨lv, b1, b2, _⟩ := h.ld
  refine ⟨hb.blk h.s (by omega) (by omega), hb.blk h.p (by omega) (by omega), ⟨lv, hb.blk b1 (by omega) (by omega), ?_, trivial⟩, hb.blk h.bw (by omega) (by omega), hl, hb.blk h.lp (by omega) (by omega), h.b.trans (hb.below h.b.size (by omega) (by omega))⟩
  rcases b2.2 with ⟨rfl, h0⟩ | ⟨g, cap, cur, rfl, hgb, hgo, hrest⟩
  · exact ⟨b2.1, .inl ⟨rfl, h0⟩⟩
  · have hlt := (Array.getElem?_eq_some_iff.1 hgo).1
    exact ⟨b2.1, .inr ⟨g, cap, cur, rfl, hgb, (hb.block g hlt (by omega) (by omega)).trans hgo, hrest⟩⟩
theorem stopHere {p : Prop} (h : True → p) : p := h trivial
theorem cell_two_new (W : World) (x y : Value) (T : TypeId) : ∀ j u, [x, y][j]? = some u → (W.alloc (.cells #[x, y] T)).cell? ((⟨W.heap.size, 0, none⟩ : Addr).add j) = some u := by
  intro j u hj
  have hb := Blk.new W #[x, y] T
  rcases j with _ | _ | j
  · cases hj; exact hb.cell (i := 0) rfl
  · cases hj; exact hb.cell (i := 1) rfl
  · simp at hj
theorem But.of_grown {A B : World} {tmp : Obj} {row : Option Nat} {q : Nat} (y : Nat) (hg : (A.alloc tmp).grownBy B row) (hrow : ∀ j, row = some j → j = q) : But q y A B :=
  ⟨hg.os, hg.tape, hg.output, Nat.le_trans (by simp) hg.size, fun k hk h1 _ => (hg.block k (by simp; omega) (fun e => h1 (hrow k e.symm))).trans (((Below.refl A.heap.size A).alloc (Nat.le_refl _) tmp).block k hk)⟩
theorem But.keptG {K : Nat → Obj → Prop} {x y : Nat} {A B : World} (h : But x y A B) (hx : ∀ o, A.heap[x]? = some o → ¬ K x o) (hy : ∀ o, A.heap[y]? = some o → ¬ K y o) : Kept K A B :=
  ⟨h.size, fun k o hk ho => (h.block k (Array.getElem?_eq_some_iff.1 hk).1 (fun e => by subst e; exact hx o hk ho) (fun e => by subst e; exact hy o hk ho)).trans hk⟩
theorem own_q {W1 W6 : World} {base k : Nat} {v : Value} {xs : List Value} (h1 : W1.ownsRow base 116 2 v k xs) (h : W6.ownsRow base 116 2 v k xs) (hb : base ≤ W6.heap.size) :
    ∃ q, (∀ j, v.ownBlock = some j → j = q) ∧ base ≤ q ∧ (q < W1.heap.size ∨ q = W6.heap.size) ∧ (∀ o, W6.heap[q]? = some o → ∃ vs f, o = .cells vs 116 f) := by
  rcases h.2 with ⟨rfl, _⟩ | ⟨g, cap, cur, rfl, hgb, hgo, _⟩
  · exact ⟨W6.heap.size, fun j e => by simp [Value.ownBlock] at e, hb, .inr rfl, fun o ho => by simp at ho⟩
  · refine ⟨g, fun j e => ?_, hgb, .inl (ownsRow_block h1 rfl).2, fun o ho => ?_⟩
    · simp [Value.ownBlock] at e; exact e.symm
    · rw [hgo] at ho; cases ho; exact ⟨_, _, rfl⟩
theorem flatL_snoc (ls : List (Nat × Nat)) (v1 v2 : Nat) : flatL (ls ++ [(v1, v2)]) = flatL ls ++ [.int .i64 v1, .int .i64 v2] := by simp [flatL]
theorem PassI.append {w : World} {W H : Int} {tv : Value} {gp g7 N base : Nat} {pr ls bl : List (Nat × Nat)} {W6 w3 : World} {v v' : Value} {q v1 v2 : Nat} {tmp : Obj} (h : PassI w W H tv gp g7 N base pr ls bl W6)
    (b1 : Boxed W6 (w.heap.size + 1 + 1) 78 v) (b2 : W6.ownsRow base 116 2 v ls.length (flatL ls)) (hq1 : ∀ j, v.ownBlock = some j → j = q) (hq2 : base ≤ q) (h5 : w.heap.size + 5 ≤ base) (hg7 : g7 < base)
    (hgp : gp < w.heap.size) (hg75 : w.heap.size + 5 ≤ g7) (hown : w3.ownsRow base 116 2 v' (ls.length + 1) (flatL ls ++ [.int .i64 v1, .int .i64 v2])) (hgrow : (W6.alloc tmp).grownBy w3 v.ownBlock) :
    Boxed w3 (w.heap.size + 1 + 1) 78 v ∧ PassI w W H tv gp g7 N base pr (ls ++ [(v1, v2)]) bl (w3.setCell ⟨w.heap.size + 1 + 1, 0, none⟩ v') ∧ But q (w.heap.size + 1 + 1) W6 (w3.setCell ⟨w.heap.size + 1 + 1, 0, none⟩ v') ∧ KeepsOthers W6 (w3.setCell ⟨w.heap.size + 1 + 1, 0, none⟩ v') := by
  have hte : (78 : TypeId) ≠ 116 := by decide
  have hv1 := (b1.alloc tmp).kept hgrow (b1.not_row hte b2)
  have nb := (But.of_grown (w.heap.size + 1 + 1) hgrow hq1).set (i := 0) (w.heap.size + 1 + 1) (.inr rfl) v'
  have l1 := h.s.lt
  have l2 := h.b.size
  have l3 := Boxed.lt b1
  refine ⟨hv1, ⟨nb.blk h.s (by omega) (by omega), nb.blk h.p (by omega) (by omega), ⟨v', hv1.set v', ?_, trivial⟩, nb.blk h.bw (by omega) (by omega), nb.blk h.lb (by omega) (by omega), nb.blk h.lp (by omega) (by omega), h.b.trans (nb.below l2 (by omega) (by omega))⟩, nb, ?_⟩
  · have h9 := hown.kept (grownBy_setCell w3 ⟨w.heap.size + 1 + 1, 0, none⟩ v') (.inr (hv1.not_row hte hown).symm)
    rw [flatL_snoc, List.length_append]
    exact h9
  · refine ((KeepsOthers.alloc W6 tmp).trans (KeepsOthers.of_grownBy hgrow fun j o ej hj => ?_)).trans (KeepsOthers.setCell _ _ _)
    rcases (b2.alloc tmp).2 with ⟨rfl, _⟩ | ⟨g, cap, cur, rfl, _, hgb, _⟩
    · simp [Value.ownBlock] at ej
    · obtain rfl : g = j := by simpa [Value.ownBlock] using ej
      rw [hgb] at hj; cases hj; rfl
theorem passS_len {ts : List (List Int × List Int)} {ti : Nat} {pr : List (Nat × Nat)} {pre : List Nat} {ls bl ls' bl' : List (Nat × Nat)} (h : passS ts ti pr pre ls bl = (ls', bl', 0)) : ls'.length = ls.length + pre.length := by
  induction pre generalizing ls bl with
  | nil => simp only [passS] at h; cases h; simp
  | cons x pre ih =>
    simp only [passS] at h
    split at h
    · rw [ih h]; simp; omega
    · rename_i h2; exact absurd (congrArg (·.2.2) h) h2
theorem setAll_len (bl : List (Nat × Nat)) (cs : List Nat) (E : Nat × Nat) : (setAll bl cs E).length = bl.length := by
  unfold setAll
  induction cs generalizing bl with
  | nil => rfl
  | cons c cs ih => rw [List.foldl_cons, ih]; simp
theorem setAll_snoc (bl : List (Nat × Nat)) (cs : List Nat) (c : Nat) (E : Nat × Nat) : setAll bl (cs ++ [c]) E = (setAll bl cs E).set c E := by simp [setAll, List.foldl_append]
set_option maxRecDepth 100000 in
set_option maxHeartbeats 4000000 in
theorem passOn_any (n₀ : Nat) (W H : Int) (tv : Value) (ts : List (List Int × List Int)) (ti gp : Nat) (pr : List (Nat × Nat)) (w : World) (hW : 1 ≤ W ∧ W ≤ 12) (hH : 1 ≤ H ∧ H ≤ 12)
    (hN : ∀ i, i < ts.length → (ts[i]?.getD ([], [])).1.length = (W * H).toNat) (ht : TiersAt n₀ w tv ts) (hti : ti < ts.length) (hok : TierOk ts ti) (hnb : (ts[ti]?.getD ([], [])).2.length ≤ 144)
    (hp : LoadsB w gp pr) (hpl : pr.length = (W * H).toNat) (hpo : ∀ i, i < pr.length → LoadOk (pr[i]?.getD (0, 1))) :
    Calls Try.prog 97 #[.agg #[.int .i64 W, .int .i64 H, tv], .int .i64 ti, .slice (some ⟨gp, 0, none⟩) (W * H).toNat (W * H).toNat] w fun e w' =>
      ∃ lv bv, e = .returned (.tuple #[lv, bv, .int .i64 (passF ts ti (W * H).toNat pr).2.2]) ∧ Below w.heap.size w w' ∧
        ((passF ts ti (W * H).toNat pr).2.2 = 0 → w'.ownsRow w.heap.size 116 2 lv (passF ts ti (W * H).toNat pr).1.length (flatL (passF ts ti (W * H).toNat pr).1) ∧ ∃ g, bv = .slice (some ⟨g, 0, none⟩) (W * H).toNat (W * H).toNat ∧ w.heap.size ≤ g ∧ LoadsB w' g (passF ts ti (W * H).toNat pr).2.1) ∧
        ((passF ts ti (W * H).toNat pr).2.2 ≠ 0 → lv = .slice none 0 0 ∧ bv = .slice none 0 0) := by
  obtain ⟨a, cap, rfl, hl, hn, _⟩ := ht.placed
  have hr := prod_range hW hH
  obtain ⟨N, hNN⟩ : ∃ N : Nat, (W * H).toNat = N := ⟨_, rfl⟩
  have hUL := fun w => unloaded_any W H (.slice a ts.length cap) w hW hH ⟨_, _, _, rfl⟩
  rw [hNN] at hN hpl hUL ⊢
  have hN1 : N ≤ 144 := by omega
  have hgp := Blk.lt hp
  obtain ⟨tg, hpf⟩ : ∃ tg, passF ts ti N pr = tg := ⟨_, rfl⟩
  have HPF := Lib.hid hpf.symm
  unfold passF at HPF
  rw [hpf]
  have HUL := Lib.hid hUL
  refine (callsIn_wide (n := 9)).1 ?_
  refine callsIn_of_wp_marks Try.func97 rfl trivial ?_ rfl
  simp only [Try.ntmps97, List.size_toArray, List.length_cons, List.length_nil, Nat.reduceAdd, Nat.reduceSub, Array.replicate_succ, Array.replicate_zero, List.push_toArray, List.append_toArray, List.nil_append, List.cons_append]
  clear hpf hUL
  have A1 := ((((Blk.new w #[.int .i64 W, .int .i64 H, .slice a ts.length cap] 143).alloc (.cells #[.slice (some ⟨gp, 0, none⟩) N N] 78)).alloc (.cells #[.slice none 0 0] 78)).alloc (.cells #[.slice none 0 0] 78)).alloc (.cells #[.int .i64 0] 26)
  have A2 := (((Blk.newI (w.alloc (.cells #[.int .i64 W, .int .i64 H, .slice a ts.length cap] 143)) (w.heap.size + 1) #[.slice (some ⟨gp, 0, none⟩) N N] 78 (by simp)).alloc (.cells #[.slice none 0 0] 78)).alloc (.cells #[.slice none 0 0] 78)).alloc (.cells #[.int .i64 0] 26)
  have A3 := ((Blk.newI ((w.alloc (.cells #[.int .i64 W, .int .i64 H, .slice a ts.length cap] 143)).alloc (.cells #[.slice (some ⟨gp, 0, none⟩) N N] 78)) (w.heap.size + 1 + 1) #[.slice none 0 0] 78 (by simp)).alloc (.cells #[.slice none 0 0] 78)).alloc (.cells #[.int .i64 0] 26)
  have A4 := (Blk.newI (((w.alloc (.cells #[.int .i64 W, .int .i64 H, .slice a ts.length cap] 143)).alloc (.cells #[.slice (some ⟨gp, 0, none⟩) N N] 78)).alloc (.cells #[.slice none 0 0] 78)) (w.heap.size + 1 + 1 + 1) #[.slice none 0 0] 78 (by simp)).alloc (.cells #[.int .i64 0] 26)
  have A5 := Blk.newI ((((w.alloc (.cells #[.int .i64 W, .int .i64 H, .slice a ts.length cap] 143)).alloc (.cells #[.slice (some ⟨gp, 0, none⟩) N N] 78)).alloc (.cells #[.slice none 0 0] 78)).alloc (.cells #[.slice none 0 0] 78)) (w.heap.size + 1 + 1 + 1 + 1) #[.int .i64 0] 26 (by simp)
  have BB := ((((Below.refl _ w).alloc (Nat.le_refl _) (.cells #[.int .i64 W, .int .i64 H, .slice a ts.length cap] 143)).alloc (by simp) (.cells #[.slice (some ⟨gp, 0, none⟩) N N] 78)).alloc (by simp; omega) (.cells #[.slice none 0 0] 78)).alloc (by simp; omega) (.cells #[.slice none 0 0] 78) |>.alloc (by simp; omega) (.cells #[.int .i64 0] 26)
  have hs1 : (((((w.alloc (.cells #[.int .i64 W, .int .i64 H, .slice a ts.length cap] 143)).alloc (.cells #[.slice (some ⟨gp, 0, none⟩) N N] 78)).alloc (.cells #[.slice none 0 0] 78)).alloc (.cells #[.slice none 0 0] 78)).alloc (.cells #[.int .i64 0] 26)).heap.size = w.heap.size + 5 := by simp
  have k0 := A1.cell (i := 0) (v := .int .i64 W) rfl
  have k1 := A1.cell (i := 1) (v := .int .i64 H) rfl
  have k2 := A1.cell (i := 2) (v := .slice a ts.length cap) rfl
  gi_wp2_with fail
  refine ⟨trivial, ?_⟩
  clear k0 k1 k2
  obtain ⟨w1, hw1⟩ : ∃ w1, ((((w.alloc (.cells #[.int .i64 W, .int .i64 H, .slice a ts.length cap] 143)).alloc (.cells #[.slice (some ⟨gp, 0, none⟩) N N] 78)).alloc (.cells #[.slice none 0 0] 78)).alloc (.cells #[.slice none 0 0] 78)).alloc (.cells #[.int .i64 0] 26) = w1 := ⟨_, rfl⟩
  rw [hw1] at A1 A2 A3 A4 A5 BB hs1 ⊢
  clear hw1
  refine (callsIn_wide.2 (HUL.out _)).mono ?_
  rintro e w2 ⟨g7, rfl, hg7, hg7w, hb2⟩
  have A1 := A1.past hb2
  have A2 := A2.past hb2
  have A3 := A3.past hb2
  have A4 := A4.past hb2
  have A5 := A5.past hb2
  have BB := BB.trans (hb2.mono BB.size)
  have hl7 := Blk.lt hg7
  have f4 := A4.fr (i := 0)
  have c4 := A4.cell (i := 0) (v := .slice none 0 0) rfl
  have e0 := A1.cell (i := 0) (v := .int .i64 W) rfl
  have e1 := A1.cell (i := 1) (v := .int .i64 H) rfl
  have e2 := A1.cell (i := 2) (v := .slice a ts.length cap) rfl
  -- below is stored
  have P0 : PassI w W H (.slice a ts.length cap) gp g7 N (w2.heap.size + 2) pr [] (List.replicate N (0, 1)) (w2.setCell ⟨w.heap.size + 1 + 1 + 1, 0, none⟩ (.slice (some ⟨g7, 0, none⟩) N N)) :=
    ⟨A1.far (by omega), A2.far (by omega), ⟨.slice none 0 0, A3.far (by omega), World.ownsRow_nil _ _ _ _, trivial⟩, A4.set 0 (by simp) _ rfl, Blk.far hg7 (by omega), Blk.far (Blk.below hp BB hgp) (by omega), BB.setCell (show w.heap.size ≤ w.heap.size + 1 + 1 + 1 by omega) _⟩
  have E0 : Blk (w2.setCell ⟨w.heap.size + 1 + 1 + 1, 0, none⟩ (.slice (some ⟨g7, 0, none⟩) N N)) (w.heap.size + 1 + 1 + 1 + 1) #[.int .i64 0] 26 := A5.far (by omega)
  have hsz0 : (w2.setCell ⟨w.heap.size + 1 + 1 + 1, 0, none⟩ (.slice (some ⟨g7, 0, none⟩) N N)).heap.size = w2.heap.size := World.size_setCell _ _ _
  have hg75 : w.heap.size + 5 ≤ g7 := by omega
  obtain ⟨base, hbase⟩ : ∃ base, w2.heap.size = base := ⟨_, rfl⟩
  rw [hbase] at P0 hsz0 hl7
  clear A1 A2 A3 A4 A5 BB hg7 hg7w hb2 hs1
  gi_wp2_with fail
  refine ⟨trivial, ?_⟩
  obtain ⟨W0, hW0⟩ : ∃ W0, w2.setCell ⟨w.heap.size + 1 + 1 + 1, 0, none⟩ (.slice (some ⟨g7, 0, none⟩) N N) = W0 := ⟨_, rfl⟩
  rw [hW0] at P0 E0 hsz0 ⊢
  clear hW0 f4 c4 e0 e1 e2
  refine (callsIn_wide.2 (tier_mk (.int .i64 W) (.int .i64 H) (.slice a ts.length cap) ti _)).mono ?_
  rintro e w3 ⟨rfl, rfl⟩
  gi_wp2_with fail
  have SX := (Blk.newI W0 base #[.int .i64 W, .int .i64 H, .slice a ts.length cap] 143 hsz0).alloc (.cells #[.int .i64 ti] 3)
  have TX := Blk.newI (W0.alloc (.cells #[.int .i64 W, .int .i64 H, .slice a ts.length cap] 143)) (base + 1) #[.int .i64 ti] 3 (by simp [hsz0])
  have hb5 : Below W0.heap.size W0 ((W0.alloc (.cells #[.int .i64 W, .int .i64 H, .slice a ts.length cap] 143)).alloc (.cells #[.int .i64 ti] 3)) := ((Below.refl _ W0).alloc (Nat.le_refl _) _).alloc (by simp) _
  have hs5 : ((W0.alloc (.cells #[.int .i64 W, .int .i64 H, .slice a ts.length cap] 143)).alloc (.cells #[.int .i64 ti] 3)).heap.size = base + 2 := by simp [hsz0]
  obtain ⟨w5, hw5⟩ : ∃ w5, (W0.alloc (.cells #[.int .i64 W, .int .i64 H, .slice a ts.length cap] 143)).alloc (.cells #[.int .i64 ti] 3) = w5 := ⟨_, rfl⟩
  rw [hw5] at SX TX hb5 hs5 ⊢
  clear hw5
  have P5 := P0.past hb5
  have E5 := E0.past hb5
  have T5 := ht.keptK (Kept.of_below (K := KS n₀) (P5.b.mono (Nat.le_refl _)))
  obtain ⟨nb, hnbb⟩ : ∃ nb, (ts[ti]?.getD ([], [])).2.length = nb := ⟨_, rfl⟩
  have hit := tier_iter n₀ _ _ _ _ _ ti ts w5 SX TX T5 hti
  rw [hnbb] at hit hnb HPF
  have HP5 := Lib.hid P5
  have HE5 := Lib.hid E5
  have HT := Lib.hid T5
  have HN := Lib.hid hN
  have HOK := Lib.hid hok
  have HPO := Lib.hid hpo
  clear P0 E0 P5 E5 T5 SX TX hb5 ht hN hok hpo hp HUL
  apply range_outerB (gf := 99) (lb := #[.pointer (some ⟨base, 0, none⟩), .pointer (some ⟨base + 1, 0, none⟩)]) rfl (enters_of Try.func99 (by kernel_rfl) rfl)
    hit (fun j r hj => by rintro (h | ⟨h, h'⟩); exact KS.loop (by omega) r h; cases h') (fun _ => rfl)
    (fun pre W' => (∃ ls bl, passS ts ti pr pre [] (List.replicate N (0, 1)) = (ls, bl, 0) ∧ bl.length = N ∧ PassI w W H (.slice a ts.length cap) gp g7 N (base + 2) pr ls bl W') ∧ Blk W' (w.heap.size + 1 + 1 + 1 + 1) #[.int .i64 0] 26 ∧ Kept (KT n₀ (base + 1)) w5 W')
    (fun c pre W' => c = .ret ∧ ∃ e, e ≠ 0 ∧ passS ts ti pr pre [] (List.replicate N (0, 1)) = ([], [], e) ∧ PassX w e W')
    (OwnFrom.and (fun s A C row hs hg hr => by obtain ⟨ls, bl, h1, h2, h3⟩ := hs; exact ⟨ls, bl, h1, h2, PassI.own (β := Unit) (by omega) () A C row h3 hg hr⟩) (OwnFrom.and (Own.from (blk_own _ _ (fun _ => #[Value.int .i64 0])) _) (ownFrom_keptT (by omega))))
    (fun c s A C row hs hg hr => by obtain ⟨hc, e, h1, h2, h3⟩ := hs; exact ⟨hc, e, h1, h2, PassX.own (β := Unit) (by omega) () A C row h3 hg hr⟩)
    ⟨⟨[], _, rfl, by simp, HP5.out⟩, HE5.out, Kept.refl _ _⟩ (fun x : Nat => #[.int .i64 ti, .int .i64 x]) 74
  case hassign =>
    rintro l pre x W' Q ⟨⟨ls, bl, h1, h2, h3⟩, h4, h5⟩ hQ
    obtain ⟨kb, hkb⟩ : ∃ kb, W'.heap.size = kb := ⟨_, rfl⟩
    have hX := Blk.newI W' kb #[.int .i64 ti, .int .i64 x] 74 hkb
    gi_wp2
    exact hQ kb _ ((KeepsOthers.alloc _ _).from _) (Kept.alloc _ _ _) ⟨⟨ls, bl, h1, h2, h3.past ((Below.refl _ _).alloc (Nat.le_refl _) _)⟩, h4.alloc _, h5.trans (Kept.alloc _ _ _)⟩ hX
  case hbody =>
    rintro l pre x Bx W1 hl ⟨r, hr⟩ ⟨⟨ls, bl, h1, h2, h3⟩, h4, h5⟩ hBx hpre
    obtain ⟨hpx, hx⟩ := range_pre hpre
    have hlt1 := h3.s.lt
    have hlB := (Array.getElem?_eq_some_iff.1 hr).1
    obtain ⟨b10, hb10⟩ : ∃ b10, W1.heap.size = b10 := ⟨_, rfl⟩
    have bb2 := (Below.refl W1.heap.size W1).alloc (Nat.le_refl _) (.cells #[.int .i64 0, .int .i64 1] 116)
    have X2 := Blk.newI W1 b10 #[.int .i64 0, .int .i64 1] 116 hb10
    have P2 := h3.past bb2
    have E2 := h4.past bb2
    have Z2 := hBx.past bb2
    have K2 := h5.trans (Kept.alloc (KT n₀ (base + 1)) W1 (.cells #[.int .i64 0, .int .i64 1] 116))
    have T2 := HT.out.keptK K2.toS
    have hr2 : (W1.alloc (.cells #[.int .i64 0, .int .i64 1] 116)).heap[l]? = some (.loop r) := (bb2.block l hlB).trans hr
    have k0 := P2.s.cell (i := 0) (v := .int .i64 W) rfl
    have k1 := P2.s.cell (i := 1) (v := .int .i64 H) rfl
    have k2 := P2.s.cell (i := 2) (v := .slice a ts.length cap) rfl
    have z0 := Z2.cell (i := 0) (v := .int .i64 ti) rfl
    have z1 := Z2.cell (i := 1) (v := .int .i64 x) rfl
    have hsz2 : (W1.alloc (.cells #[.int .i64 0, .int .i64 1] 116)).heap.size = b10 + 1 := by simp [hb10]
    have HS1 := Lib.hid h1
    gi_wp2_with fail
    refine ⟨trivial, ?_⟩
    obtain ⟨W2, hW2⟩ : ∃ W2, W1.alloc (.cells #[.int .i64 0, .int .i64 1] 116) = W2 := ⟨_, rfl⟩
    rw [hW2] at bb2 X2 P2 E2 Z2 K2 T2 hr2 hsz2 ⊢
    clear hW2 k0 k1 k2 z0 z1
    refine (CallsIn.inRound l (callsIn_wide.2 (cells_call n₀ W H _ ti x ts _ T2 hti))).mono ?_
    rintro e W3 ⟨lb, rfl, hit3, hb3⟩
    have X3 := X2.past hb3
    have P3 := P2.past hb3
    have E3 := E2.past hb3
    have Z3 := Z2.past hb3
    have K3 := K2.trans (Kept.of_below hb3)
    have T3 := T2.past hb3
    have hr3 : W3.heap[l]? = some (.loop r) := (hb3.block l (Array.getElem?_eq_some_iff.1 hr2).1).trans hr2
    have hs3 := hb3.size
    have hb13 := bb2.trans (hb3.mono bb2.size)
    clear X2 P2 E2 Z2 K2 T2 hr2
    gi_wp2_with fail
    apply range_inner1 (l₀ := l) (r₀ := r) hr3 (gf := 100) (lb := lb) rfl (enters_of Try.func100 (by kernel_rfl) rfl)
      hit3 (fun j r hj => KS.loop (by omega) r) (fun _ => rfl)
      (fun pre' W' => (∃ acc : Nat × Nat, sumF pr pre' (0, 1) = (acc, 0) ∧ LoadOk acc ∧ Blk W' b10 #[.int .i64 acc.1, .int .i64 acc.2] 116) ∧ (Blk W' (w.heap.size + 1 + 1 + 1 + 1) #[.int .i64 0] 26 ∧ (But b10 (w.heap.size + 1 + 1 + 1 + 1) W1 W' ∧ KeepsFrom w5.heap.size W3 W')))
      (fun c pre' W' => c = .ret ∧ KeepsFrom w5.heap.size W3 W' ∧ ∃ e, e ≠ 0 ∧ (sumF pr pre' (0, 1)).2 = e ∧ PassX w e W')
      (OwnFrom.and (fun s A C row hs hg hr => by obtain ⟨acc, y1, y2, y3⟩ := hs; exact ⟨acc, y1, y2, blk_own _ _ (fun _ : Unit => _) () A C row y3 hg (fun r e => (hr r e).2)⟩) (OwnFrom.and (Own.from (blk_own _ _ (fun _ => #[Value.int .i64 0])) _) (OwnFrom.and (But.own (by omega)) (ownFrom_keepsFrom (Nat.le_refl _)))))
      (fun c s A C row hs hg hr => by obtain ⟨hc, hk, e, y1, y2, y3⟩ := hs; exact ⟨hc, ownFrom_keepsFrom (β := Unit) (Nat.le_refl _) () A C row hk hg hr, e, y1, y2, PassX.own (β := Unit) (by omega) () A C row y3 hg hr⟩)
      ⟨⟨(0, 1), rfl, by simp [LoadOk], X3⟩, E3, But.of_below hb13, KeepsFrom.refl _ _⟩
    case hassign =>
      intro l2 pre' x' W' Q hi hQ
      gi_wp2
      exact hQ _ _ (KeepsFrom.refl _ _) (Kept.refl _ _) hi rfl
    case hbody =>
      rintro l2 pre' c W4 hl2 hr4 ⟨⟨acc, y1, y2, y3⟩, y4, y5, y6⟩ hpre'
      have hc : c < N := by have := cellsL_lt (hpre'.subset (by simp : c ∈ pre' ++ [c])); rw [HN.out ti hti] at this; exact this
      have P4 := h3.but y5 (by omega) hg75 (by omega) hgp
      have lp := LoadsB.cell P4.lp (i := c) (by omega)
      have l0 := y3.cell (i := 0) (v := .int .i64 acc.1) rfl
      have l1 := y3.cell (i := 1) (v := .int .i64 acc.2) rfl
      have p5 := P4.p.cell (i := 0) (v := .slice (some ⟨gp, 0, none⟩) N N) rfl
      have hcN : (c : Int) < (N : Int) := by omega
      have hc0 : (0 : Int) ≤ (c : Int) := by omega
      obtain ⟨lp0, lp1⟩ := lp
      obtain ⟨u1, u2, hu⟩ : ∃ u1 u2, pr[c]?.getD (0, 0) = (u1, u2) := ⟨_, _, rfl⟩
      have hu' : pr[c]?.getD (0, 1) = (u1, u2) := by rw [← hu]; simp [show c < pr.length by omega]
      rw [hu] at lp0 lp1
      have huo := HPO.out c (by omega)
      rw [hu'] at huo
      obtain ⟨v1, v2⟩ := acc
      have hmix : Try.prog.follows .mixedOrders = true := by kernel_rfl
      have hpl := fun w => plus_any v1 v2 u1 u2 w y2.1 y2.2.1 y2.2.2 huo.1 huo.2.1 huo.2.2
      have haf := addF_ok y2 huo
      have hsn := sumF_snoc c y1
      rw [hu'] at hsn
      obtain ⟨q1, q2, q3, hq⟩ : ∃ q1 q2 q3, lowestF (v1 * u2 + u1 * v2) (v2 * u2) = (q1, q2, q3) := ⟨_, _, _, rfl⟩
      have hadd : addF (v1, v2) (u1, u2) = ((q1.toNat, q2.toNat), q3) := by unfold addF low; rw [hq]
      have hq0 := lowestF_ok (n := v1 * u2 + u1 * v2) (d := v2 * u2) (Nat.mul_le_mul y2.2.1 huo.2.1)
      rw [hq] at hpl hq0
      rw [hadd] at hsn haf
      have HPL := Lib.hid hpl
      have HSN := Lib.hid hsn
      clear hpl hsn hq hadd hu hu'
      gi_wp2_with fail
      apply via (A := W4.drew)
      · intro HCON
        gi_region_with_o (refine ⟨trivial, ?_⟩; gi_at_call 106; refine (CallsIn.inRound l2 (callsIn_wide.2 (HPL.out _))).mono ?_; rintro e W5 ⟨rfl, hb5⟩; have Y5 := (Blk.drew y3).past hb5; have V5 := (Blk.drew y4).past hb5; have s0 := Y5.cell (i := 0) (v := .int .i64 v1) rfl; have s1 := Y5.cell (i := 1) (v := .int .i64 v2) rfl; have f0 := Y5.fr (i := 0); have f1 := Y5.fr (i := 1); have s2 := V5.cell (i := 0) (v := .int .i64 0) rfl; have f2 := V5.fr (i := 0))
        all_goals exact HCON W5 hb5
      · intro W5 hb5
        have Y5 := (Blk.drew y3).past hb5
        have V5 := (Blk.drew y4).past hb5
        have N5 := y5.drew.past hb5
        have P5 := P4.past ((Below.refl W4.heap.size W4).drew.trans hb5)
        have hbx : b10 ≠ w.heap.size + 1 + 1 + 1 + 1 := by omega
        have Y8 := ((Y5.set 0 (by simp) (.int .i64 q1) rfl).set 1 (by simp) (.int .i64 q2) rfl).far (b' := w.heap.size + 1 + 1 + 1 + 1) (i := 0) (u := .int .i64 q3) hbx
        have V8 := ((V5.far (b' := b10) (i := 0) (u := .int .i64 q1) hbx.symm).far (b' := b10) (i := 1) (u := .int .i64 q2) hbx.symm).set 0 (by simp) (.int .i64 q3) rfl
        have N8 := ((N5.set b10 (.inl rfl) (i := 0) (.int .i64 q1)).set b10 (.inl rfl) (i := 1) (.int .i64 q2)).set (w.heap.size + 1 + 1 + 1 + 1) (.inr rfl) (i := 0) (.int .i64 q3)
        have kf := (KeepsFrom.of_below (B := w5.heap.size) ((Below.refl W4.heap.size W4).drew.trans hb5)).trans ((((KeepsOthers.setCell W5 ⟨b10, 0, none⟩ (.int .i64 q1)).trans (KeepsOthers.setCell _ ⟨b10, 1, none⟩ (.int .i64 q2))).trans (KeepsOthers.setCell _ ⟨w.heap.size + 1 + 1 + 1 + 1, 0, none⟩ (.int .i64 q3))).from _)
        have ks : Kept (KS n₀) W4 (((W5.setCell ⟨b10, 0, none⟩ (.int .i64 q1)).setCell ⟨b10, 1, none⟩ (.int .i64 q2)).setCell ⟨w.heap.size + 1 + 1 + 1 + 1, 0, none⟩ (.int .i64 q3)) :=
          (((Kept.of_below ((Below.refl W4.heap.size W4).drew.trans hb5)).trans (ks_set Y5 (by omega) (by decide) (by decide) (by decide) _)).trans (ks_set (Y5.set 0 (by simp) (.int .i64 q1) rfl) (by omega) (by decide) (by decide) (by decide) _)).trans (ks_set ((V5.far (b' := b10) (i := 0) (u := .int .i64 q1) hbx.symm).far (b' := b10) (i := 1) (u := .int .i64 q2) hbx.symm) (by omega) (by decide) (by decide) (by decide) _)
        have P8 := h3.but N8 (by omega) hg75 (by omega) hgp
        obtain ⟨W8, hW8⟩ : ∃ W8, ((W5.setCell ⟨b10, 0, none⟩ (.int .i64 q1)).setCell ⟨b10, 1, none⟩ (.int .i64 q2)).setCell ⟨w.heap.size + 1 + 1 + 1 + 1, 0, none⟩ (.int .i64 q3) = W8 := ⟨_, rfl⟩
        rw [hW8] at Y8 V8 N8 kf ks P8 ⊢
        have e0 := V8.cell (i := 0) (v := .int .i64 q3) rfl
        have e1 := V8.fr (i := 0)
        have HY8 := Lib.hid Y8
        have HV8 := Lib.hid V8
        have HN8 := Lib.hid N8
        have HKF := Lib.hid kf
        have HKS := Lib.hid ks
        have HP8 := Lib.hid P8
        clear Y5 V5 N5 P5 Y8 V8 N8 kf ks P8 hW8 hb5
        rcases hq0 with ⟨e3, e4, e5⟩ | ⟨e3, a5, b5, e4, e5, e6, e7⟩
        · have e3 : q3 = 10 := e3
          subst e3
          obtain ⟨lv, b1, b2, _⟩ := HP8.out.ld
          obtain ⟨pv, cv, rfl⟩ := own_shape2 b2
          have c6 := Boxed.cell b1
          have f6 := Boxed.frozen b1
          have c7 := HP8.out.bw.cell (i := 0) (v := .slice (some ⟨g7, 0, none⟩) N N) rfl
          have f7 := HP8.out.bw.fr (i := 0)
          have g6 := Boxed.set (.slice none 0 0) b1
          have x6 : Blk (((W8.setCell ⟨w.heap.size + 1 + 1, 0, none⟩ (.slice none 0 0)).setCell ⟨w.heap.size + 1 + 1 + 1, 0, none⟩ (.slice none 0 0)).setCell ⟨w.heap.size + 1 + 1 + 1 + 1, 0, none⟩ (.int .i64 10)) (w.heap.size + 1 + 1) #[.slice none 0 0] 78 := Blk.far (Blk.far g6 (by omega)) (by omega)
          have x7 := ((HP8.out.bw.far (b' := w.heap.size + 1 + 1) (i := 0) (u := .slice none 0 0) (by omega)).set 0 (by simp) (.slice none 0 0) rfl).far (b' := w.heap.size + 1 + 1 + 1 + 1) (i := 0) (u := .int .i64 10) (by omega)
          have x8 := ((HV8.out.far (b' := w.heap.size + 1 + 1) (i := 0) (u := .slice none 0 0) (by omega)).far (b' := w.heap.size + 1 + 1 + 1) (i := 0) (u := .slice none 0 0) (by omega)).set 0 (by simp) (.int .i64 10) rfl
          have x9 := (((HP8.out.b.setCell (p := ⟨w.heap.size + 1 + 1, 0, none⟩) (show w.heap.size ≤ w.heap.size + 1 + 1 by omega) (.slice none 0 0)).setCell (p := ⟨w.heap.size + 1 + 1 + 1, 0, none⟩) (show w.heap.size ≤ w.heap.size + 1 + 1 + 1 by omega) (.slice none 0 0)).setCell (p := ⟨w.heap.size + 1 + 1 + 1 + 1, 0, none⟩) (show w.heap.size ≤ w.heap.size + 1 + 1 + 1 + 1 by omega) (.int .i64 10))
          have k9 := HKF.out.trans ((((KeepsOthers.setCell W8 ⟨w.heap.size + 1 + 1, 0, none⟩ (.slice none 0 0)).trans (KeepsOthers.setCell _ ⟨w.heap.size + 1 + 1 + 1, 0, none⟩ (.slice none 0 0))).trans (KeepsOthers.setCell _ ⟨w.heap.size + 1 + 1 + 1 + 1, 0, none⟩ (.int .i64 10))).from _)
          have HPX : Hid (PassX w 10 (((W8.setCell ⟨w.heap.size + 1 + 1, 0, none⟩ (.slice none 0 0)).setCell ⟨w.heap.size + 1 + 1 + 1, 0, none⟩ (.slice none 0 0)).setCell ⟨w.heap.size + 1 + 1 + 1 + 1, 0, none⟩ (.int .i64 10))) := Lib.hid ⟨x6, x7, x8, x9⟩
          have HK9 := Lib.hid k9
          have HY6 := Lib.hid y6
          clear g6 x6 x7 x8 x9 k9 b1 b2 y6
          gi_wp2_with fail
          gi_region_with_o (fail)
          all_goals
            gi_wp2
            exact ⟨KeepsFrom.mono (HK9.out.trans ((KeepsOthers.drew _).from _)) (by omega), rfl, HY6.out.trans (HK9.out.trans ((KeepsOthers.drew _).from _)), 10, by decide, by rw [HSN.out], HPX.out.1.drew, HPX.out.2.1.drew, HPX.out.2.2.1.drew, HPX.out.2.2.2.drew⟩
        · have e3 : q3 = 0 := e3
          subst e3
          have e8 : q1 = (a5 : Int) := congrArg (·.1) e4
          have e9 : q2 = (b5 : Int) := congrArg (·.2.1) e4
          subst e8 e9
          have HY6 := Lib.hid y6
          have HSN2 : Hid (sumF pr (pre' ++ [c]) (0, 1) = ((a5, b5), 0)) := Lib.hid (by rw [HSN.out]; simp)
          clear e4 y6
          gi_wp2
          exact ⟨KeepsFrom.mono HKF.out (by omega), HKS.out, ⟨a5, b5, HSN2.out, ⟨e5, e6, e7⟩, HY8.out⟩, HV8.out, HN8.out, KeepsFrom.mono (HY6.out.trans HKF.out) (by omega)⟩
    case hdone =>
      rintro W4 ⟨⟨⟨v1, v2⟩, y1, y2, y3⟩, y4, y5, y6⟩
      have P4 := h3.but y5 (by omega) hg75 (by omega) hgp
      have K4 := h5.trans (y5.keptT (n₀ := n₀) (bt := base + 1) (by omega) h4 (by omega) (by decide) (by decide) (by decide) (by omega))
      have T4 := HT.out.keptK K4.toS
      have Z4 := y5.blk hBx (by have := hBx.lt; omega) (hBx.ne h4 (by decide))
      have kf4 := (KeepsFrom.of_below (B := w5.heap.size) hb13).trans y6
      have k0 := P4.s.cell (i := 0) (v := .int .i64 W) rfl
      have k1 := P4.s.cell (i := 1) (v := .int .i64 H) rfl
      have k2 := P4.s.cell (i := 2) (v := .slice a ts.length cap) rfl
      have z0 := Z4.cell (i := 0) (v := .int .i64 ti) rfl
      have z1 := Z4.cell (i := 1) (v := .int .i64 x) rfl
      have l0 := y3.cell (i := 0) (v := .int .i64 v1) rfl
      have l1 := y3.cell (i := 1) (v := .int .i64 v2) rfl
      obtain ⟨hw0, hw1⟩ := HOK.out.wt x (by rw [hnbb]; exact hx)
      have hrs := HOK.out.rs x (by rw [hnbb]; exact hx)
      obtain ⟨wt, hwt⟩ : ∃ wt : Nat, (ts[ti]?.getD ([], [])).2[x]?.getD 0 = wt := ⟨((ts[ti]?.getD ([], [])).2[x]?.getD 0).toNat, by omega⟩
      rw [hwt] at hw1
      have hpress := pressing_any n₀ W H _ ts ti x v1 v2 wt _ W4 N HN.out hN1 T4 hti (by rw [hnbb]; exact hx) hwt (by omega) y2.1 y2.2.1 y2.2.2 rfl hrs
      have hbr : brickF ts ti pr x = ((v1, v2), ((pressF v1 v2 wt (restsL ts ti x).length).1.toNat, (pressF v1 v2 wt (restsL ts ti x).length).2.1.toNat), (pressF v1 v2 wt (restsL ts ti x).length).2.2) := by
        unfold brickF
        rw [y1, hwt]
        simp
      have hps := passS_snoc x h1
      rw [hbr] at hps
      have hpf9 : (pressF v1 v2 wt (restsL ts ti x).length).2.2 = 0 → ∃ a b : Nat, pressF v1 v2 wt (restsL ts ti x).length = ((a : Int), (b : Int), 0) := by
        intro h0
        unfold pressF at h0 ⊢
        have hd1 : 1 ≤ v2 * 1 := by have := y2.2.1; omega
        rcases lowestF_ok (n := v1 * 1 + wt * v2) hd1 with ⟨e1, _⟩ | ⟨e1, a5, b5, e2, e3, e4, e5⟩
        · rw [e1] at h0; simp at h0
        · rw [e2] at h0 ⊢
          simp only [ne_eq, not_true_eq_false, if_false, Int.toNat_natCast] at h0 ⊢
          have hd2 : 1 ≤ b5 * (restsL ts ti x).length := Nat.mul_le_mul e4 hrs
          rcases lowestF_ok (n := a5) hd2 with ⟨e6, _⟩ | ⟨_, a6, b6, e7, _⟩
          · rw [e6] at h0; simp at h0
          · exact ⟨a6, b6, e7⟩
      obtain ⟨q1, q2, q3, hq⟩ : ∃ q1 q2 q3, pressF v1 v2 wt (restsL ts ti x).length = (q1, q2, q3) := ⟨_, _, _, rfl⟩
      rw [hq] at hpress hps hpf9
      have HPR := Lib.hid hpress
      have HPS := Lib.hid hps
      have HPF9 := Lib.hid hpf9
      clear hpress hps hpf9 hbr hq hwt
      gi_wp2_with fail
      refine ⟨trivial, ?_⟩
      refine (CallsIn.inRound l (callsIn_wide.2 HPR.out)).mono ?_
      rintro e W5 ⟨rfl, hb5⟩
      clear k0 k1 k2 z0 z1 l0 l1
      obtain ⟨b12, hb12⟩ : ∃ b12, W5.heap.size = b12 := ⟨_, rfl⟩
      have bb6 := hb5.alloc hb5.size (.cells #[.int .i64 q1, .int .i64 q2] 116)
      have X6 := Blk.newI W5 b12 #[.int .i64 q1, .int .i64 q2] 116 hb12
      have P6 := P4.past bb6
      have Y6 := y3.past bb6
      have V6 := y4.past bb6
      have Z6 := Z4.past bb6
      have N6 := y5.past bb6
      have K6 := K4.trans (Kept.of_below bb6)
      have kf6 := kf4.trans (KeepsFrom.of_below bb6)
      by_cases hq3 : q3 = 0
      · subst hq3
        obtain ⟨a7, b7, he7⟩ := HPF9.out rfl
        have e8 : q1 = (a7 : Int) := congrArg (·.1) he7
        have e9 : q2 = (b7 : Int) := congrArg (·.2.1) he7
        subst e8 e9
        have hqq : passS ts ti pr (pre ++ [x]) [] (List.replicate N (0, 1)) = (ls ++ [(v1, v2)], setAll bl (restsL ts ti x) (a7, b7), 0) := by rw [HPS.out]; simp
        have HQQ := Lib.hid hqq
        obtain ⟨W6, hW6⟩ : ∃ W6, W5.alloc (.cells #[.int .i64 a7, .int .i64 b7] 116) = W6 := ⟨_, rfl⟩
        have hs65 : W6.heap.size = W5.heap.size + 1 := by rw [← hW6]; simp
        rw [hW6] at bb6 X6 P6 Y6 V6 Z6 N6 K6 kf6
        obtain ⟨lv, d1, d2, _⟩ := h3.ld
        obtain ⟨lv6, b1, b2, _⟩ := P6.ld
        have d3 : Boxed W6 (w.heap.size + 1 + 1) 78 lv := Blk.past (y5.blk d1 (by omega) (by omega)) bb6
        have e6 : lv6 = lv := by
          have h9 := Boxed.cell b1
          rw [Boxed.cell d3] at h9
          exact (Option.some.inj h9).symm
        subst e6
        have hs16 := Nat.le_trans y5.size hb5.size
        obtain ⟨q, hq1, hq2, hq3, hq4⟩ := own_q d2 b2 (by omega)
        obtain ⟨pv, cv, rfl⟩ := own_shape2 b2
        have hll := passS_len h1
        have hpl9 : pre.length = x := by rw [hpx]; simp
        rw [hpl9, List.length_nil] at hll
        have c6 := Boxed.cell b1
        have f6 := Boxed.frozen b1
        have l0 := Y6.cell (i := 0) (v := .int .i64 v1) rfl
        have l1 := Y6.cell (i := 1) (v := .int .i64 v2) rfl
        have HAPP := Lib.hid fun (tmp : Obj) (w3 : World) (v' : Value) hown hgrow => PassI.append (w3 := w3) (v' := v') (tmp := tmp) (v1 := v1) (v2 := v2) P6 b1 b2 hq1 hq2 (by omega) (by omega) hgp hg75 hown hgrow
        have HB2 := Lib.hid b2
        have HB1 := Lib.hid b1
        have HZ6 := Lib.hid Z6
        have HX6 := Lib.hid X6
        have HV6 := Lib.hid V6
        have HKF6 := Lib.hid kf6
        have hq3b : ((0 : Int) != 0) = false := rfl
        obtain ⟨i0, hi, hz0, hz1, hz2⟩ := info_parts infoLoad3
        have hBx2 := hBx.lt
        have hbq : Bx ≠ q := fun e => by
          subst e
          obtain ⟨vs, f, h9⟩ := hq4 _ Z6
          injection h9 with _ h9
          exact absurd h9 (by decide)
        have hbx2 : Bx ≠ w.heap.size + 1 + 1 := Z6.ne b1 (by decide)
        have hX0 : base + 2 ≤ W6.heap.size := by omega
        have hb12q : b12 ≠ q := by omega
        have hr6 : W6.heap[l]? = some (.loop r) := (bb6.block l (Nat.lt_of_lt_of_le hlB y5.size)).trans ((y5.block l hlB (by omega) (by omega)).trans hr)
        have HR6 := Lib.hid hr6
        have HK16 := Lib.hid ((y5.keptT (n₀ := n₀) (bt := base + 1) (by omega) h4 (by omega) (by decide) (by decide) (by decide) (by omega)).trans (Kept.of_below bb6))
        have HS65 := Lib.hid hs65
        have hll2 : ls.length ≤ 144 := by omega
        clear hll
        clear d1 d2 d3 b1 b2 P6 Y6 X6 V6 Z6 N6 K6 kf6 P4 K4 T4 Z4 kf4 y3 y4 hb5 hqq he7 hs65 hr6
        gi_wp2_with (first | (gi_at_builtin; refine stopHere ?_))
        intro _
        refine wpListIn_append_own _ rfl _ _ 78 rfl (base + 2) 116 i0 (.agg #[.int .i64 0, .int .i64 0]) 2 16 undLoads hi hz0 hz1 hz2 rfl (by decide) (.slice pv ls.length cv) ls.length (flatL ls) rfl (HB2.out.alloc _) ⟨W6.heap.size, 0, none⟩ 1 1 [.int .i64 v1, .int .i64 v2] rfl rfl (cell_two_new _ _ _ _) (by simp [Value.oneCell']) (by unfold maxLen; omega) (by omega) (by simp; omega) ?_
        intro v' w3 hown3 hgrow3 _
        obtain ⟨g3, cap3, rfl⟩ := ownsRow_succ hown3
        obtain ⟨hv1, P7, NA, KO⟩ := HAPP.out _ _ _ hown3 hgrow3
        have c9 := Boxed.cell hv1
        have f9 := Boxed.frozen hv1
        have Z7 := NA.blk HZ6.out hbq hbx2
        have k0 := P7.s.cell (i := 0) (v := .int .i64 W) rfl
        have k1 := P7.s.cell (i := 1) (v := .int .i64 H) rfl
        have k2 := P7.s.cell (i := 2) (v := .slice a ts.length cap) rfl
        have z0 := Z7.cell (i := 0) (v := .int .i64 ti) rfl
        have z1 := Z7.cell (i := 1) (v := .int .i64 x) rfl
        have HP7 := Lib.hid P7
        have HNA := Lib.hid NA
        have HKO := Lib.hid KO
        have HZ7 := Lib.hid Z7
        clear hv1 P7 NA KO Z7 hown3 hgrow3 c6 f6 l0 l1
        gi_wp2_with fail
        refine ⟨trivial, ?_⟩
        obtain ⟨W7, hW7⟩ : ∃ W7, w3.setCell ⟨w.heap.size + 1 + 1, 0, none⟩ (.slice (some ⟨g3, 0, none⟩) (ls.length + 1) cap3) = W7 := ⟨_, rfl⟩
        rw [hW7] at HP7 HNA HKO HZ7 ⊢
        clear hW7 k0 k1 k2 z0 z1 c9 f9
        have K67 : Kept (KT n₀ (base + 1)) W6 W7 := HNA.out.keptG (fun o ho => by
          obtain ⟨vs, f, rfl⟩ := hq4 o ho
          rintro (h6 | ⟨h6, _⟩)
          · exact KS.other (by omega) (by decide) (by decide) (by decide) h6
          · omega) (fun o ho => by
          rw [show W6.heap[w.heap.size + 1 + 1]? = _ from HB1.out] at ho
          cases ho
          rintro (h6 | ⟨h6, _⟩)
          · exact KS.other (by omega) (by decide) (by decide) (by decide) h6
          · omega)
        have K17 := HK16.out.trans K67
        have T7 := HT.out.keptK (h5.trans K17).toS
        have hr7 : W7.heap[l]? = some (.loop r) := (HNA.out.block l (Array.getElem?_eq_some_iff.1 HR6.out).1 (fun e => by subst e; obtain ⟨vs, f, h9⟩ := hq4 _ HR6.out; cases h9) (by omega)).trans HR6.out
        have X7 := HNA.out.blk HX6.out hb12q (by omega)
        have V7 := HNA.out.blk HV6.out (by omega) (by omega)
        have kf7 := HKF6.out.trans (HKO.out.from _)
        refine (CallsIn.inRound l (callsIn_wide.2 (rests_call n₀ W H _ ti x ts W7 N HN.out T7 hti))).mono ?_
        rintro e W8 ⟨lb8, rfl, hit8, hb8⟩
        have P8 := HP7.out.past hb8
        have X8 := X7.past hb8
        have V8 := V7.past hb8
        have hr8 : W8.heap[l]? = some (.loop r) := (hb8.block l (Array.getElem?_eq_some_iff.1 hr7).1).trans hr7
        have K18 := K17.trans (Kept.of_below hb8)
        have kf8 := kf7.trans (KeepsFrom.of_below hb8)
        have hs8 := P8.b.size
        have hl8 := Blk.lt P8.lb
        clear X7 V7 kf7 K17 hr7 K67 T7 HAPP HB2 HB1 HZ6 HX6 HV6 HKF6 hi hz0 hz1 hz2
        gi_wp2_with fail
        apply range_inner1 (l₀ := l) (r₀ := r) hr8 (gf := 104) (lb := lb8) rfl (enters_of Try.func104 (by kernel_rfl) rfl)
          hit8 (fun j r hj => KS.loop (by omega) r) (fun _ => rfl)
          (fun pre' W' => LoadsB W' g7 (setAll bl pre' (a7, b7)) ∧ (But g7 g7 W8 W' ∧ KeepsFrom w5.heap.size W8 W'))
          (fun _ _ _ => False)
          (OwnFrom.and (fun s A C row hs hg hr => blk_own _ _ (fun _ : Unit => _) () A C row hs hg (fun r e => (hr r e).2)) (OwnFrom.and (But.own (Nat.le_refl _)) (ownFrom_keepsFrom (Nat.le_refl _))))
          (fun _ _ _ _ _ hs _ _ => hs.elim)
          ⟨P8.lb, But.refl _ _ _, KeepsFrom.refl _ _⟩
        case hassign =>
          intro l3 pre' x' W' Q hi hQ
          gi_wp2
          exact hQ _ _ (KeepsFrom.refl _ _) (Kept.refl _ _) hi rfl
        case hbody =>
          rintro l3 pre' c W9 hl3 hr9 ⟨y1, y2, y3⟩ hpre'
          have hc : c < N := by
            have h9 := cellsL_lt ((List.mem_filter.1 (hpre'.subset (by simp : c ∈ pre' ++ [c]))).1)
            rw [HN.out ti hti] at h9
            exact h9
          have hlen : (setAll bl pre' (a7, b7)).length = N := by rw [setAll_len]; exact h2
          have c7 := (y2.blk P8.bw (by omega) (by omega)).cell (i := 0) (v := .slice (some ⟨g7, 0, none⟩) N N) rfl
          have X9 := y2.blk X8 (by omega) (by omega)
          have x0 := X9.cell (i := 0) (v := .int .i64 a7) rfl
          have x1 := X9.cell (i := 1) (v := .int .i64 b7) rfl
          obtain ⟨lp0, lp1⟩ := LoadsB.cell y1 (i := c) (by omega)
          have fp0 := Blk.fr (i := c * 2) y1
          have fp1 := Blk.fr (i := c * 2 + 1) y1
          have hcN : (c : Int) < (N : Int) := by omega
          have hc0 : (0 : Int) ≤ (c : Int) := by omega
          have g1 := LoadsB.set y1 (i := c) (by omega) (a7, b7)
          rw [← setAll_snoc] at g1
          have HG1 := Lib.hid g1
          have HG2 := Lib.hid ((y2.set (i := c * 2) g7 (.inl rfl) (.int .i64 a7)).set (i := c * 2 + 1) g7 (.inl rfl) (.int .i64 b7))
          have HKO9 := Lib.hid ((KeepsOthers.setCell W9 ⟨g7, c * 2, none⟩ (.int .i64 a7)).trans (KeepsOthers.setCell _ ⟨g7, c * 2 + 1, none⟩ (.int .i64 b7)))
          have hnk : ∀ o, W9.heap[g7]? = some o → ¬ KS n₀ g7 o := fun o ho => by
            rw [show W9.heap[g7]? = _ from y1] at ho
            cases ho
            exact KS.other (by omega) (by decide) (by decide) (by decide)
          have HKS := Lib.hid ((((But.refl g7 g7 W9).set (i := c * 2) g7 (.inl rfl) (.int .i64 a7)).set (i := c * 2 + 1) g7 (.inl rfl) (.int .i64 b7)).keptG hnk hnk)
          have HY3 := Lib.hid y3
          clear g1 hnk y1 y2 y3 X9 hlen
          gi_wp2
          exact ⟨HKO9.out.from _, HKS.out, HG1.out, HG2.out, KeepsFrom.mono (HY3.out.trans (HKO9.out.from _)) (by omega)⟩
        case hdone =>
          rintro W9 ⟨y1, y2, y3⟩
          have HP9 := Lib.hid (P8.setB y2 y1 hg75 (by omega) hgp)
          have HV9 := Lib.hid (y2.blk V8 (by omega) (by omega))
          have hnk : ∀ o, W8.heap[g7]? = some o → ¬ KT n₀ (base + 1) g7 o := fun o ho => by
            rw [show W8.heap[g7]? = _ from P8.lb] at ho
            cases ho
            rintro (h6 | ⟨h6, _⟩)
            · exact KS.other (by omega) (by decide) (by decide) (by decide) h6
            · omega
          have HK19 := Lib.hid (K18.trans (y2.keptG hnk hnk))
          have HF9 := Lib.hid (kf8.trans y3)
          clear y1 y2 y3 hnk P8 X8 V8 hr8 K18 kf8
          gi_wp2
          exact ⟨HF9.out, HK19.out, ⟨_, _, HQQ.out, by rw [setAll_len]; exact h2, HP9.out⟩, HV9.out, h5.trans HK19.out⟩
        case hstop =>
          rintro c pre' W9 hpre h
          exact h.elim
      · obtain ⟨W6, hW6⟩ : ∃ W6, W5.alloc (.cells #[.int .i64 q1, .int .i64 q2] 116) = W6 := ⟨_, rfl⟩
        rw [hW6] at bb6 X6 P6 Y6 V6 Z6 N6 K6 kf6
        obtain ⟨lv, b1, b2, _⟩ := P6.ld
        obtain ⟨pv, cv, rfl⟩ := own_shape2 b2
        have c6 := Boxed.cell b1
        have f6 := Boxed.frozen b1
        have c7 := P6.bw.cell (i := 0) (v := .slice (some ⟨g7, 0, none⟩) N N) rfl
        have f7 := P6.bw.fr (i := 0)
        have c8 := V6.cell (i := 0) (v := .int .i64 0) rfl
        have f8 := V6.fr (i := 0)
        have g6 := Boxed.set (.slice none 0 0) b1
        have x6 : Blk (((W6.setCell ⟨w.heap.size + 1 + 1, 0, none⟩ (.slice none 0 0)).setCell ⟨w.heap.size + 1 + 1 + 1, 0, none⟩ (.slice none 0 0)).setCell ⟨w.heap.size + 1 + 1 + 1 + 1, 0, none⟩ (.int .i64 q3)) (w.heap.size + 1 + 1) #[.slice none 0 0] 78 := Blk.far (Blk.far g6 (by omega)) (by omega)
        have x7 := ((P6.bw.far (b' := w.heap.size + 1 + 1) (i := 0) (u := .slice none 0 0) (by omega)).set 0 (by simp) (.slice none 0 0) rfl).far (b' := w.heap.size + 1 + 1 + 1 + 1) (i := 0) (u := .int .i64 q3) (by omega)
        have x8 := ((V6.far (b' := w.heap.size + 1 + 1) (i := 0) (u := .slice none 0 0) (by omega)).far (b' := w.heap.size + 1 + 1 + 1) (i := 0) (u := .slice none 0 0) (by omega)).set 0 (by simp) (.int .i64 q3) rfl
        have x9 := (((P6.b.setCell (p := ⟨w.heap.size + 1 + 1, 0, none⟩) (show w.heap.size ≤ w.heap.size + 1 + 1 by omega) (.slice none 0 0)).setCell (p := ⟨w.heap.size + 1 + 1 + 1, 0, none⟩) (show w.heap.size ≤ w.heap.size + 1 + 1 + 1 by omega) (.slice none 0 0)).setCell (p := ⟨w.heap.size + 1 + 1 + 1 + 1, 0, none⟩) (show w.heap.size ≤ w.heap.size + 1 + 1 + 1 + 1 by omega) (.int .i64 q3))
        have k9 := kf6.trans ((((KeepsOthers.setCell W6 ⟨w.heap.size + 1 + 1, 0, none⟩ (.slice none 0 0)).trans (KeepsOthers.setCell _ ⟨w.heap.size + 1 + 1 + 1, 0, none⟩ (.slice none 0 0))).trans (KeepsOthers.setCell _ ⟨w.heap.size + 1 + 1 + 1 + 1, 0, none⟩ (.int .i64 q3))).from _)
        have HPX : Hid (PassX w q3 (((W6.setCell ⟨w.heap.size + 1 + 1, 0, none⟩ (.slice none 0 0)).setCell ⟨w.heap.size + 1 + 1 + 1, 0, none⟩ (.slice none 0 0)).setCell ⟨w.heap.size + 1 + 1 + 1 + 1, 0, none⟩ (.int .i64 q3))) := Lib.hid ⟨x6, x7, x8, x9⟩
        have HK9 := Lib.hid k9
        have HPS2 : Hid (passS ts ti pr (pre ++ [x]) [] (List.replicate N (0, 1)) = ([], [], q3)) := Lib.hid (by rw [HPS.out]; simp [hq3])
        have hq3b : (q3 != 0) = true := by simpa using hq3
        clear g6 x6 x7 x8 x9 k9 b1 b2 hb5 bb6 X6 P6 Y6 V6 Z6 N6 K6 kf6 P4 K4 T4 Z4 kf4 y3 y4 y5 y6
        gi_wp2
        exact ⟨HK9.out, rfl, q3, hq3, HPS2.out, HPX.out⟩
    case hstop =>
      rintro c pre' W4 hpre4 ⟨rfl, hk4, e, he, hse, hpx4⟩
      obtain ⟨rest, hrest⟩ := hpre4
      have hse2 : (sumF pr (cellsL (ts[ti]?.getD ([], [])).1 x) (0, 1)).2 = e := by rw [← hrest]; exact sumF_fail rest hse he
      have hps := passS_snoc x h1
      have hbr : (brickF ts ti pr x).2.2 = e := by
        unfold brickF
        dsimp only
        rw [hse2, if_neg he]
      rw [hbr, if_neg he] at hps
      have HPS := Lib.hid hps
      have HPX := Lib.hid hpx4
      have HK4 := Lib.hid ((KeepsFrom.of_below (B := w5.heap.size) hb13).trans hk4)
      clear hps hbr hse2 hse hpx4 hk4
      gi_wp2
      exact ⟨HK4.out, rfl, e, he, HPS.out, HPX.out⟩
  case hdone =>
    rintro D W' hD ⟨⟨ls, bl, h1, h2, h3⟩, h4, h5⟩ hdf
    have HV : Hid (tg = (ls, bl, 0)) := Lib.hid (by rw [HPF.out]; exact h1)
    obtain ⟨lv, b1, b2, _⟩ := h3.ld
    have H3 := Lib.hid h3
    obtain ⟨pv, cv, rfl⟩ := own_shape2 b2
    have c2 := Boxed.cell b1
    have f2 := Boxed.frozen b1
    have c3 := h3.bw.cell (i := 0) (v := .slice (some ⟨g7, 0, none⟩) N N) rfl
    have f3 := h3.bw.fr (i := 0)
    have c4 := h4.cell (i := 0) (v := .int .i64 0) rfl
    have f4 := h4.fr (i := 0)
    have H4 := Lib.hid h4
    clear h1 h3 h4 b1 b2
    gi_wp2
    gi_region
    all_goals
      have P3 := H3.out
      obtain ⟨lv, b1, b2, _⟩ := P3.ld
      have e9 : lv = .slice pv ls.length cv := by
        have h9 := Boxed.cell b1
        rw [c2] at h9
        exact (Option.some.inj h9).symm
      subst e9
      have g1 := (Boxed.set (.slice pv ls.length cv) b1)
      have R1 := b2.kept (grownBy_setCell W' ⟨w.heap.size + 1 + 1, 0, none⟩ (.slice pv ls.length cv)) (by
        cases hv : (Value.slice pv ls.length cv).ownBlock with
        | none => exact .inl rfl
        | some q => right; have := (ownsRow_block b2 hv).1; intro e; have := Option.some.inj e; dsimp only at this; omega)
      have R2 := R1.kept (grownBy_setCell _ ⟨w.heap.size + 1 + 1 + 1, 0, none⟩ (.slice (some ⟨g7, 0, none⟩) N N)) (by
        cases hv : (Value.slice pv ls.length cv).ownBlock with
        | none => exact .inl rfl
        | some q => right; have := (ownsRow_block b2 hv).1; intro e; have := Option.some.inj e; dsimp only at this; omega)
      have R3 := R2.kept (grownBy_setCell _ ⟨w.heap.size + 1 + 1 + 1 + 1, 0, none⟩ (.int .i64 0)) (by
        cases hv : (Value.slice pv ls.length cv).ownBlock with
        | none => exact .inl rfl
        | some q => right; have := (ownsRow_block b2 hv).1; intro e; have := Option.some.inj e; dsimp only at this; omega)
      have X1 : Blk (((W'.setCell ⟨w.heap.size + 1 + 1, 0, none⟩ (.slice pv ls.length cv)).setCell ⟨w.heap.size + 1 + 1 + 1, 0, none⟩ (.slice (some ⟨g7, 0, none⟩) N N)).setCell ⟨w.heap.size + 1 + 1 + 1 + 1, 0, none⟩ (.int .i64 0)) (w.heap.size + 1 + 1) #[.slice pv ls.length cv] 78 := Blk.far (Blk.far g1 (by omega)) (by omega)
      have X2 := ((P3.bw.far (b' := w.heap.size + 1 + 1) (i := 0) (u := .slice pv ls.length cv) (by omega)).set 0 (by simp) (.slice (some ⟨g7, 0, none⟩) N N) rfl).far (b' := w.heap.size + 1 + 1 + 1 + 1) (i := 0) (u := .int .i64 0) (by omega)
      have X3 := ((H4.out.far (b' := w.heap.size + 1 + 1) (i := 0) (u := .slice pv ls.length cv) (by omega)).far (b' := w.heap.size + 1 + 1 + 1) (i := 0) (u := .slice (some ⟨g7, 0, none⟩) N N) (by omega)).set 0 (by simp) (.int .i64 0) rfl
      have X4 := ((Blk.far P3.lb (b' := w.heap.size + 1 + 1) (i := 0) (u := .slice pv ls.length cv) (by omega)).far (b' := w.heap.size + 1 + 1 + 1) (i := 0) (u := .slice (some ⟨g7, 0, none⟩) N N) (by omega)).far (b' := w.heap.size + 1 + 1 + 1 + 1) (i := 0) (u := .int .i64 0) (by omega)
      have X5 := (((P3.b.setCell (p := ⟨w.heap.size + 1 + 1, 0, none⟩) (show w.heap.size ≤ w.heap.size + 1 + 1 by omega) (.slice pv ls.length cv)).setCell (p := ⟨w.heap.size + 1 + 1 + 1, 0, none⟩) (show w.heap.size ≤ w.heap.size + 1 + 1 + 1 by omega) (.slice (some ⟨g7, 0, none⟩) N N)).setCell (p := ⟨w.heap.size + 1 + 1 + 1 + 1, 0, none⟩) (show w.heap.size ≤ w.heap.size + 1 + 1 + 1 + 1 by omega) (.int .i64 0))
      have hDe : D ≠ w.heap.size + 1 + 1 ∧ D ≠ w.heap.size + 1 + 1 + 1 ∧ D ≠ w.heap.size + 1 + 1 + 1 + 1 := by omega
      have hdf2 := (((Below.heap_setCell (((W'.setCell ⟨w.heap.size + 1 + 1, 0, none⟩ (.slice pv ls.length cv)).setCell ⟨w.heap.size + 1 + 1 + 1, 0, none⟩ (.slice (some ⟨g7, 0, none⟩) N N))) ⟨w.heap.size + 1 + 1 + 1 + 1, 0, none⟩ (.int .i64 0) D hDe.2.2).trans (Below.heap_setCell _ ⟨w.heap.size + 1 + 1 + 1, 0, none⟩ (.slice (some ⟨g7, 0, none⟩) N N) D hDe.2.1)).trans (Below.heap_setCell W' ⟨w.heap.size + 1 + 1, 0, none⟩ (.slice pv ls.length cv) D hDe.1)).trans hdf
      have HX := Lib.hid (And.intro (And.intro X1 R3) (And.intro (And.intro X2 X3) (And.intro X4 X5)))
      have HDF := Lib.hid hdf2
      clear X1 X2 X3 X4 X5 R1 R2 R3 g1 b1 b2 P3 hdf2
      gi_wp2
      refine leaves_marks (I := fun (_ : Unit) W9 => (∃ lv, Boxed W9 (w.heap.size + 1 + 1) 78 lv ∧ W9.ownsRow (base + 2) 116 2 lv ls.length (flatL ls) ∧ lv = .slice pv ls.length cv) ∧ (Blk W9 (w.heap.size + 1 + 1 + 1) #[.slice (some ⟨g7, 0, none⟩) N N] 78 ∧ Blk W9 (w.heap.size + 1 + 1 + 1 + 1) #[.int .i64 0] 26) ∧ LoadsB W9 g7 bl ∧ Below w.heap.size w W9) (B := w.heap.size)
        (OwnFrom.and (Own.from (holdsRow_own (base + 2) _ _ _ 2 (fun _ : Unit => ls.length) (fun _ => flatL ls) (fun _ lv => lv = .slice pv ls.length cv)) _) (OwnFrom.and (OwnFrom.and (Own.from (blk_own _ _ (fun _ : Unit => #[.slice (some ⟨g7, 0, none⟩) N N])) _) (Own.from (blk_own _ _ (fun _ : Unit => #[.int .i64 0])) _)) (OwnFrom.and (Own.from (blk_own _ _ (fun _ : Unit => (flatL bl).toArray)) _) (ownFrom_below (Nat.le_refl _) (Nat.le_refl _))))) ?_ [D] _ ⟨by simp, fun D' hD' => by rw [List.mem_singleton.1 hD']; exact ⟨by omega, HDF.out⟩⟩ ⟨⟨_, HX.out.1.1, HX.out.1.2, rfl⟩, HX.out.2.1, HX.out.2.2.1, HX.out.2.2.2.drew⟩
      rintro W9 ⟨⟨_, y1, y2, rfl⟩, ⟨y3, y4⟩, y5, y6⟩
      have r1 := Boxed.cell y1
      have r2 := y3.cell (i := 0) (v := .slice (some ⟨g7, 0, none⟩) N N) rfl
      have r3 := y4.cell (i := 0) (v := .int .i64 0) rfl
      refine ⟨.tuple #[.slice pv ls.length cv, .slice (some ⟨g7, 0, none⟩) N N, .int .i64 0], by simp [results, Try.results97, go_sem, r1, r2, r3], _, _, by rw [HV.out], y6, fun _ => ⟨?_, g7, rfl, by omega, by rw [HV.out]; exact y5⟩, fun h => ?_⟩
      · rw [HV.out]
        refine ⟨y2.1, ?_⟩
        rcases y2.2 with h | ⟨g, cap', cur, h1, h2, h3⟩
        · exact .inl h
        · exact .inr ⟨g, cap', cur, h1, by omega, h3⟩
      · rw [HV.out] at h
        exact absurd rfl h
  case hstop =>
    rintro D c pre W' hD hpre ⟨rfl, e, h1, h2, h3⟩ hdf
    obtain ⟨rest, hrest⟩ := hpre
    have HV : Hid (tg = ([], [], e)) := Lib.hid (by rw [HPF.out, ← hrest]; exact passS_fail rest h2 h1)
    have H3 := Lib.hid h3
    clear h2 h3
    gi_wp2
    refine leaves_marks (I := fun (_ : Unit) W => PassX w e W) (B := w.heap.size) (PassX.own (Nat.le_refl _)) ?_ [D] _ ⟨by simp, fun D' hD' => by rw [List.mem_singleton.1 hD']; exact ⟨by omega, hdf⟩⟩ H3.out
    rintro W9 ⟨x1, x2, x3, x4⟩
    have r1 := x1.cell (i := 0) (v := .slice none 0 0) rfl
    have r2 := x2.cell (i := 0) (v := .slice none 0 0) rfl
    have r3 := x3.cell (i := 0) (v := .int .i64 e) rfl
    refine ⟨.tuple #[.slice none 0 0, .slice none 0 0, .int .i64 e], by simp [results, Try.results97, go_sem, r1, r2, r3], _, _, by rw [HV.out], x4, fun h => ?_, fun _ => ⟨rfl, rfl⟩⟩
    rw [HV.out] at h
    exact absurd h h1
end Go.Proofs.Ytopnlcjbklmicaa
