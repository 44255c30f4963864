import Derived.Test.YtopnlcjbklmicaaK23
import Derived.Test.YtopnlcjbklmicaaL1
import Derived.WalkKit
import Derived.WalkSpells
import Derived.WalkLawsBesides
import Derived.Deep.QuietTactic
import Derived.BigQuiet
import Derived.Lib.Hide
import Derived.WalkSmall
import Derived.Maps.OwnSet
import Derived.Maps.RangeWalk
import Derived.Deep.RegionWith
import Derived.Deep.RegionHeld3
import Derived.Deep.DrawnRows
import Derived.Deep.DeepCutAuto
import Derived.OneCell
import Derived.KernelRfl
import Derived.Laws.StructEq
import Derived.StillTailTactics
import Derived.Laws.Externs
import Derived.RangeFuncBox
import Derived.Outline
import Derived.RangeFuncNested
import Derived.RangeFuncBound
import Derived.RangeFuncCalls
import Derived.RangeFuncLeaves
import Derived.Shelf.RegionOpen
import Derived.OwnWalkIn
import Derived.TacticsInMore
import Derived.LoopNIn
import Derived.LoopIn
import Derived.Test.YtopnlcjbklmicaaProg
namespace Go.Proofs.Ytopnlcjbklmicaa
open Go.RowKit Go.Maps Go.Shelf
set_option linter.unusedVariables false
set_option linter.unusedSimpArgs false
attribute [local go_sem] Oper.semAt_some
theorem undRows : Try.prog.underlying 77 = some (.slice 78) := by kernel_rfl
theorem infoRow : (Try.prog.info? 78).map (fun i => (i.zero, i.size, i.bytes)) = some (some (.slice none 0 0), 1, 24) := by kernel_rfl
theorem made_rows (n : Nat) : madeCells #[Value.slice none 0 0] n = Array.replicate n (.slice none 0 0) := by
  apply Array.ext
  · simp [madeCells]
  · intro i h1 h2
    simp [madeCells, Nat.mod_one]
theorem make_rows (n : Nat) (w : World) (hn : n ≤ 1000000) : (Instr.makeSlice 77 (.int .i64 n) (.int .i64 n)).run Try.prog w = .ok (.slice (some ⟨w.heap.size, 0, none⟩) n n) (w.alloc (.cells (Array.replicate n (.slice none 0 0)) 78)) := by
  obtain ⟨i0, hi, hz0, hz1, hz2⟩ := info_parts infoRow
  have h := run_makeSlice (P := Try.prog) (w := w) 77 78 i0 _ undRows hi hz0 .i64 .i64 (n : Int) (n : Int) (by omega) (Int.le_refl _) (by rw [hz1]; simp; omega) (by rw [hz2]; omega) (by omega)
  rw [hz1] at h
  rw [show (Value.slice none 0 0).cells = #[Value.slice none 0 0] from rfl] at h
  simpa [made_rows] using h
/-- Tiers as CheckStack passes them. -/
structure TierIn (ts : List (List Int × List Int)) (ti : Nat) : Prop where
  few : (ts[ti]?.getD ([], [])).2.length ≤ 144
  wt : ∀ b, b < (ts[ti]?.getD ([], [])).2.length → 0 ≤ (ts[ti]?.getD ([], [])).2[b]?.getD 0 ∧ (ts[ti]?.getD ([], [])).2[b]?.getD 0 ≤ 1000
theorem TierIn.ok {ts : List (List Int × List Int)} {ti : Nat} (h : TierIn ts ti) (hf : FirstB ts (hangP ts) none) (hti : ti < ts.length) : TierOk ts ti :=
  ⟨h.wt, fun b hb => by
    have h1 : hangP ts ti b = false := hf ti hti b hb
    have h2 : ¬ (restsL ts ti b).length = 0 := by simpa [hangP] using h1
    omega⟩
theorem RowsAt.mono {W : World} {base base' gb : Nat} {rows : List (List (Nat × Nat))} (h : RowsAt W base gb rows) (hb : base' ≤ base) : RowsAt W base' gb rows := by
  obtain ⟨vals, h1, h2, h3⟩ := h
  refine ⟨vals, h1, h2, fun i hi => ⟨(h3 i hi).1, ?_⟩⟩
  rcases (h3 i hi).2 with h | ⟨g, cap, cur, h4, h5, h6⟩
  · exact .inl h
  · exact .inr ⟨g, cap, cur, h4, by omega, h6⟩
theorem RowsAt.own {β : Type} {B base gb : Nat} {rows : List (List (Nat × Nat))} : OwnFrom B (fun (_ : β) W => RowsAt W base gb rows) := fun s X Y row hs hg hr => by
  obtain ⟨vals, h1, h2, h3⟩ := hs
  have hr2 : ∀ r, row = some r → ∃ o : Obj, X.heap[r]? = some o ∧ o.isCells = false := fun r e => (hr r e).2
  refine ⟨vals, h1, blk_own _ _ (fun _ : Unit => _) () X Y row h2 hg hr2, fun j hj => (h3 j hj).kept hg ?_⟩
  rcases (h3 j hj).2 with ⟨h4, _⟩ | ⟨g, cap, cur, h4, _, hgo, _⟩
  · exact .inl (by rw [h4]; rfl)
  · refine .inr fun e => ?_
    rw [h4] at e
    obtain ⟨o, ho, hc⟩ := hr2 g (by simpa [Value.ownBlock] using e.symm)
    rw [hgo] at ho; cases ho; cases hc
theorem Kept.setT {n₀ bt b i : Nat} {W : World} {vs : Array Value} {T : TypeId} {u : Value} (h : Blk W b vs T) (h0 : n₀ ≤ b) (h1 : T ≠ 143) (h2 : T ≠ 74) (h3 : T ≠ 128) (hb : b ≠ bt) : Kept (KT n₀ bt) W (W.setCell ⟨b, i, none⟩ u) :=
  Kept.setCell _ _ _ (fun o ho => by
    rw [show W.heap[b]? = _ from h] at ho
    cases ho
    rintro (h6 | ⟨h6, _⟩)
    · exact KS.other h0 h1 h2 h3 h6
    · exact hb h6)
theorem ownsRow_base {W : World} {base base' k n : Nat} {T : TypeId} {v : Value} {xs : List Value} (hb : base' ≤ base) (h : W.ownsRow base T n v k xs) : W.ownsRow base' T n v k xs := by
  refine ⟨h.1, ?_⟩
  rcases h.2 with h | ⟨g, cap', cur, h1, h2, h3⟩
  · exact .inl h
  · exact .inr ⟨g, cap', cur, h1, by omega, h3⟩
/-- What stands while the loads of tiers are made. -/
structure LoadI (w : World) (W H : Int) (tv : Value) (n gb b5 N : Nat) (rows : List (List (Nat × Nat))) (pr : List (Nat × Nat)) (Wr : World) : Prop where
  s : Blk Wr w.heap.size #[.int .i64 W, .int .i64 H, tv] 143
  r : Blk Wr (w.heap.size + 1) #[.slice (some ⟨gb, 0, none⟩) n n] 77
  z : Blk Wr (w.heap.size + 1 + 1) #[.slice none 0 0] 78
  p : ∃ g, Blk Wr b5 #[.slice (some ⟨g, 0, none⟩) N N] 78 ∧ LoadsB Wr g pr ∧ w.heap.size ≤ g
  rows : RowsAt Wr w.heap.size gb rows
  b : Below w.heap.size w Wr
theorem LoadI.own {β : Type} {w : World} {W H : Int} {tv : Value} {n gb b5 N B : Nat} {rows : List (List (Nat × Nat))} {pr : List (Nat × Nat)} (hB : w.heap.size ≤ B) :
    OwnFrom B (fun (_ : β) Wr => LoadI w W H tv n gb b5 N rows pr Wr) := fun s X Y row hs hg hr => by
  have hr2 : ∀ r, row = some r → ∃ o : Obj, X.heap[r]? = some o ∧ o.isCells = false := fun r e => (hr r e).2
  obtain ⟨g, h1, h2, h3⟩ := hs.p
  exact ⟨blk_own _ _ (fun _ : Unit => _) () X Y row hs.s hg hr2, blk_own _ _ (fun _ : Unit => _) () X Y row hs.r hg hr2, blk_own _ _ (fun _ : Unit => _) () X Y row hs.z hg hr2,
    ⟨g, blk_own _ _ (fun _ : Unit => _) () X Y row h1 hg hr2, blk_own _ _ (fun _ : Unit => _) () X Y row h2 hg hr2, h3⟩, RowsAt.own (β := Unit) (B := B) () X Y row hs.rows hg hr, ownFrom_below (β := Unit) (Nat.le_refl _) hB () X Y row hs.b hg hr⟩
theorem LoadI.past {w : World} {W H : Int} {tv : Value} {n gb b5 N : Nat} {rows : List (List (Nat × Nat))} {pr : List (Nat × Nat)} {A B : World} (h : LoadI w W H tv n gb b5 N rows pr A) (hb : Below A.heap.size A B) : LoadI w W H tv n gb b5 N rows pr B := by
  obtain ⟨g, h1, h2, h3⟩ := h.p
  exact ⟨h.s.past hb, h.r.past hb, h.z.past hb, ⟨g, h1.past hb, Blk.past h2 hb, h3⟩, h.rows.past hb, h.b.trans (hb.mono h.b.size)⟩
theorem via2 {C T : World → Option Addr → Nat → Nat → Option Addr → Nat → Nat → Prop} {G : Prop} (h : (∀ W5 p1 n1 c1 p2 n2 c2, C W5 p1 n1 c1 p2 n2 c2 → T W5 p1 n1 c1 p2 n2 c2) → G) (k : ∀ W5 p1 n1 c1 p2 n2 c2, C W5 p1 n1 c1 p2 n2 c2 → T W5 p1 n1 c1 p2 n2 c2) : G := h k
/-- What passOn leaves: loads and what presses below, or an error. -/
def PassC (A : World) (N : Nat) (ls bl : List (Nat × Nat)) (er : Int) (W5 : World) (p1 : Option Addr) (n1 c1 : Nat) (p2 : Option Addr) (n2 c2 : Nat) : Prop :=
  Below A.heap.size A W5 ∧ (er = 0 → W5.ownsRow A.heap.size 116 2 (.slice p1 n1 c1) ls.length (flatL ls) ∧ ∃ g, p2 = some ⟨g, 0, none⟩ ∧ n2 = N ∧ c2 = N ∧ A.heap.size ≤ g ∧ LoadsB W5 g bl) ∧ (er ≠ 0 → (p1 = none ∧ n1 = 0 ∧ c1 = 0) ∧ (p2 = none ∧ n2 = 0 ∧ c2 = 0))
theorem passOn_c (n₀ : Nat) (W H : Int) (tv : Value) (ts : List (List Int × List Int)) (ti gp N : Nat) (pr ls bl : List (Nat × Nat)) (er : Int) (w : World) (hW : 1 ≤ W ∧ W ≤ 12) (hH : 1 ≤ H ∧ H ≤ 12) (hNN : (W * H).toNat = N)
    (hN : ∀ i, i < ts.length → (ts[i]?.getD ([], [])).1.length = N) (ht : TiersAt n₀ w tv ts) (hti : ti < ts.length) (hok : TierOk ts ti) (hnb : (ts[ti]?.getD ([], [])).2.length ≤ 144)
    (hp : LoadsB w gp pr) (hpl : pr.length = N) (hpo : ∀ i, i < pr.length → LoadOk (pr[i]?.getD (0, 1))) (hpf : passF ts ti N pr = (ls, bl, er)) :
    Calls Try.prog 97 #[.agg #[.int .i64 W, .int .i64 H, tv], .int .i64 ti, .slice (some ⟨gp, 0, none⟩) N N] w fun e w' =>
      ∃ p1 n1 c1 p2 n2 c2, e = .returned (.tuple #[.slice p1 n1 c1, .slice p2 n2 c2, .int .i64 er]) ∧ PassC w N ls bl er w' p1 n1 c1 p2 n2 c2 := by
  subst hNN
  refine (passOn_any n₀ W H tv ts ti gp pr w hW hH hN ht hti hok hnb hp hpl hpo).mono ?_
  rw [hpf]
  rintro e w' ⟨lv, bv, rfl, hb, h0, h1⟩
  by_cases he : er = 0
  · obtain ⟨ho, g, rfl, hg, hl⟩ := h0 he
    obtain ⟨p, c, rfl⟩ := own_shape2 ho
    exact ⟨p, _, c, _, _, _, rfl, hb, fun _ => ⟨ho, g, rfl, rfl, rfl, hg, hl⟩, fun h => absurd he h⟩
  · obtain ⟨rfl, rfl⟩ := h1 he
    exact ⟨_, _, _, _, _, _, rfl, hb, fun h => absurd h he, fun _ => ⟨⟨rfl, rfl, rfl⟩, rfl, rfl, rfl⟩⟩
/-- Fails with an error. -/
def LoadX (w : World) (e : Int) (Wr : World) : Prop :=
  Blk Wr (w.heap.size + 1) #[.slice none 0 0] 77 ∧ Blk Wr (w.heap.size + 1 + 1) #[.slice none 0 0] 78 ∧ Blk Wr (w.heap.size + 1 + 1 + 1) #[.int .i64 e] 26 ∧ Below w.heap.size w Wr
theorem LoadX.own {β : Type} {w : World} {e : Int} {B : Nat} (hB : w.heap.size ≤ B) : OwnFrom B (fun (_ : β) Wr => LoadX w e Wr) := fun s X Y row hs hg hr =>
  have hr2 : ∀ r, row = some r → ∃ o : Obj, X.heap[r]? = some o ∧ o.isCells = false := fun r e => (hr r e).2
  ⟨blk_own _ _ (fun _ : Unit => _) () X Y row hs.1 hg hr2, blk_own _ _ (fun _ : Unit => _) () X Y row hs.2.1 hg hr2, blk_own _ _ (fun _ : Unit => _) () X Y row hs.2.2.1 hg hr2, ownFrom_below (β := Unit) (Nat.le_refl _) hB () X Y row hs.2.2.2 hg hr⟩
/-- What loads returns. -/
def LoadsTo (w : World) (ts : List (List Int × List Int)) (N : Nat) (e : Ending) (w' : World) : Prop :=
  ∃ r rv fv er, FirstB ts (hangP ts) r ∧ e = .returned (.tuple #[rv, fv, .int .i64 er]) ∧ Below w.heap.size w w' ∧
    (r ≠ none → rv = .slice none 0 0 ∧ fv = .slice none 0 0 ∧ er = 80) ∧
    (r = none → er = (loadsF ts N).2.2 ∧ (er ≠ 0 → rv = .slice none 0 0 ∧ fv = .slice none 0 0) ∧
      (er = 0 → ∃ gb g, rv = .slice (some ⟨gb, 0, none⟩) ts.length ts.length ∧ w.heap.size ≤ gb ∧ RowsAt w' w.heap.size gb (loadsF ts N).1 ∧ fv = .slice (some ⟨g, 0, none⟩) N N ∧ w.heap.size ≤ g ∧ LoadsB w' g (loadsF ts N).2.1))
set_option maxRecDepth 100000 in
set_option maxHeartbeats 4000000 in
theorem loads_any (n₀ : Nat) (W H : Int) (tv : Value) (ts : List (List Int × List Int)) (w : World) (N : Nat) (hW : 1 ≤ W ∧ W ≤ 12) (hH : 1 ≤ H ∧ H ≤ 12) (hNN : (W * H).toNat = N)
    (hN : ∀ i, i < ts.length → (ts[i]?.getD ([], [])).1.length = N) (ht : TiersAt n₀ w tv ts) (hts : ts.length ≤ 1000000) (hin : ∀ i, i < ts.length → TierIn ts i) :
    Calls Try.prog 72 #[.agg #[.int .i64 W, .int .i64 H, tv]] w (LoadsTo w ts N) := by
  obtain ⟨a, cap, rfl, hl, hn, _⟩ := ht.placed
  have hr := prod_range hW hH
  have hN1 : N ≤ 144 := by omega
  have HUL := Lib.hid fun w => unloaded_any W H (.slice a ts.length cap) w hW hH ⟨_, _, _, rfl⟩
  rw [hNN] at HUL
  refine (callsIn_wide (n := 9)).1 ?_
  refine callsIn_of_wp_marks Try.func72 rfl trivial ?_ rfl
  simp only [Try.ntmps72, List.size_toArray, List.length_cons, List.length_nil, Nat.reduceAdd, Nat.reduceSub, Array.replicate_succ, Array.replicate_zero, List.push_toArray, List.append_toArray, List.nil_append, List.cons_append]
  have A1 := (((Blk.new w #[.int .i64 W, .int .i64 H, .slice a ts.length cap] 143).alloc (.cells #[.slice none 0 0] 77)).alloc (.cells #[.slice none 0 0] 78)).alloc (.cells #[.int .i64 0] 26)
  have A2 := ((Blk.newI (w.alloc (.cells #[.int .i64 W, .int .i64 H, .slice a ts.length cap] 143)) (w.heap.size + 1) #[.slice none 0 0] 77 (by simp)).alloc (.cells #[.slice none 0 0] 78)).alloc (.cells #[.int .i64 0] 26)
  have A3 := (Blk.newI ((w.alloc (.cells #[.int .i64 W, .int .i64 H, .slice a ts.length cap] 143)).alloc (.cells #[.slice none 0 0] 77)) (w.heap.size + 1 + 1) #[.slice none 0 0] 78 (by simp)).alloc (.cells #[.int .i64 0] 26)
  have A4 := Blk.newI (((w.alloc (.cells #[.int .i64 W, .int .i64 H, .slice a ts.length cap] 143)).alloc (.cells #[.slice none 0 0] 77)).alloc (.cells #[.slice none 0 0] 78)) (w.heap.size + 1 + 1 + 1) #[.int .i64 0] 26 (by simp)
  have BB := (((Below.refl _ w).alloc (Nat.le_refl _) (.cells #[.int .i64 W, .int .i64 H, .slice a ts.length cap] 143)).alloc (by simp) (.cells #[.slice none 0 0] 77)).alloc (by simp; omega) (.cells #[.slice none 0 0] 78) |>.alloc (by simp; omega) (.cells #[.int .i64 0] 26)
  have hs1 : ((((w.alloc (.cells #[.int .i64 W, .int .i64 H, .slice a ts.length cap] 143)).alloc (.cells #[.slice none 0 0] 77)).alloc (.cells #[.slice none 0 0] 78)).alloc (.cells #[.int .i64 0] 26)).heap.size = w.heap.size + 4 := by simp
  have k0 := A1.cell (i := 0) (v := .int .i64 W) rfl
  have k1 := A1.cell (i := 1) (v := .int .i64 H) rfl
  have k2 := A1.cell (i := 2) (v := .slice a ts.length cap) rfl
  gi_wp2_with fail
  refine ⟨trivial, ?_⟩
  clear k0 k1 k2
  obtain ⟨w1, hw1⟩ : ∃ w1, (((w.alloc (.cells #[.int .i64 W, .int .i64 H, .slice a ts.length cap] 143)).alloc (.cells #[.slice none 0 0] 77)).alloc (.cells #[.slice none 0 0] 78)).alloc (.cells #[.int .i64 0] 26) = w1 := ⟨_, rfl⟩
  rw [hw1] at A1 A2 A3 A4 BB hs1 ⊢
  clear hw1
  have T1 := ht.keptK (Kept.of_below (K := KS n₀) (BB.mono (Nat.le_refl _)))
  refine (callsIn_wide.2 (hanging_any n₀ W H _ ts w1 N hN hN1 hts T1)).mono ?_
  rintro e w2 ⟨r, hfb, rfl, hb2⟩
  gi_wp2_with fail
  refine ⟨trivial, ?_⟩
  refine (callsIn_wide.2 (nowhere_any w2)).mono ?_
  rintro e w3 ⟨rfl, hb3⟩
  have hb13 := hb2.trans (hb3.mono hb2.size)
  have A1 := A1.past hb13
  have A2 := A2.past hb13
  have A3 := A3.past hb13
  have A4 := A4.past hb13
  have BB := BB.trans (hb13.mono BB.size)
  have hs3 := hb13.size
  cases r with
  | some q =>
    obtain ⟨t, b⟩ := q
    have f2 := A2.fr (i := 0)
    have f3 := A3.fr (i := 0)
    have f4 := A4.fr (i := 0)
    have c2 := A2.cell (i := 0) (v := .slice none 0 0) rfl
    have c3 := A3.cell (i := 0) (v := .slice none 0 0) rfl
    have c4 := A4.cell (i := 0) (v := .int .i64 0) rfl
    unfold brickV
    dsimp only
    have q1 := (((A2.set 0 (by simp) (.slice none 0 0) rfl).far (b' := w.heap.size + 1 + 1) (i := 0) (u := .slice none 0 0) (by omega)).far (b' := w.heap.size + 1 + 1 + 1) (i := 0) (u := .int .i64 80) (by omega))
    have q2 := (((A3.far (b' := w.heap.size + 1) (i := 0) (u := .slice none 0 0) (by omega)).set 0 (by simp) (.slice none 0 0) rfl).far (b' := w.heap.size + 1 + 1 + 1) (i := 0) (u := .int .i64 80) (by omega))
    have q3 := (((A4.far (b' := w.heap.size + 1) (i := 0) (u := .slice none 0 0) (by omega)).far (b' := w.heap.size + 1 + 1) (i := 0) (u := .slice none 0 0) (by omega)).set 0 (by simp) (.int .i64 80) rfl)
    have q4 := (((BB.setCell (p := ⟨w.heap.size + 1, 0, none⟩) (show w.heap.size ≤ w.heap.size + 1 by omega) (.slice none 0 0)).setCell (p := ⟨w.heap.size + 1 + 1, 0, none⟩) (show w.heap.size ≤ w.heap.size + 1 + 1 by omega) (.slice none 0 0)).setCell (p := ⟨w.heap.size + 1 + 1 + 1, 0, none⟩) (show w.heap.size ≤ w.heap.size + 1 + 1 + 1 by omega) (.int .i64 80))
    have HQ := Lib.hid (And.intro q1 (And.intro q2 (And.intro q3 q4)))
    clear q1 q2 q3 q4
    gi_wp2_with fail
    refine leaves_marks (I := fun (_ : Unit) W9 => Blk W9 (w.heap.size + 1) #[.slice none 0 0] 77 ∧ Blk W9 (w.heap.size + 1 + 1) #[.slice none 0 0] 78 ∧ Blk W9 (w.heap.size + 1 + 1 + 1) #[.int .i64 80] 26 ∧ Below w.heap.size w W9) (B := w.heap.size)
      (OwnFrom.and (Own.from (blk_own _ _ (fun _ : Unit => #[.slice none 0 0])) _) (OwnFrom.and (Own.from (blk_own _ _ (fun _ : Unit => #[.slice none 0 0])) _) (OwnFrom.and (Own.from (blk_own _ _ (fun _ : Unit => #[.int .i64 80])) _) (ownFrom_below (Nat.le_refl _) (Nat.le_refl _))))) ?_ [] _ ⟨by simp, by simp⟩ HQ.out
    rintro W9 ⟨x1, x2, x3, x4⟩
    have r1 := x1.cell (i := 0) (v := .slice none 0 0) rfl
    have r2 := x2.cell (i := 0) (v := .slice none 0 0) rfl
    have r3 := x3.cell (i := 0) (v := .int .i64 80) rfl
    exact ⟨.tuple #[.slice none 0 0, .slice none 0 0, .int .i64 80], by simp [results, Try.results72, go_sem, r1, r2, r3], some (t, b), _, _, _, hfb, rfl, x4, fun _ => ⟨rfl, rfl, rfl⟩, fun h => by cases h⟩
  | none =>
    unfold brickV
    dsimp only
    have e0 := A1.cell (i := 0) (v := .int .i64 W) rfl
    have e1 := A1.cell (i := 1) (v := .int .i64 H) rfl
    have e2 := A1.cell (i := 2) (v := .slice a ts.length cap) rfl
    have f2 := (A2.alloc (.cells (Array.replicate ts.length (.slice none 0 0)) 78)).fr (i := 0)
    have c2 := (A2.alloc (.cells (Array.replicate ts.length (.slice none 0 0)) 78)).cell (i := 0) (v := .slice none 0 0) rfl
    have hmk := make_rows ts.length w3 hts
    obtain ⟨gb, hgb⟩ : ∃ gb, w3.heap.size = gb := ⟨_, rfl⟩
    have B1 := (A1.alloc (.cells (Array.replicate ts.length (.slice none 0 0)) 78)).far (b' := w.heap.size + 1) (i := 0) (u := .slice (some ⟨gb, 0, none⟩) ts.length ts.length) (by omega)
    have B2 := (A2.alloc (.cells (Array.replicate ts.length (.slice none 0 0)) 78)).set 0 (by simp) (.slice (some ⟨gb, 0, none⟩) ts.length ts.length) rfl
    have B3 := (A3.alloc (.cells (Array.replicate ts.length (.slice none 0 0)) 78)).far (b' := w.heap.size + 1) (i := 0) (u := .slice (some ⟨gb, 0, none⟩) ts.length ts.length) (by omega)
    have B4 := (A4.alloc (.cells (Array.replicate ts.length (.slice none 0 0)) 78)).far (b' := w.heap.size + 1) (i := 0) (u := .slice (some ⟨gb, 0, none⟩) ts.length ts.length) (by omega)
    have B5 := (Blk.newI w3 gb (Array.replicate ts.length (.slice none 0 0)) 78 hgb).far (b' := w.heap.size + 1) (i := 0) (u := .slice (some ⟨gb, 0, none⟩) ts.length ts.length) (by omega)
    have B6 := (BB.alloc BB.size (.cells (Array.replicate ts.length (.slice none 0 0)) 78)).setCell (p := ⟨w.heap.size + 1, 0, none⟩) (show w.heap.size ≤ w.heap.size + 1 by omega) (.slice (some ⟨gb, 0, none⟩) ts.length ts.length)
    have hs4 : ((w3.alloc (.cells (Array.replicate ts.length (.slice none 0 0)) 78)).setCell ⟨w.heap.size + 1, 0, none⟩ (.slice (some ⟨gb, 0, none⟩) ts.length ts.length)).heap.size = gb + 1 := by rw [World.size_setCell]; simp [hgb]
    have HS4 := Lib.hid hs4
    have e3 := B1.cell (i := 0) (v := .int .i64 W) rfl
    have e4 := B1.cell (i := 1) (v := .int .i64 H) rfl
    have e5 := B1.cell (i := 2) (v := .slice a ts.length cap) rfl
    rw [hgb] at hmk
    have hgbl : w.heap.size + 4 ≤ gb := by omega
    have HB5 := Lib.hid (RowsAt.nils (base := w.heap.size) B5)
    clear B5 hs4
    gi_wp2_with fail
    refine ⟨trivial, ?_⟩
    obtain ⟨w4, hw4⟩ : ∃ w4, (w3.alloc (.cells (Array.replicate ts.length (.slice none 0 0)) 78)).setCell ⟨w.heap.size + 1, 0, none⟩ (.slice (some ⟨gb, 0, none⟩) ts.length ts.length) = w4 := ⟨_, rfl⟩
    rw [hw4] at B1 B2 B3 B4 B6 HS4 HB5 ⊢
    clear hw4 e0 e1 e2 e3 e4 e5 f2 c2 hmk A1 A2 A3 A4 BB hb13 hs3 hb2 hb3
    refine (callsIn_wide.2 (HUL.out w4)).mono ?_
    rintro e w5 ⟨g, rfl, hg, hgw, hb5⟩
    have B1 := (B1.past hb5)
    have B2 := (B2.past hb5)
    have B3 := (B3.past hb5)
    have B4 := (B4.past hb5)
    have B5 := HB5.out.past hb5
    have B6 := B6.trans (hb5.mono B6.size)
    have hs5 : gb + 1 ≤ w5.heap.size := by have := hb5.size; have := HS4.out; omega
    obtain ⟨b5, hb5e⟩ : ∃ b5, w5.heap.size = b5 := ⟨_, rfl⟩
    have C1 := B1.alloc (.cells #[.slice (some ⟨g, 0, none⟩) N N] 78)
    have C2 := B2.alloc (.cells #[.slice (some ⟨g, 0, none⟩) N N] 78)
    have C3 := B3.alloc (.cells #[.slice (some ⟨g, 0, none⟩) N N] 78)
    have C4 := B4.alloc (.cells #[.slice (some ⟨g, 0, none⟩) N N] 78)
    have C5 := B5.past ((Below.refl w5.heap.size w5).alloc (Nat.le_refl _) (.cells #[.slice (some ⟨g, 0, none⟩) N N] 78))
    have C6 := B6.alloc B6.size (.cells #[.slice (some ⟨g, 0, none⟩) N N] 78)
    have C7 := Blk.newI w5 b5 #[.slice (some ⟨g, 0, none⟩) N N] 78 hb5e
    have C8 := Blk.past hg ((Below.refl w5.heap.size w5).alloc (Nat.le_refl _) (.cells #[.slice (some ⟨g, 0, none⟩) N N] 78))
    have e5 := C1.cell (i := 2) (v := .slice a ts.length cap) rfl
    have hg5 : w.heap.size ≤ g := by have := HS4.out; omega
    clear B1 B2 B3 B4 B5 B6 HB5 hg
    gi_wp2_with fail
    refine ⟨trivial, ?_⟩
    obtain ⟨w6, hw6⟩ : ∃ w6, w5.alloc (.cells #[.slice (some ⟨g, 0, none⟩) N N] 78) = w6 := ⟨_, rfl⟩
    have hs6 : w6.heap.size = b5 + 1 := by rw [← hw6]; simp [hb5e]
    rw [hw6] at C1 C2 C3 C4 C5 C6 C7 C8 ⊢
    clear hw6 e5 hb5 hgw
    refine (callsIn_wide.2 (back_mk a ts.length cap w6)).mono ?_
    rintro e w7 ⟨rfl, rfl⟩
    have P7 : LoadI w W H (.slice a ts.length cap) ts.length gb b5 N (List.replicate ts.length []) (List.replicate N (0, 1)) (w6.alloc (.cells #[.slice a ts.length cap] 67)) :=
      ⟨C1.alloc _, C2.alloc _, C3.alloc _, ⟨g, C7.alloc _, Blk.alloc C8 _, hg5⟩, C5.past ((Below.refl w6.heap.size w6).alloc (Nat.le_refl _) _), C6.alloc C6.size _⟩
    have E7 := C4.alloc (.cells #[.slice a ts.length cap] 67)
    have BT := Blk.newI w6 (b5 + 1) #[.slice a ts.length cap] 67 hs6
    have hs7 : (w6.alloc (.cells #[.slice a ts.length cap] 67)).heap.size = b5 + 2 := by simp [hs6]
    rw [hs6]
    obtain ⟨w7, hw7⟩ : ∃ w7, w6.alloc (.cells #[.slice a ts.length cap] 67) = w7 := ⟨_, rfl⟩
    rw [hw7] at P7 E7 BT hs7 ⊢
    clear hw7 C1 C2 C3 C4 C5 C6 C7 C8
    have T7 := ht.keptK (Kept.of_below (K := KS n₀) (P7.b.mono (Nat.le_refl _)))
    obtain ⟨f, hit⟩ := back_iter n₀ (b5 + 1) _ ts w7 BT T7 hts
    have HT := Lib.hid T7
    have HP7 := Lib.hid P7
    have HE7 := Lib.hid E7
    have HN := Lib.hid hN
    have HIN := Lib.hid hin
    have HFB := Lib.hid hfb
    clear P7 E7 BT T7 hN hin hfb ht HUL
    gi_wp2_with fail
    apply range_outer1 (gf := 98) (lb := #[.pointer (some ⟨b5 + 1, 0, none⟩)]) rfl (enters_of Try.func98 (by kernel_rfl) rfl)
      hit (fun j r hj => by rintro (h | ⟨h, h'⟩); exact KS.loop (by omega) r h; cases h') (fun _ => rfl)
      (fun pre W' => (∃ rows pr, loadsS ts N (pre.map (·.1)) (List.replicate ts.length []) (List.replicate N (0, 1)) = (rows, pr, 0) ∧ (rows.length = ts.length ∧ pr.length = N ∧ ∀ i, i < pr.length → LoadOk (pr[i]?.getD (0, 1))) ∧ LoadI w W H (.slice a ts.length cap) ts.length gb b5 N rows pr W') ∧ Blk W' (w.heap.size + 1 + 1 + 1) #[.int .i64 0] 26 ∧ Kept (KT n₀ (b5 + 1)) w7 W')
      (fun c pre W' => c = .ret ∧ ∃ e, e ≠ 0 ∧ loadsS ts N (pre.map (·.1)) (List.replicate ts.length []) (List.replicate N (0, 1)) = ([], [], e) ∧ LoadX w e W')
      (OwnFrom.and (fun s A C row hs hg hr => by obtain ⟨rows, pr, h1, h2, h3⟩ := hs; exact ⟨rows, pr, h1, h2, LoadI.own (β := Unit) (by omega) () A C row h3 hg hr⟩) (OwnFrom.and (Own.from (blk_own _ _ (fun _ => #[Value.int .i64 0])) _) (ownFrom_keptT (by omega))))
      (fun c s A C row hs hg hr => by obtain ⟨hc, e, h1, h2, h3⟩ := hs; exact ⟨hc, e, h1, h2, LoadX.own (β := Unit) (by omega) () A C row h3 hg hr⟩)
      ⟨⟨_, _, rfl, ⟨by simp, by simp, fun i hi => by simp at hi; simp [hi, LoadOk]⟩, HP7.out⟩, HE7.out, Kept.refl _ _⟩
    case hassign =>
      intro l pre x W' Q hi hQ
      gi_wp2
      exact hQ _ _ (KeepsFrom.refl _ _) (Kept.refl _ _) hi rfl
    case hbody =>
      rintro l pre ⟨ti, v⟩ W1 hl ⟨r, hr⟩ ⟨⟨rows, pr, h1, ⟨h2, h6, h7⟩, h3⟩, h4, h5⟩ hpre
      have hti : ti < ts.length := by
        have h9 := hpre.subset (by simp : (ti, v) ∈ pre ++ [(ti, v)])
        simp [backL] at h9
        obtain ⟨a9, h8, h10, _⟩ := h9
        omega
      obtain ⟨ls, bl, er, hpf⟩ : ∃ ls bl er, passF ts ti N pr = (ls, bl, er) := ⟨_, _, _, rfl⟩
      have hsn := loadsS_snoc ti h1
      rw [hpf] at hsn
      obtain ⟨g9, p1, p2, p3⟩ := h3.p
      obtain ⟨vals, v1, v2, v3⟩ := h3.rows
      have hok := passF_ok h6 h7 (HN.out ti hti) ((HIN.out ti hti).ok HFB.out hti)
      rw [hpf] at hok
      have hpo := passOn_c n₀ W H _ ts ti g9 N pr ls bl er W1.drew hW hH hNN HN.out ((HT.out.keptK h5.toS).keptK (Kept.drew _ _)) hti ((HIN.out ti hti).ok HFB.out hti) (HIN.out ti hti).few (Blk.drew p2) h6 h7 hpf
      have HPO := Lib.hid hpo
      have HOK := Lib.hid hok
      have HSN : Hid (loadsS ts N ((pre ++ [(ti, v)]).map (·.1)) (List.replicate ts.length []) (List.replicate N (0, 1)) = if er = 0 then (rows.set ti ls, bl, 0) else ([], [], er)) := Lib.hid (by rw [List.map_append]; exact hsn)
      have HP3 := Lib.hid h3
      have HH4 := Lib.hid h4
      have c0 := h3.s.cell (i := 0) (v := .int .i64 W) rfl
      have c1 := h3.s.cell (i := 1) (v := .int .i64 H) rfl
      have c2 := h3.s.cell (i := 2) (v := .slice a ts.length cap) rfl
      have c3 := h3.r.cell (i := 0) (v := .slice (some ⟨gb, 0, none⟩) ts.length ts.length) rfl
      have c4 := p1.cell (i := 0) (v := .slice (some ⟨g9, 0, none⟩) N N) rfl
      have hti0 : (0 : Int) ≤ (ti : Int) := by omega
      have hti1 : (ti : Int) < (ts.length : Int) := by omega
      obtain ⟨vt, hvt⟩ : ∃ vt, vals[ti]? = some vt := ⟨_, List.getElem?_eq_getElem (by omega)⟩
      have hmix : Try.prog.follows .mixedOrders = true := by kernel_rfl
      have d0 := (Blk.drew h3.s).cell (i := 0) (v := .int .i64 W) rfl
      have d1 := (Blk.drew h3.s).cell (i := 1) (v := .int .i64 H) rfl
      have d2 := (Blk.drew h3.s).cell (i := 2) (v := .slice a ts.length cap) rfl
      have d3 := (Blk.drew h3.r).cell (i := 0) (v := .slice (some ⟨gb, 0, none⟩) ts.length ts.length) rfl
      have d4 := (Blk.drew p1).cell (i := 0) (v := .slice (some ⟨g9, 0, none⟩) N N) rfl
      clear hpo hok hsn hpf v3 h1 h6 h7 p2 p3
      gi_wp2_with fail
      refine region_round (fun X => X.cell? ⟨w.heap.size, 0, none⟩ = some (.int .i64 W) ∧ X.cell? ⟨w.heap.size, 1, none⟩ = some (.int .i64 H) ∧ X.cell? ⟨w.heap.size, 2, none⟩ = some (.slice a ts.length cap) ∧ X.cell? ⟨w.heap.size + 1, 0, none⟩ = some (.slice (some ⟨gb, 0, none⟩) ts.length ts.length)) 14 #[false, false, false, false, false, false, false, false, false, false, false, false, false, false] rfl rfl hmix (by kernel_rfl) (by rintro ⟨_, _, h⟩; exact h) ?_
      have hSS : W1.drew.cell? ⟨w.heap.size, 0, none⟩ = some (.int .i64 W) ∧ W1.drew.cell? ⟨w.heap.size, 1, none⟩ = some (.int .i64 H) ∧ W1.drew.cell? ⟨w.heap.size, 2, none⟩ = some (.slice a ts.length cap) ∧ W1.drew.cell? ⟨w.heap.size + 1, 0, none⟩ = some (.slice (some ⟨gb, 0, none⟩) ts.length ts.length) := ⟨d0, d1, d2, d3⟩
      refine take_first (i := 0) (v := ?_) rfl (by kernel_rfl) (by kernel_rfl) (by kernel_rfl) (fun _ _ _ h => h) (by rfl) (by assumption) ?_ ?_
      rotate_left 1
      · intro X hSX
        (try dsimp only at hSX)
        first | (go_simp; done) | (go_simp; with_reducible rfl)
      try simp only [Act.put, List.setIfInBounds_toArray, List.set_cons_zero, List.set_cons_succ]
      refine take_first (i := 1) (v := ?_) rfl (by kernel_rfl) (by kernel_rfl) (by kernel_rfl) (fun _ _ _ h => h) (by rfl) (by assumption) ?_ ?_
      rotate_left 1
      · intro X hSX
        (try dsimp only at hSX)
        first | (go_simp; done) | (go_simp; with_reducible rfl)
      try simp only [Act.put, List.setIfInBounds_toArray, List.set_cons_zero, List.set_cons_succ]
      refine take_first (i := 2) (v := ?_) rfl (by kernel_rfl) (by kernel_rfl) (by kernel_rfl) (fun _ _ _ h => h) (by rfl) (by assumption) ?_ ?_
      rotate_left 1
      · intro X hSX
        (try dsimp only at hSX)
        first | (go_simp; done) | (go_simp; with_reducible rfl)
      try simp only [Act.put, List.setIfInBounds_toArray, List.set_cons_zero, List.set_cons_succ]
      refine take_first (i := 3) (v := ?_) rfl (by kernel_rfl) (by kernel_rfl) (by kernel_rfl) (fun _ _ _ h => h) (by rfl) (by assumption) ?_ ?_
      rotate_left 1
      · intro X hSX
        (try dsimp only at hSX)
        first | (go_simp; done) | (go_simp; with_reducible rfl)
      try simp only [Act.put, List.setIfInBounds_toArray, List.set_cons_zero, List.set_cons_succ]
      refine only_one (i := 4) (by kernel_rfl) rfl (by rfl) ?_
      intro K hK
      go_simp
      refine hK.out _ _ hSS ?_
      clear hK K
      try simp only [Act.put, List.setIfInBounds_toArray, List.set_cons_zero, List.set_cons_succ]
      refine only_one (i := 5) (by kernel_rfl) rfl (by rfl) ?_
      intro K hK
      go_simp
      refine (HPO.out).mono ?_
      rintro e W5 ⟨p1', n1', c1', p2', n2', c2', rfl, hC⟩
      have B5 := (Below.refl W1.heap.size W1).drew.trans hC.1
      have r5 := (HP3.out.r.past B5)
      have s5 := (HP3.out.s.past B5)
      have t5 := (p1.past B5)
      have u5 := HH4.out.past B5
      have q5 := v2.past B5
      clear hSS c0 c1 c2 c3 c4 d0 d1 d2 d3 d4
      have hSS : W5.cell? ⟨w.heap.size, 0, none⟩ = some (.int .i64 W) ∧ W5.cell? ⟨w.heap.size, 1, none⟩ = some (.int .i64 H) ∧ W5.cell? ⟨w.heap.size, 2, none⟩ = some (.slice a ts.length cap) ∧ W5.cell? ⟨w.heap.size + 1, 0, none⟩ = some (.slice (some ⟨gb, 0, none⟩) ts.length ts.length) :=
        ⟨s5.cell (i := 0) rfl, s5.cell (i := 1) rfl, s5.cell (i := 2) rfl, r5.cell (i := 0) rfl⟩
      go_simp
      refine hK.out _ _ hSS ?_
      clear hK K
      try simp only [Act.put, List.setIfInBounds_toArray, List.set_cons_zero, List.set_cons_succ]
      refine take_first (i := 6) (v := ?_) rfl (by kernel_rfl) (by kernel_rfl) (by kernel_rfl) (fun _ _ _ h => h) (by rfl) (by assumption) ?_ ?_
      rotate_left 1
      · intro X hSX
        (try dsimp only at hSX)
        first | (go_simp; done) | (go_simp; with_reducible rfl)
      try simp only [Act.put, List.setIfInBounds_toArray, List.set_cons_zero, List.set_cons_succ]
      refine take_first (i := 7) (v := ?_) rfl (by kernel_rfl) (by kernel_rfl) (by kernel_rfl) (fun _ _ _ h => h) (by rfl) (by assumption) ?_ ?_
      rotate_left 1
      · intro X hSX
        (try dsimp only at hSX)
        first | (go_simp; done) | (go_simp; with_reducible rfl)
      try simp only [Act.put, List.setIfInBounds_toArray, List.set_cons_zero, List.set_cons_succ]
      refine take_first (i := 8) (v := ?_) rfl (by kernel_rfl) (by kernel_rfl) (by kernel_rfl) (fun _ _ _ h => h) (by rfl) (by assumption) ?_ ?_
      rotate_left 1
      · intro X hSX
        (try dsimp only at hSX)
        first | (go_simp; done) | (go_simp; with_reducible rfl)
      try simp only [Act.put, List.setIfInBounds_toArray, List.set_cons_zero, List.set_cons_succ]
      refine take_first (i := 9) (v := ?_) rfl (by kernel_rfl) (by kernel_rfl) (by kernel_rfl) (fun _ _ _ h => h) (by rfl) (by assumption) ?_ ?_
      rotate_left 1
      · intro X hSX
        (try dsimp only at hSX)
        first | (go_simp; done) | (go_simp; with_reducible rfl)
      try simp only [Act.put, List.setIfInBounds_toArray, List.set_cons_zero, List.set_cons_succ]
      refine take_first (i := 10) (v := ?_) rfl (by kernel_rfl) (by kernel_rfl) (by kernel_rfl) (fun _ _ _ h => h) (by rfl) (by assumption) ?_ ?_
      rotate_left 1
      · intro X hSX
        (try dsimp only at hSX)
        first | (go_simp; done) | (go_simp; with_reducible rfl)
      try simp only [Act.put, List.setIfInBounds_toArray, List.set_cons_zero, List.set_cons_succ]
      have e5 := q5.cell (i := ti) (v := vt) (by simpa using hvt)
      have f5 := q5.fr (i := ti)
      refine only_one (i := 11) (by kernel_rfl) rfl (by rfl) ?_
      intro K hK
      go_simp
      have s6 := s5.far (b' := gb) (i := ti) (u := .slice p1' n1' c1') (by omega)
      have r6 := r5.far (b' := gb) (i := ti) (u := .slice p1' n1' c1') (by omega)
      have t6 := t5.far (b' := gb) (i := ti) (u := .slice p1' n1' c1') (by omega)
      have u6 := u5.far (b' := gb) (i := ti) (u := .slice p1' n1' c1') (by omega)
      have hS6 := And.intro (s6.cell (i := 0) (v := .int .i64 W) rfl) (And.intro (s6.cell (i := 1) (v := .int .i64 H) rfl) (And.intro (s6.cell (i := 2) (v := .slice a ts.length cap) rfl) (r6.cell (i := 0) (v := .slice (some ⟨gb, 0, none⟩) ts.length ts.length) rfl)))
      have c6 := t6.cell (i := 0) (v := .slice (some ⟨g9, 0, none⟩) N N) rfl
      have f6 := t6.fr (i := 0)
      refine hK.out _ _ hS6 ?_
      clear hK K
      try simp only [Act.put, List.setIfInBounds_toArray, List.set_cons_zero, List.set_cons_succ]
      refine only_one (i := 12) (by kernel_rfl) rfl (by rfl) ?_
      intro K hK
      go_simp
      have s7 := s6.far (b' := b5) (i := 0) (u := .slice p2' n2' c2') (by omega)
      have r7 := r6.far (b' := b5) (i := 0) (u := .slice p2' n2' c2') (by omega)
      have t7 := t6.set 0 (by simp) (.slice p2' n2' c2') rfl
      have u7 := u6.far (b' := b5) (i := 0) (u := .slice p2' n2' c2') (by omega)
      have hS7 := And.intro (s7.cell (i := 0) (v := .int .i64 W) rfl) (And.intro (s7.cell (i := 1) (v := .int .i64 H) rfl) (And.intro (s7.cell (i := 2) (v := .slice a ts.length cap) rfl) (r7.cell (i := 0) (v := .slice (some ⟨gb, 0, none⟩) ts.length ts.length) rfl)))
      have c7 := u7.cell (i := 0) (v := .int .i64 0) rfl
      have f7 := u7.fr (i := 0)
      refine hK.out _ _ hS7 ?_
      clear hK K
      try simp only [Act.put, List.setIfInBounds_toArray, List.set_cons_zero, List.set_cons_succ]
      refine only_one (i := 13) (by kernel_rfl) rfl (by rfl) ?_
      intro K hK
      go_simp
      have s8 := s7.far (b' := w.heap.size + 1 + 1 + 1) (i := 0) (u := .int .i64 er) (by omega)
      have r8 := r7.far (b' := w.heap.size + 1 + 1 + 1) (i := 0) (u := .int .i64 er) (by omega)
      have t8 := t7.far (b' := w.heap.size + 1 + 1 + 1) (i := 0) (u := .int .i64 er) (by omega)
      have u8 := u7.set 0 (by simp) (.int .i64 er) rfl
      have hS8 := And.intro (s8.cell (i := 0) (v := .int .i64 W) rfl) (And.intro (s8.cell (i := 1) (v := .int .i64 H) rfl) (And.intro (s8.cell (i := 2) (v := .slice a ts.length cap) rfl) (r8.cell (i := 0) (v := .slice (some ⟨gb, 0, none⟩) ts.length ts.length) rfl)))
      refine hK.out _ _ hS8 ?_
      clear hK K
      try simp only [Act.put, List.setIfInBounds_toArray, List.set_cons_zero, List.set_cons_succ]
      refine wpAnyH_done (by kernel_rfl) ?_ _
      have z8 := (((HP3.out.z.past B5).far (b' := gb) (i := ti) (u := .slice p1' n1' c1') (by omega)).far (b' := b5) (i := 0) (u := .slice p2' n2' c2') (by omega)).far (b' := w.heap.size + 1 + 1 + 1) (i := 0) (u := .int .i64 er) (by omega)
      have bb8 := ((((HP3.out.b.trans (B5.mono HP3.out.b.size)).setCell (p := ⟨gb, ti, none⟩) (show w.heap.size ≤ gb by omega) (.slice p1' n1' c1')).setCell (p := ⟨b5, 0, none⟩) (show w.heap.size ≤ b5 by omega) (.slice p2' n2' c2')).setCell (p := ⟨w.heap.size + 1 + 1 + 1, 0, none⟩) (show w.heap.size ≤ w.heap.size + 1 + 1 + 1 by omega) (.int .i64 er))
      have kf8 := (KeepsFrom.of_below (B := w7.heap.size) B5).trans ((((KeepsOthers.setCell W5 ⟨gb, ti, none⟩ (.slice p1' n1' c1')).trans (KeepsOthers.setCell _ ⟨b5, 0, none⟩ (.slice p2' n2' c2'))).trans (KeepsOthers.setCell _ ⟨w.heap.size + 1 + 1 + 1, 0, none⟩ (.int .i64 er))).from _)
      have kt8 := ((Kept.of_below (K := KT n₀ (b5 + 1)) B5).trans (Kept.setT (i := ti) (u := .slice p1' n1' c1') q5 (by omega) (by decide) (by decide) (by decide) (by omega))).trans ((Kept.setT (i := 0) (u := .slice p2' n2' c2') t6 (by omega) (by decide) (by decide) (by decide) (by omega)).trans (Kept.setT (i := 0) (u := .int .i64 er) u7 (by omega) (by decide) (by decide) (by decide) (by omega)))
      have rows5 := HP3.out.rows.past B5
      by_cases he : er = 0
      · subst he
        obtain ⟨ho, g5, rfl, e6, e7, hgg, hlb⟩ := hC.2.1 rfl
        have e6 := e6.symm
        have e7 := e7.symm
        subst e6 e7
        have hgs : W1.drew.heap.size ≤ g5 := hgg
        have hW1s : b5 < W1.heap.size := p1.lt
        have hg5b : b5 < g5 := by have : W1.drew.heap.size = W1.heap.size := rfl; omega
        have R6 := RowsAt.set rows5 (ti := ti) (by omega) (ownsRow_base (by have : W1.drew.heap.size = W1.heap.size := rfl; have := HP3.out.b.size; omega) ho)
        have R7 := RowsAt.far (i := 0) (u := .slice (some ⟨g5, 0, none⟩) N N) t6 (by decide) R6 (by omega)
        have R8 := RowsAt.far (i := 0) (u := .int .i64 0) u7 (by decide) R7 (by omega)
        have L8 := ((Blk.far hlb (b' := gb) (i := ti) (u := .slice p1' n1' c1') (by omega)).far (b' := b5) (i := 0) (u := .slice (some ⟨g5, 0, none⟩) N N) (by omega)).far (b' := w.heap.size + 1 + 1 + 1) (i := 0) (u := .int .i64 0) (by omega)
        obtain ⟨X3, hX3⟩ : ∃ X3, (((W5.setCell ⟨gb, ti, none⟩ (.slice p1' n1' c1')).setCell ⟨b5, 0, none⟩ (.slice (some ⟨g5, 0, none⟩) N N)).setCell ⟨w.heap.size + 1 + 1 + 1, 0, none⟩ (.int .i64 0)) = X3 := ⟨_, rfl⟩
        rw [hX3] at s8 r8 t8 u8 z8 bb8 kf8 kt8 R8 L8 ⊢
        have LI : LoadI w W H (.slice a ts.length cap) ts.length gb b5 N (rows.set ti ls) bl X3 := ⟨s8, r8, z8, ⟨g5, t8, L8, by omega⟩, R8, bb8⟩
        have HLI := Lib.hid LI
        have HKF := Lib.hid kf8
        have HKT := Lib.hid kt8
        have HU8 : Hid (Blk X3 (w.heap.size + 1 + 1 + 1) #[.int .i64 0] 26) := Lib.hid u8
        have c8 := u8.cell (i := 0) (v := .int .i64 0) rfl
        obtain ⟨k1, k2, k3, k4⟩ := HOK.out rfl
        have HI : Hid ((rows.set ti ls).length = ts.length ∧ bl.length = N ∧ ∀ i, i < bl.length → LoadOk (bl[i]?.getD (0, 1))) := Lib.hid ⟨by rw [List.length_set]; exact h2, k2, fun i hi => k3 i (by rw [← k2]; exact hi)⟩
        clear hX3 LI kf8 kt8 s8 r8 t8 u8 z8 bb8 R8 L8 R7 R6 hC s7 r7 t7 u7 s6 r6 t6 u6 s5 r5 t5 u5 q5 e5 f5 c6 f6 c7 f7 hSS hS6 hS7 hS8 hlb ho B5 rows5 k1 k2 k3 k4
        gi_wp2
        exact ⟨KeepsFrom.mono HKF.out (by omega), HKT.out, ⟨_, _, (HSN.out.trans (if_pos (by trivial))), HI.out, HLI.out⟩, HU8.out, h5.trans HKT.out⟩
      · obtain ⟨⟨rfl, rfl, rfl⟩, rfl, rfl, rfl⟩ := hC.2.2 he
        obtain ⟨X3, hX3⟩ : ∃ X3, (((W5.setCell ⟨gb, ti, none⟩ (.slice none 0 0)).setCell ⟨b5, 0, none⟩ (.slice none 0 0)).setCell ⟨w.heap.size + 1 + 1 + 1, 0, none⟩ (.int .i64 er)) = X3 := ⟨_, rfl⟩
        rw [hX3] at r8 u8 z8 bb8 kf8 kt8 ⊢
        have HSN2 : Hid (loadsS ts N ((pre ++ [(ti, v)]).map (·.1)) (List.replicate ts.length []) (List.replicate N (0, 1)) = ([], [], er)) := Lib.hid (HSN.out.trans (if_neg he))
        have hne : (er != 0) = true := by simpa using he
        have u9 : Blk X3 (w.heap.size + 1 + 1 + 1) #[.int .i64 er] 26 := u8
        have c8 := u9.cell (i := 0) (v := .int .i64 er) rfl
        have i1 := r8.cell (i := 0) (v := .slice (some ⟨gb, 0, none⟩) ts.length ts.length) rfl
        have j1 := r8.fr (i := 0)
        have z10 := z8.far (b' := w.heap.size + 1) (i := 0) (u := .slice none 0 0) (by omega)
        have i2 := z8.cell (i := 0) (v := .slice none 0 0) rfl
        have j2 := z8.fr (i := 0)
        have v11 := (u9.far (b' := w.heap.size + 1) (i := 0) (u := .slice none 0 0) (by omega)).far (b' := w.heap.size + 1 + 1) (i := 0) (u := .slice none 0 0) (by omega)
        have j3 := u9.fr (i := 0)
        have x1 := ((r8.set 0 (by simp) (.slice none 0 0) rfl).far (b' := w.heap.size + 1 + 1) (i := 0) (u := .slice none 0 0) (by omega)).far (b' := w.heap.size + 1 + 1 + 1) (i := 0) (u := .int .i64 er) (by omega)
        have x2 := (z10.set 0 (by simp) (.slice none 0 0) rfl).far (b' := w.heap.size + 1 + 1 + 1) (i := 0) (u := .int .i64 er) (by omega)
        have x3 := v11.set 0 (by simp) (.int .i64 er) rfl
        have x4 := ((bb8.setCell (p := ⟨w.heap.size + 1, 0, none⟩) (show w.heap.size ≤ w.heap.size + 1 by omega) (.slice none 0 0)).setCell (p := ⟨w.heap.size + 1 + 1, 0, none⟩) (show w.heap.size ≤ w.heap.size + 1 + 1 by omega) (.slice none 0 0)).setCell (p := ⟨w.heap.size + 1 + 1 + 1, 0, none⟩) (show w.heap.size ≤ w.heap.size + 1 + 1 + 1 by omega) (.int .i64 er)
        have k9 := kf8.trans (((((KeepsOthers.setCell X3 ⟨w.heap.size + 1, 0, none⟩ (.slice none 0 0))).trans (KeepsOthers.setCell _ ⟨w.heap.size + 1 + 1, 0, none⟩ (.slice none 0 0))).trans ((KeepsOthers.setCell _ ⟨w.heap.size + 1 + 1 + 1, 0, none⟩ (.int .i64 er)).trans (KeepsOthers.drew _))).from _)
        have HLX : Hid (LoadX w er (((X3.setCell ⟨w.heap.size + 1, 0, none⟩ (.slice none 0 0)).setCell ⟨w.heap.size + 1 + 1, 0, none⟩ (.slice none 0 0)).setCell ⟨w.heap.size + 1 + 1 + 1, 0, none⟩ (.int .i64 er)).drew) := Lib.hid ⟨x1.drew, x2.drew, x3.drew, x4.drew⟩
        have HK9 := Lib.hid k9
        have HT0 := Lib.hid (u9.drew.cell (i := 0) (v := .int .i64 er) rfl)
        have HT1 := Lib.hid ((u9.far (b' := w.heap.size + 1) (i := 0) (u := .slice none 0 0) (by omega)).drew.cell (i := 0) (v := .int .i64 er) rfl)
        have HT2 := Lib.hid (v11.drew.cell (i := 0) (v := .int .i64 er) rfl)
        have HT3 := Lib.hid (x3.drew.cell (i := 0) (v := .int .i64 er) rfl)
        clear hX3 x1 x2 x3 x4 k9 kf8 kt8 s8 r8 t8 u8 z8 bb8 hC s7 r7 t7 u7 s6 r6 t6 u6 s5 r5 t5 u5 q5 e5 f5 c6 f6 c7 f7 hSS hS6 hS7 hS8 B5 rows5 u9 z10 v11
        gi_wp2
        refine region_round (fun X => X.cell? ⟨w.heap.size + 1 + 1 + 1, 0, none⟩ = some (.int .i64 er)) 4 #[false, false, false, false] rfl rfl hmix (by kernel_rfl) (by rintro ⟨_, _, h⟩; exact h) ?_
        have hT0 := HT0.out
        refine take_first (i := 0) (v := ?_) rfl (by kernel_rfl) (by kernel_rfl) (by kernel_rfl) (fun _ _ _ h => h) (by rfl) (by assumption) ?_ ?_
        rotate_left 1
        · intro X hSX
          (try dsimp only at hSX)
          first | (go_simp; done) | (go_simp; with_reducible rfl)
        try simp only [Act.put, List.setIfInBounds_toArray, List.set_cons_zero, List.set_cons_succ]
        refine only_one (i := 1) (by kernel_rfl) rfl (by rfl) ?_
        intro K hK
        go_simp
        refine hK.out _ _ HT1.out ?_
        clear hK K
        try simp only [Act.put, List.setIfInBounds_toArray, List.set_cons_zero, List.set_cons_succ]
        refine only_one (i := 2) (by kernel_rfl) rfl (by rfl) ?_
        intro K hK
        go_simp
        refine hK.out _ _ HT2.out ?_
        clear hK K
        try simp only [Act.put, List.setIfInBounds_toArray, List.set_cons_zero, List.set_cons_succ]
        refine only_one (i := 3) (by kernel_rfl) rfl (by rfl) ?_
        intro K hK
        go_simp
        refine hK.out _ _ HT3.out ?_
        clear hK K
        try simp only [Act.put, List.setIfInBounds_toArray, List.set_cons_zero, List.set_cons_succ]
        refine wpAnyH_done (by kernel_rfl) ?_ _
        gi_wp2
        exact ⟨KeepsFrom.mono HK9.out (by omega), rfl, er, he, HSN2.out, HLX.out⟩
    case hdone =>
      rintro D W' hD ⟨⟨rows, pr, h1, h2, h3⟩, h4, h5⟩ hdf
      have HV : Hid (loadsF ts N = (rows, pr, 0)) := Lib.hid (by
        unfold loadsF
        rw [show (List.range ts.length).reverse = (backL f ts.length).map (·.1) from by simp [backL, Function.comp_def], h1])
      obtain ⟨g9, p1, p2, p3⟩ := h3.p
      have c2 := h3.r.cell (i := 0) (v := .slice (some ⟨gb, 0, none⟩) ts.length ts.length) rfl
      have f2 := h3.r.fr (i := 0)
      have c3 := h3.z.cell (i := 0) (v := .slice none 0 0) rfl
      have f3 := h3.z.fr (i := 0)
      have c4 := h4.cell (i := 0) (v := .int .i64 0) rfl
      have f4 := h4.fr (i := 0)
      have c5 := p1.cell (i := 0) (v := .slice (some ⟨g9, 0, none⟩) N N) rfl
      have n1 := Blk.ne p2 h3.r (by decide)
      have n2 := Blk.ne p2 h3.z (by decide)
      have n3 := Blk.ne p2 h4 (by decide)
      have X1 := ((h3.r.set 0 (by simp) (.slice (some ⟨gb, 0, none⟩) ts.length ts.length) rfl).far (b' := w.heap.size + 1 + 1) (i := 0) (u := .slice (some ⟨g9, 0, none⟩) N N) (by omega)).far (b' := w.heap.size + 1 + 1 + 1) (i := 0) (u := .int .i64 0) (by omega)
      have X2 := ((h3.z.far (b' := w.heap.size + 1) (i := 0) (u := .slice (some ⟨gb, 0, none⟩) ts.length ts.length) (by omega)).set 0 (by simp) (.slice (some ⟨g9, 0, none⟩) N N) rfl).far (b' := w.heap.size + 1 + 1 + 1) (i := 0) (u := .int .i64 0) (by omega)
      have X3 := ((h4.far (b' := w.heap.size + 1) (i := 0) (u := .slice (some ⟨gb, 0, none⟩) ts.length ts.length) (by omega)).far (b' := w.heap.size + 1 + 1) (i := 0) (u := .slice (some ⟨g9, 0, none⟩) N N) (by omega)).set 0 (by simp) (.int .i64 0) rfl
      have X4 := ((Blk.far p2 (b' := w.heap.size + 1) (i := 0) (u := .slice (some ⟨gb, 0, none⟩) ts.length ts.length) n1).far (b' := w.heap.size + 1 + 1) (i := 0) (u := .slice (some ⟨g9, 0, none⟩) N N) n2).far (b' := w.heap.size + 1 + 1 + 1) (i := 0) (u := .int .i64 0) n3
      have X5 := (((h3.b.setCell (p := ⟨w.heap.size + 1, 0, none⟩) (show w.heap.size ≤ w.heap.size + 1 by omega) (.slice (some ⟨gb, 0, none⟩) ts.length ts.length)).setCell (p := ⟨w.heap.size + 1 + 1, 0, none⟩) (show w.heap.size ≤ w.heap.size + 1 + 1 by omega) (.slice (some ⟨g9, 0, none⟩) N N)).setCell (p := ⟨w.heap.size + 1 + 1 + 1, 0, none⟩) (show w.heap.size ≤ w.heap.size + 1 + 1 + 1 by omega) (.int .i64 0))
      have R1 := RowsAt.far (i := 0) (u := .slice (some ⟨gb, 0, none⟩) ts.length ts.length) h3.r (by decide) h3.rows (by omega)
      have R2 := RowsAt.far (i := 0) (u := .slice (some ⟨g9, 0, none⟩) N N) (h3.z.far (b' := w.heap.size + 1) (i := 0) (u := .slice (some ⟨gb, 0, none⟩) ts.length ts.length) (by omega)) (by decide) R1 (by omega)
      have R3 := RowsAt.far (i := 0) (u := .int .i64 0) ((h4.far (b' := w.heap.size + 1) (i := 0) (u := .slice (some ⟨gb, 0, none⟩) ts.length ts.length) (by omega)).far (b' := w.heap.size + 1 + 1) (i := 0) (u := .slice (some ⟨g9, 0, none⟩) N N) (by omega)) (by decide) R2 (by omega)
      have hDe : D ≠ w.heap.size + 1 ∧ D ≠ w.heap.size + 1 + 1 ∧ D ≠ w.heap.size + 1 + 1 + 1 := by omega
      have hdf2 := (((Below.heap_setCell (((W'.setCell ⟨w.heap.size + 1, 0, none⟩ (.slice (some ⟨gb, 0, none⟩) ts.length ts.length)).setCell ⟨w.heap.size + 1 + 1, 0, none⟩ (.slice (some ⟨g9, 0, none⟩) N N))) ⟨w.heap.size + 1 + 1 + 1, 0, none⟩ (.int .i64 0) D hDe.2.2).trans (Below.heap_setCell _ ⟨w.heap.size + 1 + 1, 0, none⟩ (.slice (some ⟨g9, 0, none⟩) N N) D hDe.2.1)).trans (Below.heap_setCell W' ⟨w.heap.size + 1, 0, none⟩ (.slice (some ⟨gb, 0, none⟩) ts.length ts.length) D hDe.1)).trans hdf
      have HX := Lib.hid (And.intro (And.intro X1 (And.intro X2 X3)) (And.intro R3 (And.intro X4 X5)))
      have HDF := Lib.hid hdf2
      have HGB : Hid (w.heap.size ≤ gb) := Lib.hid (by omega)
      have HP3 := Lib.hid p3
      clear X1 X2 X3 X4 X5 R1 R2 R3 p1 p2 p3 hdf2 h1 h2 h3 h4 n1 n2 n3
      gi_wp2
      gi_region
      all_goals
        gi_wp2
        refine leaves_marks (I := fun (_ : Unit) W9 => (Blk W9 (w.heap.size + 1) #[.slice (some ⟨gb, 0, none⟩) ts.length ts.length] 77 ∧ Blk W9 (w.heap.size + 1 + 1) #[.slice (some ⟨g9, 0, none⟩) N N] 78 ∧ Blk W9 (w.heap.size + 1 + 1 + 1) #[.int .i64 0] 26) ∧ RowsAt W9 w.heap.size gb rows ∧ LoadsB W9 g9 pr ∧ Below w.heap.size w W9) (B := w.heap.size)
          (OwnFrom.and (OwnFrom.and (Own.from (blk_own _ _ (fun _ : Unit => #[.slice (some ⟨gb, 0, none⟩) ts.length ts.length])) _) (OwnFrom.and (Own.from (blk_own _ _ (fun _ : Unit => #[.slice (some ⟨g9, 0, none⟩) N N])) _) (Own.from (blk_own _ _ (fun _ : Unit => #[.int .i64 0])) _))) (OwnFrom.and RowsAt.own (OwnFrom.and (Own.from (blk_own _ _ (fun _ : Unit => (flatL pr).toArray)) _) (ownFrom_below (Nat.le_refl _) (Nat.le_refl _))))) ?_ [D] _ ⟨by simp, fun D' hD' => by rw [List.mem_singleton.1 hD']; exact ⟨by omega, HDF.out⟩⟩ ⟨HX.out.1, HX.out.2.1, HX.out.2.2.1, HX.out.2.2.2.drew⟩
        rintro W9 ⟨⟨y1, y2, y3⟩, y4, y5, y6⟩
        have r1 := y1.cell (i := 0) (v := .slice (some ⟨gb, 0, none⟩) ts.length ts.length) rfl
        have r2 := y2.cell (i := 0) (v := .slice (some ⟨g9, 0, none⟩) N N) rfl
        have r3 := y3.cell (i := 0) (v := .int .i64 0) rfl
        exact ⟨.tuple #[.slice (some ⟨gb, 0, none⟩) ts.length ts.length, .slice (some ⟨g9, 0, none⟩) N N, .int .i64 0], by simp [results, Try.results72, go_sem, r1, r2, r3], none, _, _, _, HFB.out, rfl, y6, fun h => absurd rfl h, fun _ => ⟨by rw [HV.out], fun h => absurd rfl h, fun _ => ⟨gb, g9, rfl, HGB.out, by rw [HV.out]; exact y4, rfl, HP3.out, by rw [HV.out]; exact y5⟩⟩⟩
    case hstop =>
      rintro D c pre W' hD hpre ⟨rfl, e, h1, h2, h3⟩ hdf
      obtain ⟨rest, hrest⟩ := hpre
      have HV : Hid ((loadsF ts N).2.2 = e) := Lib.hid (by
        have h9 := loadsS_fail (rest.map (·.1)) h2 h1
        rw [← List.map_append, hrest] at h9
        unfold loadsF
        rw [show (List.range ts.length).reverse = (backL f ts.length).map (·.1) from by simp [backL, Function.comp_def], h9])
      have H3 := Lib.hid h3
      clear h2 h3
      gi_wp2
      refine leaves_marks (I := fun (_ : Unit) W => LoadX w e W) (B := w.heap.size) (LoadX.own (Nat.le_refl _)) ?_ [D] _ ⟨by simp, fun D' hD' => by rw [List.mem_singleton.1 hD']; exact ⟨by omega, hdf⟩⟩ H3.out
      rintro W9 ⟨x1, x2, x3, x4⟩
      have r1 := x1.cell (i := 0) (v := .slice none 0 0) rfl
      have r2 := x2.cell (i := 0) (v := .slice none 0 0) rfl
      have r3 := x3.cell (i := 0) (v := .int .i64 e) rfl
      exact ⟨.tuple #[.slice none 0 0, .slice none 0 0, .int .i64 e], by simp [results, Try.results72, go_sem, r1, r2, r3], none, _, _, _, HFB.out, rfl, x4, fun h => absurd rfl h, fun _ => ⟨HV.out.symm, fun _ => ⟨rfl, rfl⟩, fun h => absurd h h1⟩⟩
end Go.Proofs.Ytopnlcjbklmicaa
