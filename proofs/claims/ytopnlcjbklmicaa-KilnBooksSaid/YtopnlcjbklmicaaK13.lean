import Derived.Test.YtopnlcjbklmicaaK12
import Derived.WalkKit
import Derived.WalkSpells
import Derived.WalkLawsBesides
import Derived.Deep.QuietTactic
import Derived.BigQuiet
import Derived.Lib.Hide
import Derived.WalkSmall
import Derived.Maps.OwnSet
import Derived.Maps.RangeWalk
import Derived.Deep.RegionWith
import Derived.Deep.RegionHeld3
import Derived.Deep.DrawnRows
import Derived.Deep.DeepCutAuto
import Derived.OneCell
import Derived.KernelRfl
import Derived.Laws.StructEq
import Derived.StillTailTactics
import Derived.Laws.Externs
import Derived.RangeFuncBox
import Derived.Outline
import Derived.RangeFuncNested
import Derived.RangeFuncBound
import Derived.RangeFuncCalls
import Derived.RangeFuncLeaves
import Derived.Shelf.RegionOpen
import Derived.OwnWalkIn
import Derived.TacticsInMore
import Derived.LoopNIn
import Derived.LoopIn
import Derived.Test.YtopnlcjbklmicaaProg
namespace Go.Proofs.Ytopnlcjbklmicaa
open Go.RowKit Go.Maps Go.Shelf
set_option linter.unusedVariables false
set_option linter.unusedSimpArgs false
attribute [local go_sem] Oper.semAt_some
theorem range_outerB {α : Type} {P : Program} {g : Operand} {ps : Array Tmp} {assign body : Code} {Q : Exit → Act → World → Prop} {a : Act} {w : World}
    {gf : Nat} {lb : Array Value} (hg : a.eval g = .func (.func gf) #[] lb) (eg : ∀ args w, (callFunc gf args).run P w = .ok (.enter gf args) w)
    {encs : α → Array Value} {K : Nat → Obj → Prop} {xs : List α} (hit : Iter P gf lb encs K xs w) (hK : ∀ k r, w.heap.size ≤ k → ¬ K k (.loop r)) (hps : ∀ x, (encs x).size = ps.size)
    (I : List α → World → Prop) (Ix : Code → List α → World → Prop) (hI : OwnFrom w.heap.size I) (hIx : ∀ c, OwnFrom w.heap.size (Ix c)) (h0 : I [] w) (vs : α → Array Value) (T : TypeId) (f : α → Nat → Act)
    (hassign : ∀ (l : Nat) (pre : List α) (x : α) (W : World) (Q : Act → World → Prop), I pre W → (∀ Bx W', KeepsFrom w.heap.size W W' → Kept K W W' → I pre W' → Blk W' Bx (vs x) T → Q (f x Bx) W') →
      assign.wpIn (Fence.wide.inRound l) 9 P (Exit.then Q (fun _ _ _ => False)) { tmps := (ps.zip (encs x)).foldl (fun t (p, v) => t.setIfInBounds p v) a.tmps, defers := [] } W)
    (hbody : ∀ (l : Nat) (pre : List α) (x : α) (Bx : Nat) (W : World), w.heap.size ≤ l → (∃ r, W.heap[l]? = some (.loop r)) → I pre W → Blk W Bx (vs x) T → (pre ++ [x]) <+: xs → body.wpIn (Fence.wide.inRound l) 9 P (roundP w.heap.size K I Ix (pre ++ [x]) W) (f x Bx) W)
    (hdone : ∀ (D : Nat) (W : World), w.heap.size ≤ D → I xs W → W.heap[D]? = some (.deferred (some [])) → Q .normal { a with defers := { target := .collected D, args := #[] } :: a.defers } W)
    (hstop : ∀ (D : Nat) (c : Code) (pre : List α) (W : World), w.heap.size ≤ D → pre <+: xs → Ix c pre W → W.heap[D]? = some (.deferred (some [])) → c.wpIn Fence.wide 9 P Q { a with defers := { target := .collected D, args := #[] } :: a.defers } W) :
    (Code.rangeFunc g ps assign body).wpIn Fence.wide 9 P Q a w :=
  range_outer hg eg hit hK hps I Ix hI hIx h0 (fun x a' W => ∃ Bx, Blk W Bx (vs x) T ∧ a' = f x Bx)
    (fun x a' s A C row hs hgr hr => by
      obtain ⟨Bx, h2, h3⟩ := hs
      refine ⟨Bx, h2.kept hgr (fun e => ?_), h3⟩
      obtain ⟨_, o, ho, hc⟩ := hr Bx e.symm
      rw [show A.heap[Bx]? = _ from h2] at ho
      cases ho
      cases hc)
    (fun l pre x W Q hi hQ => hassign l pre x W Q hi fun Bx W' k1 k2 hi' hx => hQ _ _ k1 k2 hi' ⟨Bx, hx, rfl⟩)
    (fun l pre x a' W hl hr hi ha hp => by obtain ⟨Bx, h2, rfl⟩ := ha; exact hbody l pre x Bx W hl hr hi h2 hp) hdone hstop

theorem nowhere_any (w : World) : Calls Try.prog 95 #[] w fun e w' => e = .returned (.agg #[.int .i64 (-1), .int .i64 (-1)]) ∧ Below w.heap.size w w' := by
  go_enter Try.func95, Try.ntmps95
  go_wp2
  refine bodyPost_ret (v := .agg #[.int .i64 (-1), .int .i64 (-1)]) ?_ rfl ?_
  · simp [results, Try.results95, go_sem]
  · exact ⟨rfl, (Below.refl _ w).alloc (Nat.le_refl _) _⟩
/-- The mark of a loop's deferred calls. -/
def mkD (D : Nat) : Deferred := { target := .collected D, args := #[] }
def Marks (B : Nat) (Ds : List Nat) (W : World) : Prop := Ds.Nodup ∧ ∀ D ∈ Ds, B ≤ D ∧ W.heap[D]? = some (.deferred (some []))
theorem Marks.own {β : Type} {B B' : Nat} {Ds : List Nat} (h : ∀ D ∈ Ds, D < B') : OwnFrom B' (fun (_ : β) W => Marks B Ds W) := fun s X Y row hs hg hr =>
  ⟨hs.1, fun D hD => ⟨(hs.2 D hD).1, (hg.block D (Array.getElem?_eq_some_iff.1 (hs.2 D hD).2).1 (fun e => by have := (hr D e.symm).1; have := h D hD; omega)).trans (hs.2 D hD).2⟩⟩
theorem Marks.below {B : Nat} {Ds : List Nat} {W W' : World} (h : Marks B Ds W) (hb : Below W.heap.size W W') : Marks B Ds W' :=
  ⟨h.1, fun D hD => ⟨(h.2 D hD).1, (hb.block D (Array.getElem?_eq_some_iff.1 (h.2 D hD).2).1).trans (h.2 D hD).2⟩⟩
theorem Marks.lt {B : Nat} {Ds : List Nat} {W : World} (h : Marks B Ds W) : ∀ D ∈ Ds, D < W.heap.size := fun D hD => (Array.getElem?_eq_some_iff.1 (h.2 D hD).2).1
theorem Marks.set {B : Nat} {Ds : List Nat} {W : World} (h : Marks B Ds W) {b i : Nat} {vs : Array Value} {T : TypeId} (hb : Blk W b vs T) (u : Value) : Marks B Ds (W.setCell ⟨b, i, none⟩ u) :=
  ⟨h.1, fun D hD => ⟨(h.2 D hD).1, (Below.heap_setCell W _ u D (fun e => by
    have := (h.2 D hD).2
    have e2 : D = b := e
    rw [e2, show W.heap[b]? = _ from hb] at this
    cases this)).trans (h.2 D hD).2⟩⟩
theorem Marks.cons {B D : Nat} {Ds : List Nat} {W : World} (h : Marks B Ds W) (hD : W.heap[D]? = some (.deferred (some []))) (hB : B ≤ D) (hn : ∀ D' ∈ Ds, D' < D) : Marks B (D :: Ds) W :=
  ⟨List.nodup_cons.2 ⟨fun hm => Nat.lt_irrefl _ (hn D hm), h.1⟩, fun D' hD' => by
    rcases List.mem_cons.1 hD' with rfl | hm
    · exact ⟨hB, hD⟩
    · exact h.2 D' hm⟩
/-- A function that leaves with marks. -/
theorem leaves_marks {P : Program} {fn : Func} {tmps : Array Value} {R : Ending → World → Prop} {B : Nat} {I : Unit → World → Prop} (hI : OwnFrom B I)
    (hfin : ∀ W, I () W → LeavesIn Fence.wide 9 P fn tmps R [] .returning W) : ∀ (Ds : List Nat) (W : World), Marks B Ds W → I () W → LeavesInM Fence.wide 9 P fn tmps R (Ds.map mkD) .returning W := by
  intro Ds
  induction Ds with
  | nil => intro W _ h; exact hfin W h
  | cons D Ds ih =>
    intro W hm h
    obtain ⟨hnd, hall⟩ := hm
    have hD := hall D (by simp)
    refine ⟨by simp, .inl ⟨D, _, rfl, run_takeDeferred hD.2, ih _ ⟨(List.nodup_cons.1 hnd).2, fun D' hD' => ⟨(hall D' (by simp [hD'])).1, ?_⟩⟩ (hI.putObj _ h hD.1 hD.2 rfl)⟩⟩
    refine (World.putObj_heap_other (fun e => ?_)).trans (hall D' (by simp [hD'])).2
    subst e
    exact (List.nodup_cons.1 hnd).1 hD'
/-- The first brick for which it is true: none, or its tier and number. -/
def FirstB (ts : List (List Int × List Int)) (p : Nat → Nat → Bool) : Option (Nat × Nat) → Prop
  | none => ∀ t, t < ts.length → ∀ b, b < (ts[t]?.getD ([], [])).2.length → p t b = false
  | some (t, b) => t < ts.length ∧ b < (ts[t]?.getD ([], [])).2.length ∧ p t b = true ∧ (∀ b', b' < b → p t b' = false) ∧ ∀ t', t' < t → ∀ b', b' < (ts[t']?.getD ([], [])).2.length → p t' b' = false
def brickV : Option (Nat × Nat) → Value
  | none => .agg #[.int .i64 (-1), .int .i64 (-1)]
  | some (t, b) => .agg #[.int .i64 t, .int .i64 b]
def hangP (ts : List (List Int × List Int)) (t b : Nat) : Bool := decide ((restsL ts t b).length = 0)
theorem range_pre {pre : List Nat} {x n : Nat} (h : pre ++ [x] <+: List.range n) : pre = List.range x ∧ x < n := by
  have hl := h.length_le
  simp at hl
  have e := List.prefix_iff_eq_take.1 h
  rw [List.take_range, Nat.min_eq_left (by simpa using hl)] at e
  rw [List.length_append, List.length_singleton, List.range_succ] at e
  have e1 := List.append_inj_left' e rfl
  have e2 := List.append_inj_right' e rfl
  have e3 : x = pre.length := by simpa using e2
  exact ⟨by rw [e3]; simpa using e1, by omega⟩
/-- What stands while the first brick is looked for. -/
structure FirstI (n₀ : Nat) (w W0 : World) (W H : Int) (tv isv : Value) (Ds : List Nat) (wr : World) : Prop where
  s : Blk wr w.heap.size #[.int .i64 W, .int .i64 H, tv] 143
  i : Blk wr (w.heap.size + 1) #[isv] 151
  r : Blk wr (w.heap.size + 1 + 1) #[.int .i64 0, .int .i64 0] 74
  k : Kept (KS n₀) W0 wr
  b : Below w.heap.size w wr
  m : Marks w.heap.size Ds wr
theorem FirstI.past {n₀ : Nat} {w W0 : World} {W H : Int} {tv isv : Value} {Ds : List Nat} {wr wr' : World} (h : FirstI n₀ w W0 W H tv isv Ds wr) (hb : Below wr.heap.size wr wr') : FirstI n₀ w W0 W H tv isv Ds wr' :=
  ⟨h.s.past hb, h.i.past hb, h.r.past hb, h.k.trans (Kept.of_below hb), h.b.trans (hb.mono h.b.size), h.m.below hb⟩
theorem FirstI.own {β : Type} {n₀ : Nat} {w W0 : World} {W H : Int} {tv isv : Value} {Ds : List Nat} {B : Nat} (h1 : w.heap.size + 2 < B) (h0 : n₀ ≤ B) (hm : ∀ D ∈ Ds, D < B) : OwnFrom B (fun (_ : β) wr => FirstI n₀ w W0 W H tv isv Ds wr) := fun s X Y row hs hg hr =>
  have ne : ∀ j, j < B → some j ≠ row := fun j hj e => by have := (hr j e.symm).1; omega
  ⟨hs.s.kept hg (ne _ (by omega)), hs.i.kept hg (ne _ (by omega)), hs.r.kept hg (ne _ (by omega)), ownFrom_kept (β := Unit) h0 () X Y row hs.k hg hr, ownFrom_below (β := Unit) (Nat.le_refl _) (by omega) () X Y row hs.b hg hr, Marks.own (β := Unit) hm () X Y row hs.m hg hr⟩
set_option maxRecDepth 100000 in
set_option maxHeartbeats 4000000 in
theorem first_any (n₀ bs : Nat) (W H : Int) (tv : Value) (ts : List (List Int × List Int)) (w : World) (N : Nat) (hN : ∀ i, i < ts.length → (ts[i]?.getD ([], [])).1.length = N) (hN1 : N ≤ 144) (hts : ts.length ≤ 1000000)
    (h1 : Blk w bs #[.int .i64 W, .int .i64 H, tv] 143) (ht : TiersAt n₀ w tv ts) :
    Calls Try.prog 78 #[.agg #[.int .i64 W, .int .i64 H, tv], .func (.func 93) #[] #[.pointer (some ⟨bs, 0, none⟩)]] w fun e w' => ∃ r, FirstB ts (hangP ts) r ∧ e = .returned (brickV r) ∧ Below w.heap.size w w' := by
  obtain ⟨a, cap, rfl, hl, hn, _⟩ := ht.placed
  refine (callsIn_wide (n := 9)).1 ?_
  refine callsIn_of_wp_marks Try.func78 rfl trivial ?_ rfl
  simp only [Try.ntmps78, List.size_toArray, List.length_cons, List.length_nil, Nat.reduceAdd, Nat.reduceSub, Array.replicate_succ, Array.replicate_zero, List.push_toArray, List.append_toArray, List.nil_append, List.cons_append]
  have S2 := (((Blk.new w #[.int .i64 W, .int .i64 H, .slice a ts.length cap] 143).alloc (.cells #[.func (.func 93) #[] #[.pointer (some ⟨bs, 0, none⟩)]] 151)).alloc (.cells #[.int .i64 0, .int .i64 0] 74))
  have I2 := (Blk.newI (w.alloc (.cells #[.int .i64 W, .int .i64 H, .slice a ts.length cap] 143)) (w.heap.size + 1) #[.func (.func 93) #[] #[.pointer (some ⟨bs, 0, none⟩)]] 151 (by simp)).alloc (.cells #[.int .i64 0, .int .i64 0] 74)
  have R2 := Blk.newI ((w.alloc (.cells #[.int .i64 W, .int .i64 H, .slice a ts.length cap] 143)).alloc (.cells #[.func (.func 93) #[] #[.pointer (some ⟨bs, 0, none⟩)]] 151)) (w.heap.size + 1 + 1) #[.int .i64 0, .int .i64 0] 74 (by simp)
  have k2 := S2.cell (i := 2) (v := .slice a ts.length cap) rfl
  obtain ⟨p, hp⟩ : ∃ p, hangP ts = p := ⟨_, rfl⟩
  have HP : Hid (∀ t b, p t b = decide ((restsL ts t b).length = 0)) := Lib.hid fun t b => by rw [← hp]; rfl
  rw [hp]
  have BB := ((((Below.refl _ w).alloc (Nat.le_refl _) (.cells #[.int .i64 W, .int .i64 H, .slice a ts.length cap] 143)).alloc (by simp) (.cells #[.func (.func 93) #[] #[.pointer (some ⟨bs, 0, none⟩)]] 151)).alloc (by simp; omega) (.cells #[.int .i64 0, .int .i64 0] 74))
  have hs0 : (((w.alloc (.cells #[.int .i64 W, .int .i64 H, .slice a ts.length cap] 143)).alloc (.cells #[.func (.func 93) #[] #[.pointer (some ⟨bs, 0, none⟩)]] 151)).alloc (.cells #[.int .i64 0, .int .i64 0] 74)).heap.size = w.heap.size + 3 := by simp
  have h1 := ((h1.alloc (.cells #[.int .i64 W, .int .i64 H, .slice a ts.length cap] 143)).alloc (.cells #[.func (.func 93) #[] #[.pointer (some ⟨bs, 0, none⟩)]] 151)).alloc (.cells #[.int .i64 0, .int .i64 0] 74)
  have ht := ht.keptK (((Kept.alloc (KS n₀) w (.cells #[.int .i64 W, .int .i64 H, .slice a ts.length cap] 143)).trans (Kept.alloc _ _ (.cells #[.func (.func 93) #[] #[.pointer (some ⟨bs, 0, none⟩)]] 151))).trans (Kept.alloc _ _ (.cells #[.int .i64 0, .int .i64 0] 74)))
  gi_wp2
  clear k2
  obtain ⟨W0, hW0⟩ : ∃ W0, (((w.alloc (.cells #[.int .i64 W, .int .i64 H, .slice a ts.length cap] 143)).alloc (.cells #[.func (.func 93) #[] #[.pointer (some ⟨bs, 0, none⟩)]] 151)).alloc (.cells #[.int .i64 0, .int .i64 0] 74)) = W0 := ⟨_, rfl⟩
  rw [hW0] at S2 I2 R2 BB h1 ht hs0 ⊢
  clear hW0 hp
  have HF0 : Hid (FirstI n₀ w W0 W H (.slice a ts.length cap) (.func (.func 93) #[] #[.pointer (some ⟨bs, 0, none⟩)]) [] W0) := Lib.hid ⟨S2, I2, R2, Kept.refl _ _, BB, List.nodup_nil, fun D hD => by cases hD⟩
  have HH1 := Lib.hid h1
  have HT := Lib.hid ht
  have HN := Lib.hid hN
  clear S2 I2 R2 BB h1 ht hN
  refine wpIn_loop (fun a' wr => ∃ (k : Nat) (u5 u6 u12 u13 u14 u15 u16 u17 u18 u19 u20 u21 u22 u23 : Value) (Ds : List Nat), a' = { tmps := #[.agg #[.int .i64 W, .int .i64 H, .slice a ts.length cap], .func (.func 93) #[] #[.pointer (some ⟨bs, 0, none⟩)], .pointer (some ⟨w.heap.size, 0, none⟩), .pointer (some ⟨w.heap.size + 1, 0, none⟩), .pointer (some ⟨w.heap.size + 1 + 1, 0, none⟩), u5, u6, .pointer (some ⟨w.heap.size, 0, none⟩), .pointer (some ⟨w.heap.size, 2, none⟩), .slice a ts.length cap, .int .i64 ts.length, .int .i64 k, u12, u13, u14, u15, u16, u17, u18, u19, u20, u21, u22, u23], defers := Ds.map mkD } ∧ k ≤ ts.length ∧ Hid (FirstI n₀ w W0 W H (.slice a ts.length cap) (.func (.func 93) #[] #[.pointer (some ⟨bs, 0, none⟩)]) Ds wr) ∧ Hid (∀ t, t < k → ∀ b, b < (ts[t]?.getD ([], [])).2.length → p t b = false))
    (fun a' _ => ts.length - (intOf (a'.tmps.getD 11 undef)).toNat) ⟨0, _, _, _, _, _, _, _, _, _, _, _, _, _, _, [], rfl, Nat.zero_le _, HF0, Lib.hid (fun t ht => by omega)⟩ ?_
  rintro _ wr ⟨k, u5, u6, u12, u13, u14, u15, u16, u17, u18, u19, u20, u21, u22, u23, Ds, rfl, hk, HF, HA⟩
  by_cases hlt : k < ts.length
  · have k0 := HF.out.s.cell (i := 0) (v := .int .i64 W) rfl
    have k1 := HF.out.s.cell (i := 1) (v := .int .i64 H) rfl
    have k2 := HF.out.s.cell (i := 2) (v := .slice a ts.length cap) rfl
    have hlti : (k : Int) < (ts.length : Int) := by omega
    gi_wp2_with fail
    refine ⟨trivial, ?_⟩
    refine (callsIn_wide.2 (tier_mk (.int .i64 W) (.int .i64 H) (.slice a ts.length cap) k _)).mono ?_
    rintro e w2 ⟨rfl, rfl⟩
    clear k0 k1 k2
    gi_wp2_with fail
    have SX := (Blk.new wr #[.int .i64 W, .int .i64 H, .slice a ts.length cap] 143).alloc (.cells #[.int .i64 k] 3)
    have TX := Blk.newI (wr.alloc (.cells #[.int .i64 W, .int .i64 H, .slice a ts.length cap] 143)) (wr.heap.size + 1) #[.int .i64 k] 3 (by simp)
    have hb5 := ((Below.refl wr.heap.size wr).alloc (Nat.le_refl _) (.cells #[.int .i64 W, .int .i64 H, .slice a ts.length cap] 143)).alloc (by simp) (.cells #[.int .i64 k] 3)
    have hs5 : ((wr.alloc (.cells #[.int .i64 W, .int .i64 H, .slice a ts.length cap] 143)).alloc (.cells #[.int .i64 k] 3)).heap.size = wr.heap.size + 2 := by simp
    have F5 := HF.out.past hb5
    obtain ⟨w5, hw5⟩ : ∃ w5, (wr.alloc (.cells #[.int .i64 W, .int .i64 H, .slice a ts.length cap] 143)).alloc (.cells #[.int .i64 k] 3) = w5 := ⟨_, rfl⟩
    rw [hw5] at SX TX F5 hs5 ⊢
    clear hw5 hb5
    have T5 := HT.out.keptK F5.k
    have hlr := HF.out.r.lt
    obtain ⟨nb, hnb⟩ : ∃ nb, (ts[k]?.getD ([], [])).2.length = nb := ⟨_, rfl⟩
    have hti := tier_iter n₀ _ _ _ _ _ k ts w5 SX TX T5 hlt
    rw [hnb] at hti
    apply range_outerB (gf := 99) (lb := #[.pointer (some ⟨wr.heap.size, 0, none⟩), .pointer (some ⟨wr.heap.size + 1, 0, none⟩)]) rfl (enters_of Try.func99 (by kernel_rfl) rfl)
      hti (fun j r hj => by rintro (h | ⟨h, h'⟩); exact KS.loop (by have := F5.k.size; omega) r h; cases h') (fun _ => rfl)
      (fun pre W' => (∀ b ∈ pre, p k b = false) ∧ FirstI n₀ w W0 W H (.slice a ts.length cap) (.func (.func 93) #[] #[.pointer (some ⟨bs, 0, none⟩)]) Ds W')
      (fun c pre W' => c = .ret ∧ ∃ x : Nat, x < nb ∧ p k x = true ∧ (∀ b, b < x → p k b = false) ∧ Blk W' (w.heap.size + 1 + 1) #[.int .i64 k, .int .i64 x] 74 ∧ Below w.heap.size w W' ∧ Marks w.heap.size Ds W')
      (OwnFrom.and (ownFrom_pure _ (fun pre : List Nat => ∀ b ∈ pre, p k b = false)) (FirstI.own (by omega) (by have := F5.k.size; omega) (fun D hD => by have := HF.out.m.lt D hD; omega)))
      (fun c s A C row hs hg hr => by
        obtain ⟨hc, x, x1, x2, x3, x4, x5, x6⟩ := hs
        exact ⟨hc, x, x1, x2, x3, x4.kept hg (fun e => by have := (hr _ e.symm).1; omega), ownFrom_below (β := Unit) (Nat.le_refl _) (by omega) () A C row x5 hg hr, Marks.own (β := Unit) (fun D hD => by have := HF.out.m.lt D hD; omega) () A C row x6 hg hr⟩)
      ⟨fun b hb => (by cases hb), F5⟩ (fun x : Nat => #[.int .i64 k, .int .i64 x]) 74
    case hassign =>
      rintro l pre x W' Q ⟨hi1, hi2⟩ hQ
      obtain ⟨kb, hkb⟩ : ∃ kb, W'.heap.size = kb := ⟨_, rfl⟩
      have hX := Blk.newI W' kb #[.int .i64 k, .int .i64 x] 74 hkb
      gi_wp2
      exact hQ kb _ ((KeepsOthers.alloc _ _).from _) (Kept.alloc _ _ _) ⟨hi1, hi2.past ((Below.refl _ _).alloc (Nat.le_refl _) _)⟩ hX
    case hbody =>
      rintro l pre x Bx W' hl hr ⟨hi1, hi2⟩ hBx hpre
      obtain ⟨hpx, hx⟩ := range_pre hpre
      have HI1 : Hid (∀ b, b < x → p k b = false) := Lib.hid fun b hb => hi1 b (by rw [hpx]; exact List.mem_range.2 hb)
      have HIA : Hid (p k x = false → ∀ b ∈ pre ++ [x], p k b = false) := Lib.hid fun h b hb => by
        rcases List.mem_append.1 hb with h1 | h1
        · exact hi1 b h1
        · have : b = x := by simpa using h1
          rw [this]; exact h
      have hc := hangs_any n₀ bs W H _ k x ts W' N HN.out hN1 (HH1.out.keptS hi2.k) (HT.out.keptK hi2.k) hlt
      rw [← HP.out] at hc
      have HC := Lib.hid hc
      have ki := hi2.i.cell (i := 0) (v := .func (.func 93) #[] #[.pointer (some ⟨bs, 0, none⟩)]) rfl
      have b0 := hBx.cell (i := 0) (v := .int .i64 k) rfl
      have b1 := hBx.cell (i := 1) (v := .int .i64 x) rfl
      have HI2 := Lib.hid hi2
      have HBX := Lib.hid hBx
      clear hc hi1 hi2 hBx hpx hpre
      gi_wp2_with fail
      refine ⟨trivial, ?_⟩
      refine (CallsIn.inRound l (callsIn_wide.2 HC.out)).mono ?_
      rintro e w6 ⟨rfl, hb6⟩
      clear ki b0 b1
      have I6 := HI2.out.past hb6
      have X6 := HBX.out.past hb6
      cases hp6 : p k x
      · have HA2 := HIA.out hp6
        have HB6 := Lib.hid hb6
        have HI6 := Lib.hid I6
        have HA3 := Lib.hid HA2
        clear hp6 hb6 I6 HA2
        gi_wp2
        exact ⟨KeepsFrom.of_below HB6.out, Kept.of_below HB6.out, HA3.out, HI6.out⟩
      · have b0 := X6.cell (i := 0) (v := .int .i64 k) rfl
        have b1 := X6.cell (i := 1) (v := .int .i64 x) rfl
        have r0 := I6.r.cell (i := 0) (v := .int .i64 0) rfl
        have r1 := I6.r.cell (i := 1) (v := .int .i64 0) rfl
        have f0 := I6.r.fr (i := 0)
        have f1 := I6.r.fr (i := 1)
        have HB6 := Lib.hid hb6
        have HI6 := Lib.hid I6
        have HP6 := Lib.hid hp6
        clear hp6 hb6 I6 X6
        gi_wp2
        have R7 := HI6.out.r.set 0 (by simp) (.int .i64 k) rfl
        have R8 := R7.set 1 (by simp) (.int .i64 x) rfl
        exact ⟨(KeepsFrom.of_below HB6.out).trans (((KeepsOthers.setCell _ _ _).trans (KeepsOthers.setCell _ _ _)).from _), rfl, x, hx, HP6.out, HI1.out, R8, (HI6.out.b.setCell (show w.heap.size ≤ w.heap.size + 1 + 1 by omega) _).setCell (show w.heap.size ≤ w.heap.size + 1 + 1 by omega) _, (HI6.out.m.set HI6.out.r _).set R7 _⟩
    case hdone =>
      rintro D W' hD ⟨hi1, hi2⟩ hdf
      have HI2 := Lib.hid hi2
      have HM : Hid (Marks w.heap.size (D :: Ds) W') := Lib.hid (hi2.m.cons hdf (by omega) (fun D' hD' => by have := HF.out.m.lt D' hD'; omega))
      have HA2 : Hid (∀ t, t < k + 1 → ∀ b, b < (ts[t]?.getD ([], [])).2.length → p t b = false) := Lib.hid fun t ht b hb => by
        rcases Nat.lt_or_ge t k with h | h
        · exact HA.out t h b hb
        · have : t = k := by omega
          subst this
          exact hi1 b (List.mem_range.2 (by omega))
      clear hi1 hi2 hdf
      gi_wp2
      exact ⟨⟨k + 1, _, _, _, _, _, _, _, _, _, _, _, _, _, _, D :: Ds, rfl, by omega, Lib.hid ⟨HI2.out.s, HI2.out.i, HI2.out.r, HI2.out.k, HI2.out.b, HM.out⟩, HA2⟩, by simp [intOf]; omega⟩
    case hstop =>
      rintro D c pre W' hD hpre ⟨rfl, x, x1, x2, x3, x4, x5, x6⟩ hdf
      have HM : Hid (Marks w.heap.size (D :: Ds) W') := Lib.hid (x6.cons hdf (by omega) (fun D' hD' => by have := HF.out.m.lt D' hD'; omega))
      have HR : Hid (FirstB ts p (some (k, x))) := Lib.hid ⟨hlt, by rw [hnb]; exact x1, x2, x3, HA.out⟩
      have HX := Lib.hid (And.intro x4 x5)
      clear x2 x3 x4 x5 x6 hdf
      gi_wp2
      refine leaves_marks (I := fun (_ : Unit) W => Blk W (w.heap.size + 1 + 1) #[.int .i64 k, .int .i64 x] 74 ∧ Below w.heap.size w W) (B := w.heap.size)
        (OwnFrom.and (Own.from (blk_own _ _ (fun _ : Unit => #[Value.int .i64 k, .int .i64 x])) _) (ownFrom_below (Nat.le_refl _) (Nat.le_refl _))) ?_ (D :: Ds) _ HM.out HX.out
      rintro W9 ⟨h9, hb9⟩
      have r0 := h9.cell (i := 0) (v := .int .i64 k) rfl
      have r1 := h9.cell (i := 1) (v := .int .i64 x) rfl
      exact ⟨brickV (some (k, x)), by simp [results, Try.results78, go_sem, r0, r1, brickV], some (k, x), HR.out, rfl, hb9⟩
  · have hke : k = ts.length := by omega
    subst hke
    have HR : Hid (FirstB ts p none) := Lib.hid HA.out
    clear HA
    gi_wp2_with fail
    refine ⟨trivial, ?_⟩
    refine (callsIn_wide.2 (nowhere_any _)).mono ?_
    rintro e w6 ⟨rfl, hb6⟩
    have I6 := HF.out.past hb6
    have r0 := I6.r.cell (i := 0) (v := .int .i64 0) rfl
    have r1 := I6.r.cell (i := 1) (v := .int .i64 0) rfl
    have f0 := I6.r.fr (i := 0)
    have f1 := I6.r.fr (i := 1)
    have HI6 := Lib.hid I6
    clear hb6 I6 HF
    gi_wp2
    have R7 := HI6.out.r.set 0 (by simp) (.int .i64 (-1)) rfl
    have R8 := R7.set 1 (by simp) (.int .i64 (-1)) rfl
    refine leaves_marks (I := fun (_ : Unit) W => Blk W (w.heap.size + 1 + 1) #[.int .i64 (-1), .int .i64 (-1)] 74 ∧ Below w.heap.size w W) (B := w.heap.size)
        (OwnFrom.and (Own.from (blk_own _ _ (fun _ : Unit => #[Value.int .i64 (-1), .int .i64 (-1)])) _) (ownFrom_below (Nat.le_refl _) (Nat.le_refl _))) ?_ Ds _ ((HI6.out.m.set HI6.out.r _).set R7 _) ⟨R8, (HI6.out.b.setCell (show w.heap.size ≤ w.heap.size + 1 + 1 by omega) _).setCell (show w.heap.size ≤ w.heap.size + 1 + 1 by omega) _⟩
    rintro W9 ⟨h9, hb9⟩
    have r0 := h9.cell (i := 0) (v := .int .i64 (-1)) rfl
    have r1 := h9.cell (i := 1) (v := .int .i64 (-1)) rfl
    exact ⟨brickV none, by simp [results, Try.results78, go_sem, r0, r1, brickV], none, HR.out, rfl, hb9⟩
set_option maxHeartbeats 2000000 in
theorem hanging_any (n₀ : Nat) (W H : Int) (tv : Value) (ts : List (List Int × List Int)) (w : World) (N : Nat) (hN : ∀ i, i < ts.length → (ts[i]?.getD ([], [])).1.length = N) (hN1 : N ≤ 144) (hts : ts.length ≤ 1000000)
    (ht : TiersAt n₀ w tv ts) :
    Calls Try.prog 71 #[.agg #[.int .i64 W, .int .i64 H, tv]] w fun e w' => ∃ r, FirstB ts (hangP ts) r ∧ e = .returned (brickV r) ∧ Below w.heap.size w w' := by
  obtain ⟨a, cap, rfl, hl, hn, _⟩ := ht.placed
  have S2 := (Blk.new w #[.int .i64 W, .int .i64 H, .slice a ts.length cap] 143).alloc (.cells #[.int .i64 0, .int .i64 0] 74)
  have R2 := Blk.newI (w.alloc (.cells #[.int .i64 W, .int .i64 H, .slice a ts.length cap] 143)) (w.heap.size + 1) #[.int .i64 0, .int .i64 0] 74 (by simp)
  have k0 := S2.cell (i := 0) (v := .int .i64 W) rfl
  have k1 := S2.cell (i := 1) (v := .int .i64 H) rfl
  have k2 := S2.cell (i := 2) (v := .slice a ts.length cap) rfl
  have HBB := Lib.hid (((Below.refl _ w).alloc (Nat.le_refl _) (.cells #[.int .i64 W, .int .i64 H, .slice a ts.length cap] 143)).alloc (by simp) (.cells #[.int .i64 0, .int .i64 0] 74))
  have HC := Lib.hid (first_any n₀ _ W H _ ts _ N hN hN1 hts S2 (ht.keptK ((Kept.alloc (KS n₀) w (.cells #[.int .i64 W, .int .i64 H, .slice a ts.length cap] 143)).trans (Kept.alloc _ _ (.cells #[.int .i64 0, .int .i64 0] 74)))))
  have HR := Lib.hid R2
  clear S2 R2 ht hN
  go_enter Try.func71, Try.ntmps71
  go_wp2_with fail
  refine HC.out.mono ?_
  rintro e w2 ⟨r, hr, rfl, hb2⟩
  have HR2 := Lib.hid (HR.out.past hb2)
  have HB2 := Lib.hid (HBB.out.trans (hb2.mono HBB.out.size))
  have HFR := Lib.hid hr
  have r0 := HR2.out.cell (i := 0) (v := .int .i64 0) rfl
  have r1 := HR2.out.cell (i := 1) (v := .int .i64 0) rfl
  have f0 := HR2.out.fr (i := 0)
  have f1 := HR2.out.fr (i := 1)
  obtain ⟨x, y, hxy⟩ : ∃ x y : Int, brickV r = .agg #[.int .i64 x, .int .i64 y] := by
    cases r with
    | none => exact ⟨_, _, rfl⟩
    | some q => exact ⟨_, _, rfl⟩
  have HXY := Lib.hid hxy
  rw [hxy]
  clear hr hb2 hxy k0 k1 k2
  go_wp2
  obtain ⟨d0, d1, d2, hg, _⟩ := blk_after HR2.out (.int .i64 x) (.int .i64 y) rfl rfl
  refine bodyPost_ret (v := .agg #[.int .i64 x, .int .i64 y]) ?_ rfl ?_
  · simp [results, Try.results71, go_sem, d0, d1, d2]
  · exact ⟨r, HFR.out, by rw [HXY.out], HB2.out.grown hg HB2.out.size (by intro k hk; cases hk; omega)⟩
end Go.Proofs.Ytopnlcjbklmicaa
