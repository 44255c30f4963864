import Derived.Test.YtopnlcjbklmicaaK10
import Derived.WalkKit
import Derived.WalkSpells
import Derived.WalkLawsBesides
import Derived.Deep.QuietTactic
import Derived.BigQuiet
import Derived.Lib.Hide
import Derived.WalkSmall
import Derived.Maps.OwnSet
import Derived.Maps.RangeWalk
import Derived.Deep.RegionWith
import Derived.Deep.RegionHeld3
import Derived.Deep.DrawnRows
import Derived.Deep.DeepCutAuto
import Derived.OneCell
import Derived.KernelRfl
import Derived.Laws.StructEq
import Derived.StillTailTactics
import Derived.Laws.Externs
import Derived.RangeFuncBox
import Derived.Outline
import Derived.RangeFuncNested
import Derived.RangeFuncBound
import Derived.RangeFuncCalls
import Derived.RangeFuncLeaves
import Derived.Shelf.RegionOpen
import Derived.OwnWalkIn
import Derived.TacticsInMore
import Derived.LoopNIn
import Derived.LoopIn
import Derived.Test.YtopnlcjbklmicaaProg
namespace Go.Proofs.Ytopnlcjbklmicaa
open Go.RowKit Go.Maps Go.Shelf
set_option linter.unusedVariables false
set_option linter.unusedSimpArgs false
attribute [local go_sem] Oper.semAt_some
theorem range_outer1 {α : Type} {P : Program} {g : Operand} {ps : Array Tmp} {assign body : Code} {Q : Exit → Act → World → Prop} {a : Act} {w : World}
    {gf : Nat} {lb : Array Value} (hg : a.eval g = .func (.func gf) #[] lb) (eg : ∀ args w, (callFunc gf args).run P w = .ok (.enter gf args) w)
    {encs : α → Array Value} {K : Nat → Obj → Prop} {xs : List α} (hit : Iter P gf lb encs K xs w) (hK : ∀ k r, w.heap.size ≤ k → ¬ K k (.loop r)) (hps : ∀ x, (encs x).size = ps.size)
    (I : List α → World → Prop) (Ix : Code → List α → World → Prop) (hI : OwnFrom w.heap.size I) (hIx : ∀ c, OwnFrom w.heap.size (Ix c)) (h0 : I [] w) (f : α → Act)
    (hassign : ∀ (l : Nat) (pre : List α) (x : α) (W : World) (Q : Act → World → Prop), I pre W → (∀ a' W', KeepsFrom w.heap.size W W' → Kept K W W' → I pre W' → a' = f x → Q a' W') →
      assign.wpIn (Fence.wide.inRound l) 9 P (Exit.then Q (fun _ _ _ => False)) { tmps := (ps.zip (encs x)).foldl (fun t (p, v) => t.setIfInBounds p v) a.tmps, defers := [] } W)
    (hbody : ∀ (l : Nat) (pre : List α) (x : α) (W : World), w.heap.size ≤ l → (∃ r, W.heap[l]? = some (.loop r)) → I pre W → (pre ++ [x]) <+: xs → body.wpIn (Fence.wide.inRound l) 9 P (roundP w.heap.size K I Ix (pre ++ [x]) W) (f x) W)
    (hdone : ∀ (D : Nat) (W : World), w.heap.size ≤ D → I xs W → W.heap[D]? = some (.deferred (some [])) → Q .normal { a with defers := { target := .collected D, args := #[] } :: a.defers } W)
    (hstop : ∀ (D : Nat) (c : Code) (pre : List α) (W : World), w.heap.size ≤ D → pre <+: xs → Ix c pre W → W.heap[D]? = some (.deferred (some [])) → c.wpIn Fence.wide 9 P Q { a with defers := { target := .collected D, args := #[] } :: a.defers } W) :
    (Code.rangeFunc g ps assign body).wpIn Fence.wide 9 P Q a w :=
  range_outer hg eg hit hK hps I Ix hI hIx h0 (fun x a' _ => a' = f x) (fun _ _ _ _ _ _ hs _ _ => hs) hassign (fun l pre x a' W hl hr hi ha hp => by subst ha; exact hbody l pre x W hl hr hi hp) hdone hstop
theorem range_inner1 {α : Type} {P : Program} {g : Operand} {ps : Array Tmp} {assign body : Code} {Q : Exit → Act → World → Prop} {a : Act} {w : World}
    {l₀ : Nat} {r₀ : Loop} (hl₀ : w.heap[l₀]? = some (.loop r₀))
    {gf : Nat} {lb : Array Value} (hg : a.eval g = .func (.func gf) #[] lb) (eg : ∀ args w, (callFunc gf args).run P w = .ok (.enter gf args) w)
    {encs : α → Array Value} {K : Nat → Obj → Prop} {xs : List α} (hit : Iter P gf lb encs K xs w) (hK : ∀ k r, w.heap.size ≤ k → ¬ K k (.loop r)) (hps : ∀ x, (encs x).size = ps.size)
    (I : List α → World → Prop) (Ix : Code → List α → World → Prop) (hI : OwnFrom w.heap.size I) (hIx : ∀ c, OwnFrom w.heap.size (Ix c)) (h0 : I [] w) (f : α → Act)
    (hassign : ∀ (l : Nat) (pre : List α) (x : α) (W : World) (Q : Act → World → Prop), I pre W → (∀ a' W', KeepsFrom w.heap.size W W' → Kept K W W' → I pre W' → a' = f x → Q a' W') →
      assign.wpIn (Fence.wide.inRound l) 9 P (Exit.then Q (fun _ _ _ => False)) { tmps := (ps.zip (encs x)).foldl (fun t (p, v) => t.setIfInBounds p v) a.tmps, defers := [] } W)
    (hbody : ∀ (l : Nat) (pre : List α) (x : α) (W : World), w.heap.size ≤ l → (∃ r, W.heap[l]? = some (.loop r)) → I pre W → (pre ++ [x]) <+: xs → body.wpIn (Fence.wide.inRound l) 9 P (roundP w.heap.size K I Ix (pre ++ [x]) W) (f x) W)
    (hdone : ∀ (W : World), I xs W → Q .normal a W)
    (hstop : ∀ (c : Code) (pre : List α) (W : World), pre <+: xs → Ix c pre W → c.wpIn (Fence.wide.inRound l₀) 9 P Q a W) :
    (Code.rangeFunc g ps assign body).wpIn (Fence.wide.inRound l₀) 9 P Q a w :=
  range_inner hl₀ hg eg hit hK hps I Ix hI hIx h0 (fun x a' _ => a' = f x) (fun _ _ _ _ _ _ hs _ _ => hs) hassign (fun l pre x a' W hl hr hi ha hp => by subst ha; exact hbody l pre x W hl hr hi hp) hdone hstop
theorem cells_mk (W H tv : Value) (t b : Int) (w : World) (hW : W.cells = #[W]) (hH : H.cells = #[H]) (ht : tv.cells = #[tv]) :
    Calls Try.prog 81 #[.agg #[W, H, tv], .agg #[.int .i64 t, .int .i64 b]] w fun e w' => e = .returned (.func (.func 100) #[] #[.pointer (some ⟨w.heap.size, 0, none⟩), .pointer (some ⟨w.heap.size + 1, 0, none⟩)]) ∧ w' = (w.alloc (.cells #[W, H, tv] 143)).alloc (.cells #[.int .i64 t, .int .i64 b] 74) := by
  go_enter Try.func81, Try.ntmps81
  go_wp2
  go_ret
  exact ⟨rfl, rfl⟩
theorem rests_mk (W H tv : Value) (t b : Int) (w : World) :
    Calls Try.prog 94 #[.agg #[W, H, tv], .agg #[.int .i64 t, .int .i64 b]] w fun e w' => e = .returned (.func (.func 104) #[] #[.pointer (some ⟨w.heap.size, 0, none⟩), .pointer (some ⟨w.heap.size + 1, 0, none⟩)]) ∧ w' = (w.alloc (.cells #[W, H, tv] 143)).alloc (.cells #[.int .i64 t, .int .i64 b] 74) := by
  go_enter Try.func94, Try.ntmps94
  go_wp2
  go_ret
  exact ⟨rfl, rfl⟩
theorem tier_mk (W H tv : Value) (t : Int) (w : World) :
    Calls Try.prog 74 #[.agg #[W, H, tv], .int .i64 t] w fun e w' => e = .returned (.func (.func 99) #[] #[.pointer (some ⟨w.heap.size, 0, none⟩), .pointer (some ⟨w.heap.size + 1, 0, none⟩)]) ∧ w' = (w.alloc (.cells #[W, H, tv] 143)).alloc (.cells #[.int .i64 t] 3) := by
  go_enter Try.func74, Try.ntmps74
  go_wp2
  go_ret
  exact ⟨rfl, rfl⟩
/-- As KS, and one box more. -/
def KT (n₀ bt : Nat) (k : Nat) (o : Obj) : Prop := KS n₀ k o ∨ (k = bt ∧ o.isCells = true)
theorem Kept.sub {K K' : Nat → Obj → Prop} {A B : World} (h : Kept K A B) (hK : ∀ k o, K' k o → K k o) : Kept K' A B := ⟨h.size, fun k o hk ho => h.same k o hk (hK k o ho)⟩
theorem Kept.toS {n₀ bt : Nat} {w w' : World} (h : Kept (KT n₀ bt) w w') : Kept (KS n₀) w w' := h.sub fun _ _ h => .inl h
set_option maxRecDepth 100000 in
set_option maxHeartbeats 2000000 in
theorem tier_iter (n₀ bs bt : Nat) (W H tv : Value) (ti : Nat) (ts : List (List Int × List Int)) (w : World)
    (h1 : Blk w bs #[W, H, tv] 143) (h2 : Blk w bt #[.int .i64 ti] 3) (ht : TiersAt n₀ w tv ts) (hti : ti < ts.length) :
    Iter Try.prog 99 #[.pointer (some ⟨bs, 0, none⟩), .pointer (some ⟨bt, 0, none⟩)] (fun c : Nat => #[Value.agg #[.int .i64 ti, .int .i64 c]]) (KT n₀ bt) (List.range (ts[ti]?.getD ([], [])).2.length) w := by
  intro l J Jx Wd hkw hJ hJx hY h0
  have g1 := h1.keptS hkw.toS
  have g2 : Blk Wd bt #[.int .i64 ti] 3 := hkw.same bt _ h2 (.inr ⟨rfl, rfl⟩)
  obtain ⟨a, cap, rfl, hl, hn, hp⟩ := (ht.keptK hkw.toS).placed
  obtain ⟨b, off, rfl, hb, vc, vw, c1, c2, _, ⟨hi, hik⟩⟩ := hp ti hti
  obtain ⟨cells, hcs⟩ : ∃ cells, (ts[ti]?.getD ([], [])).2 = cells := ⟨_, rfl⟩
  rw [hcs] at hi hY
  rw [hcs]
  obtain ⟨ac, capc, rfl, hlc, hpc⟩ := hi.placed
  have k0 := g1.cell (i := 2) (v := .slice (some ⟨b, off, none⟩) ts.length cap) rfl
  have k1 := g2.cell (i := 0) (v := .int .i64 ti) rfl
  have HG2 := Lib.hid g2
  have HY := Lib.hid hY
  have HH0 := Lib.hid h0
  clear hp hi hcs hY hpc hik ht h1 h2 g1 g2 h0
  refine callsIn_of_wp Try.func99 rfl trivial ?_ rfl
  simp only [Try.ntmps99, List.size_toArray, List.length_cons, List.length_nil, Nat.reduceAdd, Nat.reduceSub, Array.replicate_succ, Array.replicate_zero, List.push_toArray, List.append_toArray, List.nil_append, List.cons_append]
  gi_wp2
  gi_loopw [13] (fun i wr => ∃ k : Nat, k ≤ cells.length ∧ i = .int .i64 k ∧ Hid (J (List.range k) wr) ∧ Hid (Kept (KT n₀ bt) Wd wr)) (fun i _ => cells.length - (intOf i).toNat)
  case atStart => exact ⟨0, Nat.zero_le _, rfl, Lib.hid HH0.out, Lib.hid (Kept.refl _ _)⟩
  case round =>
    obtain ⟨k, hk, rfl, HJ, HKK⟩ := hrel
    by_cases hlt : k < cells.length
    · have q0 := (show Blk wr bt #[.int .i64 ti] 3 from HKK.out.same bt _ HG2.out (.inr ⟨rfl, rfl⟩)).cell (i := 0) (v := .int .i64 ti) rfl
      have hsu : List.range k ++ [k] = List.range (k + 1) := List.range_succ.symm
      have HSU := Lib.hid hsu
      have hpre : ∀ m, m ≤ cells.length → List.range m <+: List.range cells.length := fun m hm => by
        have e : List.range m = (List.range cells.length).take m := by rw [List.take_range, Nat.min_eq_left hm]
        rw [e]; exact List.take_prefix _ _
      have HPRE := Lib.hid hpre
      have hyy := HY.out _ k wr HJ.out (by rw [hsu]; exact hpre _ (by omega))
      clear hsu hpre
      obtain ⟨fn, tmps, assign, body, hy, hR⟩ := hyy
      gi_wp2
      refine (roundIn_any hR).mono ?_
      rintro e W3 ⟨⟨rfl, hJ3, hk3⟩ | ⟨rfl, hJx3⟩, _⟩
      · have HJ3 := Lib.hid hJ3
        have HK3 := Lib.hid (HKK.out.trans hk3)
        clear hJ3 hk3
        gi_wp2
        go_roundw
        case rel => exact ⟨k + 1, by omega, by go_num, Lib.hid (by rw [← HSU.out]; exact HJ3.out), HK3⟩
        case measure => simp [intOf]; omega
      · have HJ3 := Lib.hid hJx3
        clear hJx3
        gi_wp2
        refine bodyPost_ret (results_none rfl _ _ _) rfl ?_
        exact ⟨⟨_, rfl⟩, .inr ⟨_, by rw [HSU.out]; exact HPRE.out _ (by omega), HJ3.out⟩⟩
    · have hke : k = cells.length := by omega
      subst hke
      gi_wp2
      go_end0
      exact ⟨⟨_, rfl⟩, .inl HJ.out⟩
/-- The cells on which a brick rests. -/
def restsL (ts : List (List Int × List Int)) (ti : Nat) (br : Int) : List Nat :=
  (cellsL (ts[ti]?.getD ([], [])).1 br).filter fun c => decide (ti = 0) || decide ((ts[ti - 1]?.getD ([], [])).1[c]?.getD 0 ≠ -1)
theorem cellsL_lt {cells : List Int} {br : Int} {c : Nat} (h : c ∈ cellsL cells br) : c < cells.length := by
  unfold cellsL at h
  have := (List.mem_filter.1 h).1
  exact List.mem_range.1 this
set_option maxRecDepth 100000 in
set_option maxHeartbeats 4000000 in
theorem rests_iter (n₀ bs bb : Nat) (W H : Int) (tv : Value) (ti : Nat) (br : Int) (ts : List (List Int × List Int)) (w : World) (N : Nat) (hN : ∀ i, i < ts.length → (ts[i]?.getD ([], [])).1.length = N)
    (h1 : Blk w bs #[.int .i64 W, .int .i64 H, tv] 143) (h2 : Blk w bb #[.int .i64 ti, .int .i64 br] 74) (ht : TiersAt n₀ w tv ts) (hti : ti < ts.length) :
    Iter Try.prog 104 #[.pointer (some ⟨bs, 0, none⟩), .pointer (some ⟨bb, 0, none⟩)] (fun c : Nat => #[Value.int .i64 c]) (KS n₀) (restsL ts ti br) w := by
  intro l J Jx Wd hkw hJ hJx hY h0
  have g1 := h1.keptS hkw
  have g2 := h2.keptB hkw
  have ht := ht.keptK hkw
  obtain ⟨a, cap, rfl, hl, hn, hp⟩ := ht.placed
  have G1 := g1.alloc (.cells #[.func (.yield l) #[] #[]] 128)
  have G2 := g2.alloc (.cells #[.func (.yield l) #[] #[]] 128)
  have GY := Blk.new Wd #[.func (.yield l) #[] #[]] 128
  have k0 := G1.cell (i := 0) (v := .int .i64 W) rfl
  have k1 := G1.cell (i := 1) (v := .int .i64 H) rfl
  have k2 := G1.cell (i := 2) (v := .slice a ts.length cap) rfl
  have k3 := G2.cell (i := 0) (v := .int .i64 ti) rfl
  have k4 := G2.cell (i := 1) (v := .int .i64 br) rfl
  obtain ⟨q, hq⟩ : ∃ q : Nat → Bool, (fun c => decide (ti = 0) || decide ((ts[ti - 1]?.getD ([], [])).1[c]?.getD 0 ≠ -1)) = q := ⟨_, rfl⟩
  have hL : restsL ts ti br = (cellsL (ts[ti]?.getD ([], [])).1 br).filter q := by rw [← hq]; rfl
  have HQ : Hid (∀ c, q c = (decide (ti = 0) || decide ((ts[ti - 1]?.getD ([], [])).1[c]?.getD 0 ≠ -1))) := Lib.hid fun c => by rw [← hq]
  rw [hL] at hY ⊢
  clear hq hL
  refine callsIn_of_wp_marks Try.func104 rfl trivial ?_ rfl
  simp only [Try.ntmps104, List.size_toArray, List.length_cons, List.length_nil, Nat.reduceAdd, Nat.reduceSub, Array.replicate_succ, Array.replicate_zero, List.push_toArray, List.append_toArray, List.nil_append, List.cons_append]
  gi_wp2_with fail
  refine ⟨trivial, ?_⟩
  refine (callsIn_wide.2 (cells_mk (.int .i64 W) (.int .i64 H) (.slice a ts.length cap) ti br _ rfl rfl rfl)).mono ?_
  rintro e w2 ⟨rfl, rfl⟩
  clear k0 k1 k2 k3 k4
  gi_wp2_with fail
  have S2 := (Blk.newI (Wd.alloc (.cells #[.func (.yield l) #[] #[]] 128)) (Wd.heap.size + 1) #[.int .i64 W, .int .i64 H, .slice a ts.length cap] 143 (by simp)).alloc (.cells #[.int .i64 ti, .int .i64 br] 74)
  have B2 := Blk.newI ((Wd.alloc (.cells #[.func (.yield l) #[] #[]] 128)).alloc (.cells #[.int .i64 W, .int .i64 H, .slice a ts.length cap] 143)) (Wd.heap.size + 1 + 1) #[.int .i64 ti, .int .i64 br] 74 (by simp)
  have G1 := (G1.alloc (.cells #[.int .i64 W, .int .i64 H, .slice a ts.length cap] 143)).alloc (.cells #[.int .i64 ti, .int .i64 br] 74)
  have G2 := (G2.alloc (.cells #[.int .i64 W, .int .i64 H, .slice a ts.length cap] 143)).alloc (.cells #[.int .i64 ti, .int .i64 br] 74)
  have GY := (GY.alloc (.cells #[.int .i64 W, .int .i64 H, .slice a ts.length cap] 143)).alloc (.cells #[.int .i64 ti, .int .i64 br] 74)
  have hK3 : Kept (KS n₀) Wd (((Wd.alloc (.cells #[.func (.yield l) #[] #[]] 128)).alloc (.cells #[.int .i64 W, .int .i64 H, .slice a ts.length cap] 143)).alloc (.cells #[.int .i64 ti, .int .i64 br] 74)) := ((Kept.alloc _ _ _).trans (Kept.alloc _ _ _)).trans (Kept.alloc _ _ _)
  have hJ3 : J [] (((Wd.alloc (.cells #[.func (.yield l) #[] #[]] 128)).alloc (.cells #[.int .i64 W, .int .i64 H, .slice a ts.length cap] 143)).alloc (.cells #[.int .i64 ti, .int .i64 br] 74)) := hJ.alloc _ (hJ.alloc _ (hJ.alloc _ h0))
  have hs3 : (((Wd.alloc (.cells #[.func (.yield l) #[] #[]] 128)).alloc (.cells #[.int .i64 W, .int .i64 H, .slice a ts.length cap] 143)).alloc (.cells #[.int .i64 ti, .int .i64 br] 74)).heap.size = Wd.heap.size + 3 := by simp
  obtain ⟨W3, hW3⟩ : ∃ W3, (((Wd.alloc (.cells #[.func (.yield l) #[] #[]] 128)).alloc (.cells #[.int .i64 W, .int .i64 H, .slice a ts.length cap] 143)).alloc (.cells #[.int .i64 ti, .int .i64 br] 74)) = W3 := ⟨_, rfl⟩
  rw [hW3] at S2 B2 G1 G2 GY hK3 hJ3 hs3 ⊢
  clear hW3
  have hT3 := ht.keptK hK3
  have HY := Lib.hid hY
  have HN := Lib.hid hN
  have HT3 := Lib.hid hT3
  have HG1 := Lib.hid G1
  have HG2 := Lib.hid G2
  have HGY := Lib.hid GY
  clear hY hN G1 G2 GY g1 g2 hp h0 ht h1 h2
  apply range_outer1 (gf := 100) (lb := #[.pointer (some ⟨Wd.heap.size + 1, 0, none⟩), .pointer (some ⟨Wd.heap.size + 1 + 1, 0, none⟩)]) rfl (enters_of Try.func100 (by kernel_rfl) rfl)
    (cells_iter n₀ _ _ _ _ _ ti br ts W3 S2 B2 hT3 hti) (fun k r hk => KS.loop (by omega) r) (fun _ => rfl)
    (fun pre W => J (pre.filter q) W ∧ Kept (KS n₀) W3 W) (fun c pre W => c = .ret ∧ Jx (pre.filter q) W)
    (OwnFrom.and (fun s A C row hs hg hr => hJ _ A C row hs hg (fun r e => ⟨by have := (hr r e).1; omega, (hr r e).2⟩)) (ownFrom_kept (by omega)))
    (fun c s A C row hs hg hr => ⟨hs.1, hJx _ A C row hs.2 hg (fun r e => ⟨by have := (hr r e).1; omega, (hr r e).2⟩)⟩)
    ⟨hJ3, Kept.refl _ _⟩
  case hassign =>
    intro l2 pre x W5 Q hi hQ
    gi_wp2
    exact hQ _ _ (KeepsFrom.refl _ _) (Kept.refl _ _) hi rfl
  case hbody =>
    rintro l2 pre x W5 hl2 hr ⟨hJ5, hk5⟩ hpre
    have hx : x < (ts[ti]?.getD ([], [])).1.length := cellsL_lt (hpre.subset (by simp))
    have hxq := hpre.filter q
    rw [List.filter_append] at hxq
    have k3 := (HG2.out.keptB hk5).cell (i := 0) (v := .int .i64 ti) rfl
    have k2 := (HG1.out.keptS hk5).cell (i := 2) (v := .slice a ts.length cap) rfl
    have ky := (HGY.out.keptY hk5).cell (i := 0) (v := .func (.yield l) #[] #[]) rfl
    by_cases hq1 : q x = true
    · have e1 : [x].filter q = [x] := by simp [hq1]
      rw [e1] at hxq
      have e2 : (pre ++ [x]).filter q = pre.filter q ++ [x] := by rw [List.filter_append, e1]
      have hyy := HY.out _ x W5 hJ5 hxq
      have HE2 := Lib.hid e2
      have hqe := HQ.out x
      rw [hq1] at hqe
      clear hxq e1 e2 hpre
      obtain ⟨fn, tmps, assign, body, hy, hR⟩ := hyy
      have hfin : ∀ e W', (((e = Ending.returned (.bool true) ∧ J (pre.filter q ++ [x]) W' ∧ Kept (KS n₀) W5 W') ∨ (e = .returned (.bool false) ∧ Jx (pre.filter q ++ [x]) W')) ∧ KeepsFrom Wd.heap.size W5 W') →
          (e = .returned (.bool true) ∧ ∀ a, roundP W3.heap.size (KS n₀) (fun pre W => J (pre.filter q) W ∧ Kept (KS n₀) W3 W) (fun c pre W => c = .ret ∧ Jx (pre.filter q) W) (pre ++ [x]) W5 .normal a W') ∨ (e = .returned (.bool false) ∧ ∀ a, roundP W3.heap.size (KS n₀) (fun pre W => J (pre.filter q) W ∧ Kept (KS n₀) W3 W) (fun c pre W => c = .ret ∧ Jx (pre.filter q) W) (pre ++ [x]) W5 .ret a W') := by
        rintro e W' ⟨⟨rfl, h1, h2⟩ | ⟨rfl, h1⟩, h3⟩
        · exact .inl ⟨rfl, fun _ => ⟨KeepsFrom.mono h3 (by omega), h2, by rw [HE2.out]; exact h1, hk5.trans h2⟩⟩
        · exact .inr ⟨rfl, fun _ => ⟨KeepsFrom.mono h3 (by omega), rfl, by rw [HE2.out]; exact h1⟩⟩
      by_cases h0t : ti = 0
      · subst h0t
        clear hqe
        gi_wp2
        refine (roundIn_any hR).mono ?_
        intro e W' he
        rcases hfin e W' he with ⟨rfl, hf⟩ | ⟨rfl, hf⟩
        · have HF := Lib.hid hf
          clear hf he
          gi_wp2
          exact HF.out _
        · have HF := Lib.hid hf
          clear hf he
          gi_wp2
          exact HF.out _
      · have h0i : (ti : Int) ≠ 0 := by omega
        have h0b : ((ti : Int) == 0) = false := by simpa using h0i
        obtain ⟨t1, ht1⟩ : ∃ t1 : Nat, ti - 1 = t1 := ⟨_, rfl⟩
        have ht2 : (ti : Int) - 1 = (t1 : Int) := by omega
        have hlt1 : t1 < ts.length := by omega
        obtain ⟨_, _, e9, _, _, hp5⟩ := (HT3.out.keptK hk5).placed
        cases e9
        obtain ⟨b, off, rfl, hb, vc, vw, d1, d2, ⟨hi5, hik⟩, _⟩ := hp5 t1 hlt1
        obtain ⟨ac, capc, rfl, hlc, hpc⟩ := hi5.placed
        have hln : (ts[t1]?.getD ([], [])).1.length = N := HN.out t1 hlt1
        have hlti : (ts[ti]?.getD ([], [])).1.length = N := HN.out ti hti
        obtain ⟨b2, off2, rfl, hb2, d3⟩ := hpc x (by omega)
        rw [ht1] at hqe
        obtain ⟨y, hy9⟩ : ∃ y, (ts[t1]?.getD ([], [])).1[x]?.getD 0 = y := ⟨_, rfl⟩
        obtain ⟨n1, hn1⟩ : ∃ n1, (ts[t1]?.getD ([], [])).1.length = n1 := ⟨_, rfl⟩
        have hxn : x < n1 := by omega
        have hxi : (x : Int) < (n1 : Int) := by omega
        have hti1 : (t1 : Int) < (ts.length : Int) := by omega
        rw [hy9] at hqe d3
        rw [hn1] at d1
        clear hp5 hpc hln hlti hy9 hn1 hi5 hik ht1 hx
        have hyne : y ≠ -1 := by simpa [h0t] using hqe
        have hyb : (y == -1) = false := by simpa using hyne
        clear hqe
        gi_wp2
        refine (roundIn_any hR).mono ?_
        intro e W' he
        rcases hfin e W' he with ⟨rfl, hf⟩ | ⟨rfl, hf⟩
        · have HF := Lib.hid hf
          clear hf he
          gi_wp2
          exact HF.out _
        · have HF := Lib.hid hf
          clear hf he
          gi_wp2
          exact HF.out _
    · have hq0 : q x = false := by simpa using hq1
      have hqe := HQ.out x
      rw [hq0] at hqe
      have h0t : ti ≠ 0 := by intro e; subst e; simp at hqe
      have e2 : (pre ++ [x]).filter q = pre.filter q := by rw [List.filter_append]; simp [hq0]
      have HE2 := Lib.hid e2
      clear hxq e2 hpre hq1
      have h0i : (ti : Int) ≠ 0 := by omega
      have h0b : ((ti : Int) == 0) = false := by simpa using h0i
      obtain ⟨t1, ht1⟩ : ∃ t1 : Nat, ti - 1 = t1 := ⟨_, rfl⟩
      have ht2 : (ti : Int) - 1 = (t1 : Int) := by omega
      have hlt1 : t1 < ts.length := by omega
      obtain ⟨_, _, e9, _, _, hp5⟩ := (HT3.out.keptK hk5).placed
      cases e9
      obtain ⟨b, off, rfl, hb, vc, vw, d1, d2, ⟨hi5, hik⟩, _⟩ := hp5 t1 hlt1
      obtain ⟨ac, capc, rfl, hlc, hpc⟩ := hi5.placed
      have hln : (ts[t1]?.getD ([], [])).1.length = N := HN.out t1 hlt1
      have hlti : (ts[ti]?.getD ([], [])).1.length = N := HN.out ti hti
      obtain ⟨b2, off2, rfl, hb2, d3⟩ := hpc x (by omega)
      rw [ht1] at hqe
      obtain ⟨y, hy9⟩ : ∃ y, (ts[t1]?.getD ([], [])).1[x]?.getD 0 = y := ⟨_, rfl⟩
      obtain ⟨n1, hn1⟩ : ∃ n1, (ts[t1]?.getD ([], [])).1.length = n1 := ⟨_, rfl⟩
      have hxn : x < n1 := by omega
      have hxi : (x : Int) < (n1 : Int) := by omega
      have hti1 : (t1 : Int) < (ts.length : Int) := by omega
      rw [hy9] at hqe d3
      rw [hn1] at d1
      clear hp5 hpc hln hlti hy9 hn1 hi5 hik ht1 hx
      have hyne : y = -1 := by simpa [h0t] using hqe
      subst hyne
      clear hqe
      gi_wp2
      refine ⟨fun _ h => (by cases h), ?_⟩
      gi_wp2
      exact ⟨KeepsFrom.refl _ _, Kept.refl _ _, by rw [HE2.out]; exact hJ5, hk5⟩
  case hdone =>
    rintro D W5 hD ⟨hJ5, hk5⟩ hdf
    gi_wp2
    refine ⟨by simp, .inl ⟨_, _, rfl, run_takeDeferred hdf, ?_⟩⟩
    exact ⟨_, results_none rfl _ _ _, ⟨_, rfl⟩, .inl (hJ.putObj _ hJ5 (by omega) hdf rfl)⟩
  case hstop =>
    rintro D c pre W5 hD hpre ⟨rfl, hx5⟩ hdf
    gi_wp2
    refine ⟨by simp, .inl ⟨_, _, rfl, run_takeDeferred hdf, ?_⟩⟩
    exact ⟨_, results_none rfl _ _ _, ⟨_, rfl⟩, .inr ⟨_, hpre.filter q, hJx.putObj _ hx5 (by omega) hdf rfl⟩⟩
end Go.Proofs.Ytopnlcjbklmicaa
