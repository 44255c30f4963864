import Derived.Test.YtopnlcjbklmicaaK54
import Derived.WalkKit
import Derived.WalkSpells
import Derived.WalkLawsBesides
import Derived.Deep.QuietTactic
import Derived.BigQuiet
import Derived.Lib.Hide
import Derived.WalkSmall
import Derived.Maps.OwnSet
import Derived.Maps.RangeWalk
import Derived.Deep.RegionWith
import Derived.Deep.RegionHeld3
import Derived.Deep.DrawnRows
import Derived.Deep.DeepCutAuto
import Derived.OneCell
import Derived.KernelRfl
import Derived.Laws.StructEq
import Derived.StillTailTactics
import Derived.Laws.Externs
import Derived.RangeFuncBox
import Derived.Outline
import Derived.RangeFuncNested
import Derived.RangeFuncBound
import Derived.RangeFuncCalls
import Derived.RangeFuncLeaves
import Derived.Shelf.RegionOpen
import Derived.OwnWalkIn
import Derived.TacticsInMore
import Derived.LoopNIn
import Derived.LoopIn
import Derived.Test.YtopnlcjbklmicaaProg
namespace Go.Proofs.Ytopnlcjbklmicaa
open Go.RowKit Go.Maps Go.Shelf
set_option linter.unusedVariables false
set_option linter.unusedSimpArgs false
attribute [local go_sem] Oper.semAt_some
set_option maxRecDepth 100000 in
set_option maxHeartbeats 4000000 in
theorem firstC_any (n₀ bl bb bv gb base : Nat) (W H : Int) (tv bearsv : Value) (ts : List (List Int × List Int)) (rows : List (List (Nat × Nat))) (bears : List Int) (w : World) (N : Nat) (hnn : CrushN ts rows bears N) (hts : ts.length ≤ 1000000)
    (hcb : CrushB n₀ bl bb bv gb base W H tv bearsv ts rows bears w) :
    Calls Try.prog 78 #[.agg #[.int .i64 W, .int .i64 H, tv], .func (.func 79) #[] #[.pointer (some ⟨bl, 0, none⟩), .pointer (some ⟨bb, 0, none⟩), .pointer (some ⟨bv, 0, none⟩)]] w fun e w' => ∃ r, FirstB ts (crushP ts rows bears) r ∧ e = .returned (brickV r) ∧ Below w.heap.size w w' := by
  have ht := hcb.t
  obtain ⟨a, cap, rfl, hl, hn, _⟩ := ht.placed
  have HCB := Lib.hid hcb
  have HNN := Lib.hid hnn
  clear hcb hnn
  refine (callsIn_wide (n := 9)).1 ?_
  refine callsIn_of_wp_marks Try.func78 rfl trivial ?_ rfl
  simp only [Try.ntmps78, List.size_toArray, List.length_cons, List.length_nil, Nat.reduceAdd, Nat.reduceSub, Array.replicate_succ, Array.replicate_zero, List.push_toArray, List.append_toArray, List.nil_append, List.cons_append]
  have S2 := (((Blk.new w #[.int .i64 W, .int .i64 H, .slice a ts.length cap] 143).alloc (.cells #[.func (.func 79) #[] #[.pointer (some ⟨bl, 0, none⟩), .pointer (some ⟨bb, 0, none⟩), .pointer (some ⟨bv, 0, none⟩)]] 151)).alloc (.cells #[.int .i64 0, .int .i64 0] 74))
  have I2 := (Blk.newI (w.alloc (.cells #[.int .i64 W, .int .i64 H, .slice a ts.length cap] 143)) (w.heap.size + 1) #[.func (.func 79) #[] #[.pointer (some ⟨bl, 0, none⟩), .pointer (some ⟨bb, 0, none⟩), .pointer (some ⟨bv, 0, none⟩)]] 151 (by simp)).alloc (.cells #[.int .i64 0, .int .i64 0] 74)
  have R2 := Blk.newI ((w.alloc (.cells #[.int .i64 W, .int .i64 H, .slice a ts.length cap] 143)).alloc (.cells #[.func (.func 79) #[] #[.pointer (some ⟨bl, 0, none⟩), .pointer (some ⟨bb, 0, none⟩), .pointer (some ⟨bv, 0, none⟩)]] 151)) (w.heap.size + 1 + 1) #[.int .i64 0, .int .i64 0] 74 (by simp)
  have k2 := S2.cell (i := 2) (v := .slice a ts.length cap) rfl
  obtain ⟨p, hp⟩ : ∃ p, crushP ts rows bears = p := ⟨_, rfl⟩
  have HP := Lib.hid hp
  rw [hp]
  have BB := ((((Below.refl _ w).alloc (Nat.le_refl _) (.cells #[.int .i64 W, .int .i64 H, .slice a ts.length cap] 143)).alloc (by simp) (.cells #[.func (.func 79) #[] #[.pointer (some ⟨bl, 0, none⟩), .pointer (some ⟨bb, 0, none⟩), .pointer (some ⟨bv, 0, none⟩)]] 151)).alloc (by simp; omega) (.cells #[.int .i64 0, .int .i64 0] 74))
  have hs0 : (((w.alloc (.cells #[.int .i64 W, .int .i64 H, .slice a ts.length cap] 143)).alloc (.cells #[.func (.func 79) #[] #[.pointer (some ⟨bl, 0, none⟩), .pointer (some ⟨bb, 0, none⟩), .pointer (some ⟨bv, 0, none⟩)]] 151)).alloc (.cells #[.int .i64 0, .int .i64 0] 74)).heap.size = w.heap.size + 3 := by simp
  have ht := ht.keptK (((Kept.alloc (KS n₀) w (.cells #[.int .i64 W, .int .i64 H, .slice a ts.length cap] 143)).trans (Kept.alloc _ _ (.cells #[.func (.func 79) #[] #[.pointer (some ⟨bl, 0, none⟩), .pointer (some ⟨bb, 0, none⟩), .pointer (some ⟨bv, 0, none⟩)]] 151))).trans (Kept.alloc _ _ (.cells #[.int .i64 0, .int .i64 0] 74)))
  gi_wp2
  clear k2
  obtain ⟨W0, hW0⟩ : ∃ W0, (((w.alloc (.cells #[.int .i64 W, .int .i64 H, .slice a ts.length cap] 143)).alloc (.cells #[.func (.func 79) #[] #[.pointer (some ⟨bl, 0, none⟩), .pointer (some ⟨bb, 0, none⟩), .pointer (some ⟨bv, 0, none⟩)]] 151)).alloc (.cells #[.int .i64 0, .int .i64 0] 74)) = W0 := ⟨_, rfl⟩
  rw [hW0] at S2 I2 R2 BB ht hs0 ⊢
  clear hW0 hp
  have HF0 : Hid (FirstI n₀ w W0 W H (.slice a ts.length cap) (.func (.func 79) #[] #[.pointer (some ⟨bl, 0, none⟩), .pointer (some ⟨bb, 0, none⟩), .pointer (some ⟨bv, 0, none⟩)]) [] W0) := Lib.hid ⟨S2, I2, R2, Kept.refl _ _, BB, List.nodup_nil, fun D hD => by cases hD⟩
  have HT := Lib.hid ht
  clear S2 I2 R2 BB ht
  refine wpIn_loop (fun a' wr => ∃ (k : Nat) (u5 u6 u12 u13 u14 u15 u16 u17 u18 u19 u20 u21 u22 u23 : Value) (Ds : List Nat), a' = { tmps := #[.agg #[.int .i64 W, .int .i64 H, .slice a ts.length cap], .func (.func 79) #[] #[.pointer (some ⟨bl, 0, none⟩), .pointer (some ⟨bb, 0, none⟩), .pointer (some ⟨bv, 0, none⟩)], .pointer (some ⟨w.heap.size, 0, none⟩), .pointer (some ⟨w.heap.size + 1, 0, none⟩), .pointer (some ⟨w.heap.size + 1 + 1, 0, none⟩), u5, u6, .pointer (some ⟨w.heap.size, 0, none⟩), .pointer (some ⟨w.heap.size, 2, none⟩), .slice a ts.length cap, .int .i64 ts.length, .int .i64 k, u12, u13, u14, u15, u16, u17, u18, u19, u20, u21, u22, u23], defers := Ds.map mkD } ∧ k ≤ ts.length ∧ Hid (FirstI n₀ w W0 W H (.slice a ts.length cap) (.func (.func 79) #[] #[.pointer (some ⟨bl, 0, none⟩), .pointer (some ⟨bb, 0, none⟩), .pointer (some ⟨bv, 0, none⟩)]) Ds wr) ∧ Hid (∀ t, t < k → ∀ b, b < (ts[t]?.getD ([], [])).2.length → p t b = false))
    (fun a' _ => ts.length - (intOf (a'.tmps.getD 11 undef)).toNat) ⟨0, _, _, _, _, _, _, _, _, _, _, _, _, _, _, [], rfl, Nat.zero_le _, HF0, Lib.hid (fun t ht => by omega)⟩ ?_
  rintro _ wr ⟨k, u5, u6, u12, u13, u14, u15, u16, u17, u18, u19, u20, u21, u22, u23, Ds, rfl, hk, HF, HA⟩
  by_cases hlt : k < ts.length
  · have k0 := HF.out.s.cell (i := 0) (v := .int .i64 W) rfl
    have k1 := HF.out.s.cell (i := 1) (v := .int .i64 H) rfl
    have k2 := HF.out.s.cell (i := 2) (v := .slice a ts.length cap) rfl
    have hlti : (k : Int) < (ts.length : Int) := by omega
    gi_wp2_with fail
    refine ⟨trivial, ?_⟩
    refine (callsIn_wide.2 (tier_mk (.int .i64 W) (.int .i64 H) (.slice a ts.length cap) k _)).mono ?_
    rintro e w2 ⟨rfl, rfl⟩
    clear k0 k1 k2
    gi_wp2_with fail
    have SX := (Blk.new wr #[.int .i64 W, .int .i64 H, .slice a ts.length cap] 143).alloc (.cells #[.int .i64 k] 3)
    have TX := Blk.newI (wr.alloc (.cells #[.int .i64 W, .int .i64 H, .slice a ts.length cap] 143)) (wr.heap.size + 1) #[.int .i64 k] 3 (by simp)
    have hb5 := ((Below.refl wr.heap.size wr).alloc (Nat.le_refl _) (.cells #[.int .i64 W, .int .i64 H, .slice a ts.length cap] 143)).alloc (by simp) (.cells #[.int .i64 k] 3)
    have hs5 : ((wr.alloc (.cells #[.int .i64 W, .int .i64 H, .slice a ts.length cap] 143)).alloc (.cells #[.int .i64 k] 3)).heap.size = wr.heap.size + 2 := by simp
    have F5 := HF.out.past hb5
    obtain ⟨w5, hw5⟩ : ∃ w5, (wr.alloc (.cells #[.int .i64 W, .int .i64 H, .slice a ts.length cap] 143)).alloc (.cells #[.int .i64 k] 3) = w5 := ⟨_, rfl⟩
    rw [hw5] at SX TX F5 hs5 ⊢
    clear hw5 hb5
    have T5 := HT.out.keptK F5.k
    have hlr := HF.out.r.lt
    obtain ⟨nb, hnb⟩ : ∃ nb, (ts[k]?.getD ([], [])).2.length = nb := ⟨_, rfl⟩
    have hti := tier_iter n₀ _ _ _ _ _ k ts w5 SX TX T5 hlt
    rw [hnb] at hti
    apply range_outerB (gf := 99) (lb := #[.pointer (some ⟨wr.heap.size, 0, none⟩), .pointer (some ⟨wr.heap.size + 1, 0, none⟩)]) rfl (enters_of Try.func99 (by kernel_rfl) rfl)
      hti (fun j r hj => by rintro (h | ⟨h, h'⟩); exact KS.loop (by have := F5.k.size; omega) r h; cases h') (fun _ => rfl)
      (fun pre W' => (∀ b ∈ pre, p k b = false) ∧ FirstI n₀ w W0 W H (.slice a ts.length cap) (.func (.func 79) #[] #[.pointer (some ⟨bl, 0, none⟩), .pointer (some ⟨bb, 0, none⟩), .pointer (some ⟨bv, 0, none⟩)]) Ds W')
      (fun c pre W' => c = .ret ∧ ∃ x : Nat, x < nb ∧ p k x = true ∧ (∀ b, b < x → p k b = false) ∧ Blk W' (w.heap.size + 1 + 1) #[.int .i64 k, .int .i64 x] 74 ∧ Below w.heap.size w W' ∧ Marks w.heap.size Ds W')
      (OwnFrom.and (ownFrom_pure _ (fun pre : List Nat => ∀ b ∈ pre, p k b = false)) (FirstI.own (by omega) (by have := F5.k.size; omega) (fun D hD => by have := HF.out.m.lt D hD; omega)))
      (fun c s A C row hs hg hr => by
        obtain ⟨hc, x, x1, x2, x3, x4, x5, x6⟩ := hs
        exact ⟨hc, x, x1, x2, x3, x4.kept hg (fun e => by have := (hr _ e.symm).1; omega), ownFrom_below (β := Unit) (Nat.le_refl _) (by omega) () A C row x5 hg hr, Marks.own (β := Unit) (fun D hD => by have := HF.out.m.lt D hD; omega) () A C row x6 hg hr⟩)
      ⟨fun b hb => (by cases hb), F5⟩ (fun x : Nat => #[.int .i64 k, .int .i64 x]) 74
    case hassign =>
      rintro l pre x W' Q ⟨hi1, hi2⟩ hQ
      obtain ⟨kb, hkb⟩ : ∃ kb, W'.heap.size = kb := ⟨_, rfl⟩
      have hX := Blk.newI W' kb #[.int .i64 k, .int .i64 x] 74 hkb
      gi_wp2
      exact hQ kb _ ((KeepsOthers.alloc _ _).from _) (Kept.alloc _ _ _) ⟨hi1, hi2.past ((Below.refl _ _).alloc (Nat.le_refl _) _)⟩ hX
    case hbody =>
      rintro l pre x Bx W' hl hr ⟨hi1, hi2⟩ hBx hpre
      obtain ⟨hpx, hx⟩ := range_pre hpre
      have HI1 : Hid (∀ b, b < x → p k b = false) := Lib.hid fun b hb => hi1 b (by rw [hpx]; exact List.mem_range.2 hb)
      have HIA : Hid (p k x = false → ∀ b ∈ pre ++ [x], p k b = false) := Lib.hid fun h b hb => by
        rcases List.mem_append.1 hb with h1 | h1
        · exact hi1 b h1
        · have : b = x := by simpa using h1
          rw [this]; exact h
      have hc := crush1_any n₀ bl bb bv gb base W H _ _ ts rows bears N k x W' HNN.out (HCB.out.past hi2.b) hlt (by show x < (ts[k]?.getD ([], [])).2.length; omega)
      rw [HP.out] at hc
      have HC := Lib.hid hc
      have ki := hi2.i.cell (i := 0) (v := .func (.func 79) #[] #[.pointer (some ⟨bl, 0, none⟩), .pointer (some ⟨bb, 0, none⟩), .pointer (some ⟨bv, 0, none⟩)]) rfl
      have b0 := hBx.cell (i := 0) (v := .int .i64 k) rfl
      have b1 := hBx.cell (i := 1) (v := .int .i64 x) rfl
      have HI2 := Lib.hid hi2
      have HBX := Lib.hid hBx
      clear hc hi1 hi2 hBx hpx hpre
      gi_wp2_with fail
      refine ⟨trivial, ?_⟩
      refine (CallsIn.inRound l (callsIn_wide.2 HC.out)).mono ?_
      rintro e w6 ⟨rfl, hb6⟩
      clear ki b0 b1
      have I6 := HI2.out.past hb6
      have X6 := HBX.out.past hb6
      cases hp6 : p k x
      · have HA2 := HIA.out hp6
        have HB6 := Lib.hid hb6
        have HI6 := Lib.hid I6
        have HA3 := Lib.hid HA2
        clear hp6 hb6 I6 HA2
        gi_wp2
        exact ⟨KeepsFrom.of_below HB6.out, Kept.of_below HB6.out, HA3.out, HI6.out⟩
      · have b0 := X6.cell (i := 0) (v := .int .i64 k) rfl
        have b1 := X6.cell (i := 1) (v := .int .i64 x) rfl
        have r0 := I6.r.cell (i := 0) (v := .int .i64 0) rfl
        have r1 := I6.r.cell (i := 1) (v := .int .i64 0) rfl
        have f0 := I6.r.fr (i := 0)
        have f1 := I6.r.fr (i := 1)
        have HB6 := Lib.hid hb6
        have HI6 := Lib.hid I6
        have HP6 := Lib.hid hp6
        clear hp6 hb6 I6 X6
        gi_wp2
        have R7 := HI6.out.r.set 0 (by simp) (.int .i64 k) rfl
        have R8 := R7.set 1 (by simp) (.int .i64 x) rfl
        exact ⟨(KeepsFrom.of_below HB6.out).trans (((KeepsOthers.setCell _ _ _).trans (KeepsOthers.setCell _ _ _)).from _), rfl, x, hx, HP6.out, HI1.out, R8, (HI6.out.b.setCell (show w.heap.size ≤ w.heap.size + 1 + 1 by omega) _).setCell (show w.heap.size ≤ w.heap.size + 1 + 1 by omega) _, (HI6.out.m.set HI6.out.r _).set R7 _⟩
    case hdone =>
      rintro D W' hD ⟨hi1, hi2⟩ hdf
      have HI2 := Lib.hid hi2
      have HM : Hid (Marks w.heap.size (D :: Ds) W') := Lib.hid (hi2.m.cons hdf (by omega) (fun D' hD' => by have := HF.out.m.lt D' hD'; omega))
      have HA2 : Hid (∀ t, t < k + 1 → ∀ b, b < (ts[t]?.getD ([], [])).2.length → p t b = false) := Lib.hid fun t ht b hb => by
        rcases Nat.lt_or_ge t k with h | h
        · exact HA.out t h b hb
        · have : t = k := by omega
          subst this
          exact hi1 b (List.mem_range.2 (by omega))
      clear hi1 hi2 hdf
      gi_wp2
      exact ⟨⟨k + 1, _, _, _, _, _, _, _, _, _, _, _, _, _, _, D :: Ds, rfl, by omega, Lib.hid ⟨HI2.out.s, HI2.out.i, HI2.out.r, HI2.out.k, HI2.out.b, HM.out⟩, HA2⟩, by simp [intOf]; omega⟩
    case hstop =>
      rintro D c pre W' hD hpre ⟨rfl, x, x1, x2, x3, x4, x5, x6⟩ hdf
      have HM : Hid (Marks w.heap.size (D :: Ds) W') := Lib.hid (x6.cons hdf (by omega) (fun D' hD' => by have := HF.out.m.lt D' hD'; omega))
      have HR : Hid (FirstB ts p (some (k, x))) := Lib.hid ⟨hlt, by rw [hnb]; exact x1, x2, x3, HA.out⟩
      have HX := Lib.hid (And.intro x4 x5)
      clear x2 x3 x4 x5 x6 hdf
      gi_wp2
      refine leaves_marks (I := fun (_ : Unit) W => Blk W (w.heap.size + 1 + 1) #[.int .i64 k, .int .i64 x] 74 ∧ Below w.heap.size w W) (B := w.heap.size)
        (OwnFrom.and (Own.from (blk_own _ _ (fun _ : Unit => #[Value.int .i64 k, .int .i64 x])) _) (ownFrom_below (Nat.le_refl _) (Nat.le_refl _))) ?_ (D :: Ds) _ HM.out HX.out
      rintro W9 ⟨h9, hb9⟩
      have r0 := h9.cell (i := 0) (v := .int .i64 k) rfl
      have r1 := h9.cell (i := 1) (v := .int .i64 x) rfl
      exact ⟨brickV (some (k, x)), by simp [results, Try.results78, go_sem, r0, r1, brickV], some (k, x), HR.out, rfl, hb9⟩
  · have hke : k = ts.length := by omega
    subst hke
    have HR : Hid (FirstB ts p none) := Lib.hid HA.out
    clear HA
    gi_wp2_with fail
    refine ⟨trivial, ?_⟩
    refine (callsIn_wide.2 (nowhere_any _)).mono ?_
    rintro e w6 ⟨rfl, hb6⟩
    have I6 := HF.out.past hb6
    have r0 := I6.r.cell (i := 0) (v := .int .i64 0) rfl
    have r1 := I6.r.cell (i := 1) (v := .int .i64 0) rfl
    have f0 := I6.r.fr (i := 0)
    have f1 := I6.r.fr (i := 1)
    have HI6 := Lib.hid I6
    clear hb6 I6 HF
    gi_wp2
    have R7 := HI6.out.r.set 0 (by simp) (.int .i64 (-1)) rfl
    have R8 := R7.set 1 (by simp) (.int .i64 (-1)) rfl
    refine leaves_marks (I := fun (_ : Unit) W => Blk W (w.heap.size + 1 + 1) #[.int .i64 (-1), .int .i64 (-1)] 74 ∧ Below w.heap.size w W) (B := w.heap.size)
        (OwnFrom.and (Own.from (blk_own _ _ (fun _ : Unit => #[Value.int .i64 (-1), .int .i64 (-1)])) _) (ownFrom_below (Nat.le_refl _) (Nat.le_refl _))) ?_ Ds _ ((HI6.out.m.set HI6.out.r _).set R7 _) ⟨R8, (HI6.out.b.setCell (show w.heap.size ≤ w.heap.size + 1 + 1 by omega) _).setCell (show w.heap.size ≤ w.heap.size + 1 + 1 by omega) _⟩
    rintro W9 ⟨h9, hb9⟩
    have r0 := h9.cell (i := 0) (v := .int .i64 (-1)) rfl
    have r1 := h9.cell (i := 1) (v := .int .i64 (-1)) rfl
    exact ⟨brickV none, by simp [results, Try.results78, go_sem, r0, r1, brickV], none, HR.out, rfl, hb9⟩
end Go.Proofs.Ytopnlcjbklmicaa
