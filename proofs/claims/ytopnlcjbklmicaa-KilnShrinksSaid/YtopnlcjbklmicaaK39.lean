import Derived.Test.YtopnlcjbklmicaaK38
import Derived.WalkKit
import Derived.WalkSpells
import Derived.WalkLawsBesides
import Derived.Deep.QuietTactic
import Derived.BigQuiet
import Derived.Lib.Hide
import Derived.WalkSmall
import Derived.Maps.OwnSet
import Derived.Maps.RangeWalk
import Derived.Deep.RegionWith
import Derived.Deep.RegionHeld3
import Derived.Deep.DrawnRows
import Derived.Deep.DeepCutAuto
import Derived.OneCell
import Derived.KernelRfl
import Derived.Laws.StructEq
import Derived.StillTailTactics
import Derived.Laws.Externs
import Derived.RangeFuncBox
import Derived.Outline
import Derived.RangeFuncNested
import Derived.RangeFuncBound
import Derived.RangeFuncCalls
import Derived.RangeFuncLeaves
import Derived.Shelf.RegionOpen
import Derived.OwnWalkIn
import Derived.TacticsInMore
import Derived.LoopNIn
import Derived.LoopIn
import Derived.Test.YtopnlcjbklmicaaProg
namespace Go.Proofs.Ytopnlcjbklmicaa
open Go.RowKit Go.Maps Go.Shelf
set_option linter.unusedVariables false
set_option linter.unusedSimpArgs false
set_option maxRecDepth 100000 in
set_option maxHeartbeats 2000000 in
theorem refLeft_any (n : Int) (v : Value) (l : List (Int × Int)) (w : World) (h : PairsAt w v l) (hs : l.all stageF = true) (hn : 0 ≤ n ∧ n ≤ 1000000000) (hll : l.length ≤ 1000) :
    Calls Try.prog 24 #[.int .i64 n, v] w fun e w' => e = .returned (.agg #[.int .i64 (leftL (n, n) l).1, .int .i64 (leftL (n, n) l).2]) ∧ Below w.heap.size w w' := by
  obtain ⟨a, cap, rfl, hl, hp⟩ := h.placed
  have HC := Lib.hid hp
  have HAL := Lib.hid hs
  have HNN := Lib.hid hn
  have R := (Blk.new w #[.int .i64 0, .int .i64 0] 23).alloc (.cells #[.int .i64 n, .int .i64 n] 23)
  have X := Blk.newI (w.alloc (.cells #[.int .i64 0, .int .i64 0] 23)) (w.heap.size + 1) #[.int .i64 n, .int .i64 n] 23 (by simp)
  have BB := ((Below.refl _ w).alloc (Nat.le_refl _) (.cells #[.int .i64 0, .int .i64 0] 23)).alloc (by simp) (.cells #[.int .i64 n, .int .i64 n] 23)
  obtain ⟨w1, hw1⟩ : ∃ w1, (w.alloc (.cells #[.int .i64 0, .int .i64 0] 23)).alloc (.cells #[.int .i64 n, .int .i64 n] 23) = w1 := ⟨_, rfl⟩
  rw [hw1] at R X BB
  have HR := Lib.hid R
  have HX := Lib.hid X
  have HBB := Lib.hid BB
  clear R X BB hp h hs hn hl
  go_enter Try.func24, Try.ntmps24
  go_wp2_with fail
  try rw [hw1]
  clear hw1
  go_loopw [6] (fun i wr => ∃ k : Nat, k ≤ l.length ∧ i = .int .i64 k ∧ Hid (Blk wr (w.heap.size + 1) #[.int .i64 (leftL (n, n) (l.take k)).1, .int .i64 (leftL (n, n) (l.take k)).2] 23) ∧ Hid (Blk wr w.heap.size #[.int .i64 0, .int .i64 0] 23) ∧ Hid (Below w.heap.size w wr)) (fun i _ => l.length - (intOf i).toNat)
  case atStart => exact ⟨0, Nat.zero_le _, rfl, HX, HR, HBB⟩
  case round =>
    obtain ⟨k, hk, rfl, HX5, HR5, HB5⟩ := hrel
    by_cases hlt : k < l.length
    · obtain ⟨b, off, rfl, hbb, c1, c2⟩ := HC.out k hlt
      have hbn : b ≠ w.heap.size + 1 := by omega
      have c1w := c1
      have c2w := c2
      have c1 := (HB5.out.cell (p := ⟨b, _, none⟩) hbb).trans c1
      have c2 := (HB5.out.cell (p := ⟨b, _, none⟩) hbb).trans c2
      have hst := leftL_take (n, n) (0, 0) l k hlt
      have hq := all_get (0, 0) HAL.out k hlt
      have hrg := leftL_range (p := (n, n)) (l.take k) HNN.out HNN.out (all_take HAL.out k)
      obtain ⟨x, y, hel⟩ : ∃ x y, l[k]?.getD (0, 0) = (x, y) := ⟨_, _, rfl⟩
      obtain ⟨p, q, hpq⟩ : ∃ p q, leftL (n, n) (l.take k) = (p, q) := ⟨_, _, rfl⟩
      rw [hel] at c1 c2 c1w c2w hst hq
      rw [hpq] at hst hrg HX5
      have HST := Lib.hid hst
      dsimp only at c1 c2 c1w c2w hrg
      obtain ⟨u1, u2, u3⟩ := isSpreadF_range hq
      dsimp only at u1 u2 u3
      have v1 := loss_range hrg.1 (m := y) (by omega)
      have v2 := loss_range hrg.2 (m := x) (by omega)
      obtain ⟨g1, g2⟩ := hrg
      obtain ⟨py, hpy⟩ : ∃ t, p * y = t := ⟨_, rfl⟩
      obtain ⟨qx, hqx⟩ : ∃ t, q * x = t := ⟨_, rfl⟩
      rw [hpy] at v1
      rw [hqx] at v2
      have HST2 : Hid (leftL (n, n) (l.take (k + 1)) = (p - py / 10000, q - qx / 10000)) := Lib.hid (by rw [HST.out]; unfold leftS; dsimp only; rw [hpy, hqx])
      have w1 : IntKind.i64.wrap py = py := wrap_id (by omega) (by omega)
      have w2 : IntKind.i64.wrap (py.tdiv 10000) = py / 10000 := by rw [Int.tdiv_eq_ediv_of_nonneg v1.1]; exact wrap_id (by omega) (by omega)
      have w3 : IntKind.i64.wrap (p - py / 10000) = p - py / 10000 := wrap_id (by omega) (by omega)
      have w4 : IntKind.i64.wrap qx = qx := wrap_id (by omega) (by omega)
      have w5 : IntKind.i64.wrap (qx.tdiv 10000) = qx / 10000 := by rw [Int.tdiv_eq_ediv_of_nonneg v2.1]; exact wrap_id (by omega) (by omega)
      have w6 : IntKind.i64.wrap (q - qx / 10000) = q - qx / 10000 := wrap_id (by omega) (by omega)
      have hk0 : (0 : Int) ≤ (k : Int) := by omega
      have hk1 : (k : Int) < (l.length : Int) := by omega
      have w7 : IntKind.i64.wrap ((k : Int) + 1) = (k : Int) + 1 := wrap_id (by omega) (by omega)
      clear hel hpq hst hq HST
      have e0 := HX5.out.cell (i := 0) (v := .int .i64 p) rfl
      have f0 := HX5.out.fr (i := 0)
      have hbb5 : b < w.heap.size := hbb
      go_wp2
      go_region
      have HX6 := Lib.hid ((HX5.out.set 0 (by simp) (.int .i64 (p - py / 10000)) rfl).drew)
      have HR6 := Lib.hid ((HR5.out.far (b' := w.heap.size + 1) (i := 0) (u := .int .i64 (p - py / 10000)) (by omega)).drew)
      have HB6 := Lib.hid ((HB5.out.setCell (p := ⟨w.heap.size + 1, 0, none⟩) (show w.heap.size ≤ w.heap.size + 1 by omega) (.int .i64 (p - py / 10000))).drew)
      obtain ⟨W2, hW2⟩ : ∃ W2, (wr.setCell ⟨w.heap.size + 1, 0, none⟩ (.int .i64 (p - py / 10000))).drew = W2 := ⟨_, rfl⟩
      rw [hW2] at HX6 HR6 HB6 ⊢
      clear hW2 e0 f0 HX5 HR5 HB5 c1 c2
      have e1 := HX6.out.cell (i := 1) (v := .int .i64 q) rfl
      have f1 := HX6.out.fr (i := 1)
      have c1 := (HB6.out.cell (p := ⟨b, _, none⟩) hbb).trans c1w
      go_wp2
      go_region
      have HX7 := Lib.hid ((HX6.out.set 1 (by simp) (.int .i64 (q - qx / 10000)) rfl).drew)
      have HR7 := Lib.hid ((HR6.out.far (b' := w.heap.size + 1) (i := 1) (u := .int .i64 (q - qx / 10000)) (by omega)).drew)
      have HB7 := Lib.hid ((HB6.out.setCell (p := ⟨w.heap.size + 1, 1, none⟩) (show w.heap.size ≤ w.heap.size + 1 by omega) (.int .i64 (q - qx / 10000))).drew)
      go_wp2
      go_roundw
      case rel => exact ⟨k + 1, by omega, by go_num, Lib.hid (by rw [HST2.out]; exact HX7.out), HR7, HB7⟩
      case measure => simp [intOf]; omega
    · have hke : k = l.length := by omega
      subst hke
      have hke : l.take l.length = l := List.take_length
      rw [hke] at HX5
      obtain ⟨x, y, hxy⟩ : ∃ x y, leftL (n, n) l = (x, y) := ⟨_, _, rfl⟩
      rw [hxy] at HX5
      have HXY := Lib.hid hxy
      have e0 := HX5.out.cell (i := 0) (v := .int .i64 x) rfl
      have e1 := HX5.out.cell (i := 1) (v := .int .i64 y) rfl
      have r0 := HR5.out.cell (i := 0) (v := .int .i64 0) rfl
      have r1 := HR5.out.cell (i := 1) (v := .int .i64 0) rfl
      have f0 := HR5.out.fr (i := 0)
      have f1 := HR5.out.fr (i := 1)
      clear hke hxy
      go_wp2
      obtain ⟨d0, d1, d2, hg, _⟩ := blk_after HR5.out (.int .i64 x) (.int .i64 y) rfl rfl
      refine bodyPost_ret (v := .agg #[.int .i64 x, .int .i64 y]) ?_ rfl ?_
      · simp [results, Try.results24, go_sem, d0, d1, d2]
      · exact ⟨by rw [HXY.out], HB5.out.grown hg HB5.out.size (by intro k hk; cases hk; omega)⟩
set_option maxRecDepth 100000 in
set_option maxHeartbeats 2000000 in
theorem refNeed_any (n : Int) (v : Value) (l : List (Int × Int)) (w : World) (h : PairsAt w v l) (hs : l.all stageF = true) (hll : l.length ≤ 1000) :
    Calls Try.prog 23 #[.int .i64 n, v] w fun e w' => ∃ k : Int, FirstN n l k ∧ e = .returned (.tuple #[.int .i64 k, .bool (decide (k ≤ 1000000000))]) ∧ Below w.heap.size w w' := by
  have HD := Lib.hid h
  obtain ⟨a, cap, rfl, _⟩ := h.placed
  have HL := Lib.hid fun m wr (hp : PairsAt wr (.slice a l.length cap) l) (hm : 0 ≤ m ∧ m ≤ 1000000000) => refLeft_any m _ l wr hp hs hm hll
  have HMO := Lib.hid fun (x y : Int) (h0 : 0 ≤ x) (h1 : x ≤ y) (h2 : y ≤ 1000000000) => leastF_mono hs h0 h1 h2
  clear h hs
  go_enter Try.func23, Try.ntmps23
  go_wp2_with fail
  go_loopw [6, 7, 8] (fun a b _ wr => ∃ x y : Int, a = .int .i64 x ∧ b = .int .i64 y ∧ (0 ≤ x ∧ x ≤ y ∧ y ≤ 1000000001) ∧ Hid ((∀ z, 0 ≤ z → z < x → leastF z l < n) ∧ (∀ z, y ≤ z → z ≤ 1000000000 → n ≤ leastF z l)) ∧ Hid (Below w.heap.size w wr)) (fun a b _ _ => (intOf b - intOf a).toNat)
  case atStart => exact ⟨0, 1000000001, rfl, rfl, by omega, Lib.hid ⟨fun z h0 h1 => by omega, fun z h0 h1 => by omega⟩, Lib.hid (Below.refl _ _)⟩
  case round =>
    obtain ⟨x, y, rfl, rfl, hxy, HI, HW⟩ := hrel
    by_cases hlt : x < y
    · have w2 : IntKind.i64.wrap (x + y) = x + y := wrap_id (by omega) (by omega)
      obtain ⟨m, hm⟩ : ∃ m, (x + y) / 2 = m := ⟨_, rfl⟩
      have w3 : IntKind.i64.wrap ((x + y).tdiv 2) = m := by rw [Int.tdiv_eq_ediv_of_nonneg (by omega), hm]; exact wrap_id (by omega) (by omega)
      have hmr : x ≤ m ∧ m < y := by omega
      have w4 : IntKind.i64.wrap (m + 1) = m + 1 := wrap_id (by omega) (by omega)
      have HC := Lib.hid (HL.out m wr (HD.out.below HW.out) (by omega))
      have hfl := field_lo
      clear hm
      go_wp2_with fail
      refine HC.out.mono ?_
      rintro e w5 ⟨rfl, hb5⟩
      have HW5 := Lib.hid (HW.out.trans (hb5.mono HW.out.size))
      have hlf : leastF m l = (leftL (m, m) l).1 := rfl
      obtain ⟨t, ht⟩ : ∃ t, (leftL (m, m) l).1 = t := ⟨_, rfl⟩
      rw [ht] at hlf ⊢
      have HLF := Lib.hid hlf
      obtain ⟨t2, ht2⟩ : ∃ t, (leftL (m, m) l).2 = t := ⟨_, rfl⟩
      rw [ht2]
      clear hb5 HC ht ht2 hlf
      obtain ⟨q, hq⟩ : ∃ q, decide (n ≤ t) = q := ⟨_, rfl⟩
      cases q
      · have hnew : ∀ z, 0 ≤ z → z < m + 1 → leastF z l < n := fun z h0 h1 => by
          have h2 := HMO.out z m h0 (by omega) (by omega)
          have h3 := of_decide_eq_false hq
          have h4 := HLF.out
          omega
        have HI2 := Lib.hid (And.intro hnew HI.out.2)
        clear hnew
        go_wp2
        go_roundw
        case rel => exact ⟨m + 1, y, rfl, rfl, by omega, HI2, HW5⟩
        case measure => simp [intOf]; omega
      · have hnew : ∀ z, m ≤ z → z ≤ 1000000000 → n ≤ leastF z l := fun z h0 h1 => by
          have h2 := HMO.out m z (by omega) h0 h1
          have h3 := of_decide_eq_true hq
          have h4 := HLF.out
          omega
        have HI2 := Lib.hid (And.intro HI.out.1 hnew)
        clear hnew
        go_wp2
        go_roundw
        case rel => exact ⟨x, m, rfl, rfl, by omega, HI2, HW5⟩
        case measure => simp [intOf]; omega
    · have hxy2 : x = y := by omega
      subst hxy2
      have HFN : Hid (FirstN n l x) := Lib.hid ⟨by omega, by omega, HI.out.1, HI.out.2⟩
      clear hlt HI
      go_wp2
      exact bodyPost_ret (v := .tuple #[.int .i64 x, .bool (decide (x ≤ 1000000000))]) (by simp [results, Try.results23, go_sem]) rfl ⟨x, HFN.out, rfl, HW.out⟩
end Go.Proofs.Ytopnlcjbklmicaa
