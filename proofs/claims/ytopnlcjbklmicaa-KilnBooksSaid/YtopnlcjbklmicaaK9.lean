import Derived.Test.YtopnlcjbklmicaaK8
import Derived.WalkKit
import Derived.WalkSpells
import Derived.WalkLawsBesides
import Derived.Deep.QuietTactic
import Derived.BigQuiet
import Derived.Lib.Hide
import Derived.WalkSmall
import Derived.Maps.OwnSet
import Derived.Maps.RangeWalk
import Derived.Deep.RegionWith
import Derived.Deep.RegionHeld3
import Derived.Deep.DrawnRows
import Derived.Deep.DeepCutAuto
import Derived.OneCell
import Derived.KernelRfl
import Derived.Laws.StructEq
import Derived.StillTailTactics
import Derived.Laws.Externs
import Derived.RangeFuncBox
import Derived.Outline
import Derived.RangeFuncNested
import Derived.RangeFuncBound
import Derived.RangeFuncCalls
import Derived.RangeFuncLeaves
import Derived.Shelf.RegionOpen
import Derived.OwnWalkIn
import Derived.TacticsInMore
import Derived.LoopNIn
import Derived.LoopIn
import Derived.Test.YtopnlcjbklmicaaProg
namespace Go.Proofs.Ytopnlcjbklmicaa
open Go.RowKit Go.Maps Go.Shelf
set_option linter.unusedVariables false
set_option linter.unusedSimpArgs false
set_option maxRecDepth 100000 in
set_option maxHeartbeats 2000000 in
theorem search_any (n : Int) (l : List (Int × Int)) (v : Value) (bl bn : Nat) (w : World) (h : PairsAt w v l) (hok : ¬ 10 < l.length ∧ l.all stageF = true)
    (h1 : Blk w bl #[v] 36) (h2 : Blk w bn #[.int .i64 n] 3) :
    Calls Try.prog 60 #[.int .i64 1000000001, .func (.func 61) #[] #[.pointer (some ⟨bl, 0, none⟩), .pointer (some ⟨bn, 0, none⟩)]] w fun e w' => ∃ k : Int, e = .returned (.int .i64 k) ∧ FirstN n l k ∧ Below w.heap.size w w' := by
  have HEN : Hid (∀ (m : Int) (wr : World), 0 ≤ m ∧ m ≤ 1000000000 → Below w.heap.size w wr → Calls Try.prog 61 #[.int .i64 m, .pointer (some ⟨bl, 0, none⟩), .pointer (some ⟨bn, 0, none⟩)] wr fun e w' => e = .returned (.bool (decide (n ≤ leastF m l))) ∧ Below w.heap.size w w') :=
    Lib.hid fun m wr hm hb => (enough_any n m l v bl bn wr (h.below hb) hok hm (h1.past hb) (h2.past hb)).mono fun e w' he => ⟨he.1, hb.trans (he.2.mono hb.size)⟩
  have HMO : Hid (∀ a b : Int, 0 ≤ a → a ≤ b → b ≤ 1000000000 → leastF a l ≤ leastF b l) := Lib.hid fun a b ha hab hb => leastF_mono hok.2 ha hab hb
  obtain ⟨g, hg⟩ : ∃ g : Int → Int, (fun m => leastF m l) = g := ⟨_, rfl⟩
  have HG : Hid (∀ m, leastF m l = g m) := Lib.hid fun m => by rw [← hg]
  clear hg h h1 h2 hok
  go_enter Try.func60, Try.ntmps60
  go_wp2_with fail
  go_loopw [5, 6] (fun s t wr => ∃ i j : Nat, s = .int .i64 i ∧ t = .int .i64 j ∧ i ≤ j ∧ j ≤ 1000000001 ∧ Hid ((∀ x : Int, 0 ≤ x → x < i → g x < n) ∧ (∀ x : Int, j ≤ x → x ≤ 1000000000 → n ≤ g x)) ∧ Hid (Below w.heap.size w wr)) (fun s t _ => ((intOf t) - (intOf s)).toNat)
  case atStart => exact ⟨0, 1000000001, rfl, rfl, by omega, by omega, Lib.hid ⟨fun x h0 hx => by omega, fun x h0 hx => by omega⟩, Lib.hid (Below.refl _ _)⟩
  case round =>
    obtain ⟨i, j, rfl, rfl, hij, hj, HI, HB⟩ := hrel
    by_cases hlt : i < j
    · obtain ⟨m, hm⟩ : ∃ m, (i + j) / 2 = m := ⟨_, rfl⟩
      have hm1 : i ≤ m := by omega
      have hm2 : m < j := by omega
      have hmi : ((i : Int) + (j : Int)) / 2 = (m : Int) := by omega
      have HOV := Lib.hid (HEN.out (m : Int) wr (by omega) HB.out)
      rw [HG.out] at HOV
      clear hm
      go_wp2_with fail
      refine HOV.out.mono ?_
      rintro e w2 ⟨rfl, hb2⟩
      have HB2 := Lib.hid hb2
      clear hb2
      by_cases hc : n ≤ g m
      · have hcd : decide (n ≤ g m) = true := decide_eq_true hc
        have HI2 : Hid ((∀ x : Int, 0 ≤ x → x < i → g x < n) ∧ (∀ x : Int, m ≤ x → x ≤ 1000000000 → n ≤ g x)) := Lib.hid ⟨HI.out.1, fun x hx hx2 => by
          have := HMO.out m x (by omega) hx hx2
          rw [HG.out, HG.out] at this; omega⟩
        rw [hcd]
        clear hcd hc HI HOV HB
        go_wp2
        exact ⟨⟨i, m, rfl, rfl, by omega, by omega, HI2, HB2⟩, by simp [intOf]; omega⟩
      · have hcd : decide (n ≤ g m) = false := decide_eq_false hc
        have HI2 : Hid ((∀ x : Int, 0 ≤ x → x < ((m + 1 : Nat) : Int) → g x < n) ∧ (∀ x : Int, j ≤ x → x ≤ 1000000000 → n ≤ g x)) := Lib.hid ⟨fun x hx hx2 => by
          have := HMO.out x m hx (by omega) (by omega)
          rw [HG.out, HG.out] at this; omega, HI.out.2⟩
        rw [hcd]
        clear hcd hc HI HOV HB
        go_wp2
        exact ⟨⟨m + 1, j, by simp, rfl, by omega, by omega, HI2, HB2⟩, by simp [intOf]; omega⟩
    · have hie : i = j := by omega
      subst hie
      have HR : Hid (FirstN n l i) := Lib.hid ⟨by omega, by omega, fun x h0 hx => by rw [HG.out]; exact HI.out.1 x h0 hx, fun x h0 hx => by rw [HG.out]; exact HI.out.2 x h0 hx⟩
      clear HI
      go_wp2
      go_ret
      exact ⟨i, rfl, HR.out, HB.out⟩
/-- Need: the number and the error. -/
def NeedTo (n : Int) (l : List (Int × Int)) (r : Int × Int) : Prop :=
  ((leftF n l).2.2 ≠ 0 → r = (0, (leftF n l).2.2)) ∧ ((leftF n l).2.2 = 0 → ∃ k, FirstN n l k ∧ r = if 1000000000 < k then (0, 7) else (k, 0))
theorem leftF_err {n : Int} {l : List (Int × Int)} : (leftF n l).2.2 = 0 ↔ ((¬ 10 < l.length ∧ l.all stageF = true) ∧ 0 ≤ n ∧ n ≤ 1000000000) := by
  unfold leftF
  by_cases h1 : 10 < l.length
  · rw [if_pos h1]; simp; omega
  · rw [if_neg h1]
    cases h2 : l.all stageF
    · simp
    · cases h3 : inB n 0 1000000000
      · simp [inB] at h3; simp; omega
      · simp [inB] at h3; simp; omega
set_option maxHeartbeats 2000000 in
theorem need_any (n : Int) (v : Value) (l : List (Int × Int)) (w : World) (h : PairsAt w v l) :
    Calls Try.prog 21 #[.int .i64 n, v] w fun e w' => ∃ r : Int × Int, NeedTo n l r ∧ e = .returned (.tuple #[.int .i64 r.1, .int .i64 r.2]) ∧ Below w.heap.size w w' := by
  obtain ⟨a, cap, rfl, _⟩ := h.placed
  have BB := ((Below.refl _ w).alloc (Nat.le_refl _) (.cells #[.int .i64 n] 3)).alloc (by simp) (.cells #[.slice a l.length cap] 36)
  have HL := Lib.hid (left_any n _ l _ (h.below BB))
  have N := (Blk.new w #[.int .i64 n] 3).alloc (.cells #[.slice a l.length cap] 36)
  have L := Blk.newI (w.alloc (.cells #[.int .i64 n] 3)) (w.heap.size + 1) #[.slice a l.length cap] 36 (by simp)
  have n0 := N.cell (i := 0) (v := .int .i64 n) rfl
  have l0 := L.cell (i := 0) (v := .slice a l.length cap) rfl
  have HBB := Lib.hid BB
  have HN := Lib.hid N
  have HLL := Lib.hid L
  have HP := Lib.hid h
  have HK : Hid (∀ r, NeedTo n l r ↔ ((leftF n l).2.2 ≠ 0 → r = (0, (leftF n l).2.2)) ∧ ((leftF n l).2.2 = 0 → ∃ k, FirstN n l k ∧ r = if 1000000000 < k then (0, 7) else (k, 0))) := Lib.hid fun r => Iff.rfl
  have HE := Lib.hid (leftF_err (n := n) (l := l))
  obtain ⟨x, y, z, hxy⟩ : ∃ x y z, leftF n l = (x, y, z) := ⟨_, _, _, rfl⟩
  rw [hxy] at HK HE HL
  obtain ⟨P, hP⟩ : ∃ P, NeedTo n l = P := ⟨_, rfl⟩
  rw [hP] at HK ⊢
  clear hP BB N L h hxy
  go_enter Try.func21, Try.ntmps21
  go_wp2_with fail
  refine HL.out.mono ?_
  rintro e w2 ⟨rfl, hb2⟩
  clear n0 l0
  have HB2 := Lib.hid ((HBB.out.trans (hb2.mono HBB.out.size)).alloc (Nat.le_trans HBB.out.size hb2.size) (.cells #[.int .i64 x, .int .i64 y] 23))
  have HN2 := Lib.hid ((HN.out.past hb2).alloc (.cells #[.int .i64 x, .int .i64 y] 23))
  have HL2 := Lib.hid ((HLL.out.past hb2).alloc (.cells #[.int .i64 x, .int .i64 y] 23))
  obtain ⟨w3, hw3⟩ : ∃ w3, w2.alloc (.cells #[.int .i64 x, .int .i64 y] 23) = w3 := ⟨_, rfl⟩
  rw [hw3] at HB2 HN2 HL2
  clear hb2 HN HLL HBB HL
  by_cases hz : z = 0
  · subst hz
    have HOK := Lib.hid (HE.out.1 rfl)
    have HSE := Lib.hid (search_any n l _ _ _ w3 (HP.out.below HB2.out) HOK.out.1 HL2.out HN2.out)
    go_wp2_with fail
    refine HSE.out.mono ?_
    rintro e w4 ⟨k, rfl, hk, hb4⟩
    have HF := Lib.hid hk
    have HB4 := Lib.hid (HB2.out.trans (hb4.mono HB2.out.size))
    clear hk hb4 hw3
    by_cases c : 1000000000 < k
    · have HV : Hid (P (0, 7)) := Lib.hid ((HK.out _).2 ⟨fun h => absurd rfl h, fun _ => ⟨k, HF.out, by rw [if_pos c]⟩⟩)
      clear HK
      go_wp2
      refine bodyPost_ret (v := .tuple #[.int .i64 0, .int .i64 7]) ?_ rfl ?_
      · simp [results, Try.results21, go_sem]
      · exact ⟨(0, 7), HV.out, rfl, HB4.out⟩
    · have HV : Hid (P (k, 0)) := Lib.hid ((HK.out _).2 ⟨fun h => absurd rfl h, fun _ => ⟨k, HF.out, by rw [if_neg c]⟩⟩)
      clear HK
      go_wp2
      refine bodyPost_ret (v := .tuple #[.int .i64 k, .int .i64 0]) ?_ rfl ?_
      · simp [results, Try.results21, go_sem]
      · exact ⟨(k, 0), HV.out, rfl, HB4.out⟩
  · have HV : Hid (P (0, z)) := Lib.hid ((HK.out _).2 ⟨fun _ => rfl, fun h => absurd h hz⟩)
    clear HK HE
    go_wp2
    refine bodyPost_ret (v := .tuple #[.int .i64 0, .int .i64 z]) ?_ rfl ?_
    · simp [results, Try.results21, go_sem]
    · exact ⟨(0, z), HV.out, rfl, HB2.out⟩
end Go.Proofs.Ytopnlcjbklmicaa
