import Derived.Test.YtopnlcjbklmicaaK7
import Derived.WalkKit
import Derived.WalkSpells
import Derived.WalkLawsBesides
import Derived.Deep.QuietTactic
import Derived.BigQuiet
import Derived.Lib.Hide
import Derived.WalkSmall
import Derived.Maps.OwnSet
import Derived.Maps.RangeWalk
import Derived.Deep.RegionWith
import Derived.Deep.RegionHeld3
import Derived.Deep.DrawnRows
import Derived.Deep.DeepCutAuto
import Derived.OneCell
import Derived.KernelRfl
import Derived.Laws.StructEq
import Derived.StillTailTactics
import Derived.Laws.Externs
import Derived.RangeFuncBox
import Derived.Outline
import Derived.RangeFuncNested
import Derived.RangeFuncBound
import Derived.RangeFuncCalls
import Derived.RangeFuncLeaves
import Derived.Shelf.RegionOpen
import Derived.OwnWalkIn
import Derived.TacticsInMore
import Derived.LoopNIn
import Derived.LoopIn
import Derived.Test.YtopnlcjbklmicaaProg
namespace Go.Proofs.Ytopnlcjbklmicaa
open Go.RowKit Go.Maps Go.Shelf
set_option linter.unusedVariables false
set_option linter.unusedSimpArgs false
theorem leftL_mono {l : List (Int × Int)} (hs : l.all stageF = true) {p q : Int × Int} (h1 : 0 ≤ p.1) (h2 : 0 ≤ p.2) (h3 : p.1 ≤ q.1) (h4 : p.2 ≤ q.2) (h5 : q.1 ≤ 1000000000) (h6 : q.2 ≤ 1000000000) :
    (leftL p l).1 ≤ (leftL q l).1 ∧ (leftL p l).2 ≤ (leftL q l).2 := by
  induction l generalizing p q with
  | nil => exact ⟨h3, h4⟩
  | cons s l ih =>
    simp at hs
    obtain ⟨g1, g2⟩ := leftS_range (p := p) (s := s) ⟨h1, by omega⟩ ⟨h2, by omega⟩ hs.1
    obtain ⟨g3, g4⟩ := leftS_range (p := q) (s := s) ⟨by omega, h5⟩ ⟨by omega, h6⟩ hs.1
    obtain ⟨q1, q2, q3⟩ := isSpreadF_range hs.1
    have m1 : ∀ a b m : Int, 0 ≤ a → a ≤ b → 0 ≤ m → m ≤ 10000 → a - a * m / 10000 ≤ b - b * m / 10000 := by
      intro a b m ha hab hm0 hm
      have e : b * m = a * m + (b - a) * m := by rw [Int.sub_mul]; omega
      have h : (b - a) * m ≤ (b - a) * 10000 := Int.mul_le_mul_of_nonneg_left hm (by omega)
      omega
    have a1 := m1 p.1 q.1 s.2 h1 h3 (by omega) (by omega)
    have a2 := m1 p.2 q.2 s.1 h2 h4 (by omega) (by omega)
    exact ih (by simpa using hs.2) g1.1 g2.1 a1 a2 g3.2 g4.2
/-- What is left of so many at least. -/
def leastF (n : Int) (l : List (Int × Int)) : Int := (leftL (n, n) l).1
theorem leastF_mono {l : List (Int × Int)} (hs : l.all stageF = true) {a b : Int} (ha : 0 ≤ a) (hab : a ≤ b) (hb : b ≤ 1000000000) : leastF a l ≤ leastF b l :=
  (leftL_mono hs (p := (a, a)) (q := (b, b)) ha ha hab hab hb hb).1
theorem leftF_ok {n : Int} {l : List (Int × Int)} (h1 : ¬ 10 < l.length) (h2 : l.all stageF = true) (h3 : 0 ≤ n ∧ n ≤ 1000000000) : leftF n l = ((leftL (n, n) l).1, (leftL (n, n) l).2, 0) := by
  unfold leftF
  rw [if_neg h1, h2]
  simp [inB, h3.1, h3.2]
/-- Where the bricks begin to be enough. -/
def FirstN (n : Int) (l : List (Int × Int)) (k : Int) : Prop := 0 ≤ k ∧ k ≤ 1000000001 ∧ (∀ x, 0 ≤ x → x < k → leastF x l < n) ∧ (∀ x, k ≤ x → x ≤ 1000000000 → n ≤ leastF x l)
theorem FirstN.uniq {n : Int} {l : List (Int × Int)} {a b : Int} (h : FirstN n l a) (g : FirstN n l b) : a = b := by
  obtain ⟨h1, h2, h3, h4⟩ := h
  obtain ⟨g1, g2, g3, g4⟩ := g
  rcases Int.lt_trichotomy a b with c | c | c
  · have x := h4 a (Int.le_refl _) (by omega)
    have y := g3 a h1 c
    omega
  · exact c
  · have x := g4 b (Int.le_refl _) (by omega)
    have y := h3 b g1 c
    omega
set_option maxHeartbeats 1000000 in
theorem enough_any (n m : Int) (l : List (Int × Int)) (v : Value) (bl bn : Nat) (w : World) (h : PairsAt w v l) (hok : ¬ 10 < l.length ∧ l.all stageF = true) (hm : 0 ≤ m ∧ m ≤ 1000000000)
    (h1 : Blk w bl #[v] 36) (h2 : Blk w bn #[.int .i64 n] 3) :
    Calls Try.prog 61 #[.int .i64 m, .pointer (some ⟨bl, 0, none⟩), .pointer (some ⟨bn, 0, none⟩)] w fun e w' => e = .returned (.bool (decide (n ≤ leastF m l))) ∧ Below w.heap.size w w' := by
  have c1 := h1.cell (i := 0) (v := v) rfl
  have c2 := h2.cell (i := 0) (v := .int .i64 n) rfl
  have HL := Lib.hid (left_any m v l w h)
  rw [leftF_ok hok.1 hok.2 hm] at HL
  obtain ⟨x, y, hxy⟩ : ∃ x y, leftL (m, m) l = (x, y) := ⟨_, _, rfl⟩
  have hx : leastF m l = x := by unfold leastF; rw [hxy]
  rw [hxy] at HL
  rw [hx]
  obtain ⟨a, cap, rfl, _⟩ := h.placed
  have H2 := Lib.hid h2
  clear hxy hx h h1 h2
  go_enter Try.func61, Try.ntmps61
  go_wp2_with fail
  refine HL.out.mono ?_
  rintro e w2 ⟨rfl, hb2⟩
  have X2 := (H2.out.past hb2).alloc (.cells #[.int .i64 x, .int .i64 y] 23)
  have x0 := X2.cell (i := 0) (v := .int .i64 n) rfl
  have HB := Lib.hid (hb2.alloc hb2.size (.cells #[.int .i64 x, .int .i64 y] 23))
  have K := Blk.new w2 #[.int .i64 x, .int .i64 y] 23
  have e0 := K.cell (i := 0) (v := .int .i64 x) rfl
  have e1 := K.cell (i := 1) (v := .int .i64 y) rfl
  clear hb2 X2 K c1 c2 HL
  go_wp2
  go_ret
  exact ⟨rfl, HB.out⟩
end Go.Proofs.Ytopnlcjbklmicaa
