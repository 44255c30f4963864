import Derived.Test.YtopnlcjbklmicaaK5
import Derived.WalkKit
import Derived.WalkSpells
import Derived.WalkLawsBesides
import Derived.Deep.QuietTactic
import Derived.BigQuiet
import Derived.Lib.Hide
import Derived.WalkSmall
import Derived.Maps.OwnSet
import Derived.Maps.RangeWalk
import Derived.Deep.RegionWith
import Derived.Deep.RegionHeld3
import Derived.Deep.DrawnRows
import Derived.Deep.DeepCutAuto
import Derived.OneCell
import Derived.KernelRfl
import Derived.Laws.StructEq
import Derived.StillTailTactics
import Derived.Laws.Externs
import Derived.RangeFuncBox
import Derived.Outline
import Derived.RangeFuncNested
import Derived.RangeFuncBound
import Derived.RangeFuncCalls
import Derived.RangeFuncLeaves
import Derived.Shelf.RegionOpen
import Derived.OwnWalkIn
import Derived.TacticsInMore
import Derived.LoopNIn
import Derived.LoopIn
import Derived.Test.YtopnlcjbklmicaaProg
namespace Go.Proofs.Ytopnlcjbklmicaa
open Go.RowKit Go.Maps Go.Shelf
set_option linter.unusedVariables false
set_option linter.unusedSimpArgs false
/-- A list of pairs of ints that a slice holds. -/
def PairsC (w : World) (b off : Nat) (l : List (Int × Int)) : Prop :=
  ∀ i, i < l.length → w.cell? ⟨b, off + i * 2, none⟩ = some (.int .i64 (l[i]?.getD (0, 0)).1) ∧ w.cell? ⟨b, off + i * 2 + 1, none⟩ = some (.int .i64 (l[i]?.getD (0, 0)).2)
def PairsAt (w : World) (v : Value) (l : List (Int × Int)) : Prop :=
  l.length ≤ 8796093022208 ∧ ((l = [] ∧ ∃ a cap, v = .slice a 0 cap) ∨ ∃ b off cap, v = .slice (some ⟨b, off, none⟩) l.length cap ∧ l.length ≤ cap ∧ b < w.heap.size ∧ PairsC w b off l)
theorem PairsC.below {w w' : World} {b off : Nat} {l : List (Int × Int)} {B : Nat} (h : PairsC w b off l) (hb : b < B) (hw : Below B w w') : PairsC w' b off l :=
  fun i hi => ⟨(hw.cell (p := ⟨b, _, none⟩) hb).trans (h i hi).1, (hw.cell (p := ⟨b, _, none⟩) hb).trans (h i hi).2⟩
theorem PairsAt.below {w w' : World} {v : Value} {l : List (Int × Int)} (h : PairsAt w v l) (hw : Below w.heap.size w w') : PairsAt w' v l := by
  obtain ⟨hl, h | ⟨b, off, cap, hv, hcap, hb, hc⟩⟩ := h
  · exact ⟨hl, .inl h⟩
  · exact ⟨hl, .inr ⟨b, off, cap, hv, hcap, Nat.lt_of_lt_of_le hb hw.size, hc.below hb hw⟩⟩
theorem PairsAt.alloc {w : World} {v : Value} {l : List (Int × Int)} (h : PairsAt w v l) (o : Obj) : PairsAt (w.alloc o) v l := h.below ((Below.refl _ _).alloc (Nat.le_refl _) _)
def PlacedQ (w : World) (a : Option Addr) (l : List (Int × Int)) : Prop :=
  ∀ i, i < l.length → ∃ b off, a = some ⟨b, off, none⟩ ∧ b < w.heap.size ∧ w.cell? ⟨b, off + i * 2, none⟩ = some (.int .i64 (l[i]?.getD (0, 0)).1) ∧ w.cell? ⟨b, off + i * 2 + 1, none⟩ = some (.int .i64 (l[i]?.getD (0, 0)).2)
theorem PairsAt.placed {w : World} {v : Value} {l : List (Int × Int)} (h : PairsAt w v l) : ∃ a cap, v = .slice a l.length cap ∧ l.length ≤ 8796093022208 ∧ PlacedQ w a l := by
  obtain ⟨hl, ⟨rfl, a, cap, rfl⟩ | ⟨b, off, cap, rfl, hcap, hb, hc⟩⟩ := h
  · exact ⟨a, cap, rfl, by simp, fun i hi => by simp at hi⟩
  · exact ⟨_, cap, rfl, hl, fun i hi => ⟨b, off, rfl, hb, hc i hi⟩⟩
def stageF (s : Int × Int) : Bool := isSpreadF s.1 s.2 10000
set_option maxHeartbeats 1000000 in
theorem areStages_any (v : Value) (l : List (Int × Int)) (w : World) (h : PairsAt w v l) :
    Calls Try.prog 59 #[v] w fun e w' => e = .returned (.bool (l.all stageF)) ∧ Below w.heap.size w w' := by
  obtain ⟨a, cap, rfl, hl, hp⟩ := h.placed
  have HC := Lib.hid hp
  obtain ⟨p, hp0⟩ : ∃ p : Int × Int → Bool, stageF = p := ⟨_, rfl⟩
  have HP0 : Hid (∀ x y, isSpreadF x y 10000 = p (x, y)) := Lib.hid (fun x y => by rw [← hp0]; rfl)
  rw [hp0]
  clear hp h hp0
  go_enter Try.func59, Try.ntmps59
  go_wp2
  go_loopw [7] (fun i wr => ∃ k : Nat, k ≤ l.length ∧ i = .int .i64 k ∧ Hid ((l.take k).all p = true) ∧ Hid (Below w.heap.size w wr)) (fun i _ => l.length - (intOf i).toNat)
  case atStart => exact ⟨0, Nat.zero_le _, rfl, Lib.hid (by simp), Lib.hid (Below.refl _ _)⟩
  case round =>
    obtain ⟨k, hk, rfl, HA, HB⟩ := hrel
    by_cases hlt : k < l.length
    · obtain ⟨b, off, rfl, hbb, c1, c2⟩ := HC.out k hlt
      have c1 := (HB.out.cell (p := ⟨b, _, none⟩) hbb).trans c1
      have c2 := (HB.out.cell (p := ⟨b, _, none⟩) hbb).trans c2
      have has := allN_take_succ (0, 0) p l k hlt
      have hno := allN_not (0, 0) p l k hlt
      obtain ⟨x, y, hel⟩ : ∃ x y, l[k]?.getD (0, 0) = (x, y) := ⟨_, _, rfl⟩
      rw [hel] at c1 c2 has hno
      have HAS := Lib.hid has
      have HNO := Lib.hid hno
      clear hel has hno
      dsimp only at c1 c2
      have HB2 := Lib.hid (HB.out.alloc HB.out.size (.cells #[.int .i64 x, .int .i64 y] 124))
      have K := Blk.new wr #[.int .i64 x, .int .i64 y] 124
      have e0 := K.cell (i := 0) (v := .int .i64 x) rfl
      have e1 := K.cell (i := 1) (v := .int .i64 y) rfl
      have HI := Lib.hid (isSpread_any x y 10000 (wr.alloc (.cells #[.int .i64 x, .int .i64 y] 124)))
      rw [HP0.out x y] at HI
      clear K
      go_wp2_with fail
      refine HI.out.mono ?_
      rintro e w2 ⟨rfl, hb2⟩
      have HB3 := Lib.hid (HB2.out.trans (hb2.mono HB2.out.size))
      clear hb2 e0 e1 c1 c2
      cases hq : p (x, y)
      · have HN := Lib.hid (HNO.out hq)
        clear hq
        go_wp2
        go_ret
        exact ⟨ret_bool (by rw [HN.out]), HB3.out⟩
      · have HY := Lib.hid hq
        clear hq
        go_wp2
        go_roundw
        case rel => exact ⟨k + 1, by omega, by go_num, Lib.hid (by rw [HAS.out, HA.out, HY.out]; rfl), HB3⟩
        case measure => simp [intOf]; omega
    · have hke : k = l.length := by omega
      have HA2 : Hid (l.all p = true) := Lib.hid (by have := HA.out; rwa [hke, List.take_length] at this)
      clear HA hke
      go_wp2
      go_ret
      exact ⟨ret_bool (by rw [HA2.out]), HB.out⟩
end Go.Proofs.Ytopnlcjbklmicaa
