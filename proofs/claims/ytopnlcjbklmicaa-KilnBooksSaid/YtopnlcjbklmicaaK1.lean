import Derived.Test.YtopnlcjbklmicaaI1
import Derived.WalkKit
import Derived.WalkSpells
import Derived.WalkLawsBesides
import Derived.Deep.QuietTactic
import Derived.BigQuiet
import Derived.Lib.Hide
import Derived.WalkSmall
import Derived.Maps.OwnSet
import Derived.Maps.RangeWalk
import Derived.Deep.RegionWith
import Derived.Deep.RegionHeld3
import Derived.Deep.DrawnRows
import Derived.Deep.DeepCutAuto
import Derived.OneCell
import Derived.KernelRfl
import Derived.Laws.StructEq
import Derived.StillTailTactics
import Derived.Laws.Externs
import Derived.RangeFuncBox
import Derived.Outline
import Derived.RangeFuncNested
import Derived.RangeFuncBound
import Derived.RangeFuncCalls
import Derived.RangeFuncLeaves
import Derived.Shelf.RegionOpen
import Derived.OwnWalkIn
import Derived.TacticsInMore
import Derived.LoopNIn
import Derived.LoopIn
import Derived.Test.YtopnlcjbklmicaaProg
namespace Go.Proofs.Ytopnlcjbklmicaa
open Go.RowKit Go.Maps Go.Shelf
set_option linter.unusedVariables false
set_option linter.unusedSimpArgs false
theorem ret_bool {a b : Bool} (h : a = b) : Ending.returned (.bool a) = .returned (.bool b) := by rw [h]
theorem ret_int {k : IntKind} {a b : Int} (h : a = b) : Ending.returned (.int k a) = .returned (.int k b) := by rw [h]
def inB (n l h : Int) : Bool := decide (l ≤ n) && decide (n ≤ h)
/-- A list of ints that a slice holds. -/
def IntsC (w : World) (b off : Nat) (l : List Int) : Prop := ∀ i, i < l.length → w.cell? ⟨b, off + i, none⟩ = some (.int .i64 (l[i]?.getD 0))
def IntsAt (w : World) (v : Value) (l : List Int) : Prop :=
  l.length ≤ 17592186043904 ∧ ((l = [] ∧ ∃ a cap, v = .slice a 0 cap) ∨ ∃ b off cap, v = .slice (some ⟨b, off, none⟩) l.length cap ∧ l.length ≤ cap ∧ b < w.heap.size ∧ IntsC w b off l)
theorem IntsC.below {w w' : World} {b off : Nat} {l : List Int} {B : Nat} (h : IntsC w b off l) (hb : b < B) (hw : Below B w w') : IntsC w' b off l :=
  fun i hi => (hw.cell (p := ⟨b, _, none⟩) hb).trans (h i hi)
theorem IntsAt.below {w w' : World} {v : Value} {l : List Int} (h : IntsAt w v l) (hw : Below w.heap.size w w') : IntsAt w' v l := by
  obtain ⟨hl, h | ⟨b, off, cap, hv, hcap, hb, hc⟩⟩ := h
  · exact ⟨hl, .inl h⟩
  · exact ⟨hl, .inr ⟨b, off, cap, hv, hcap, Nat.lt_of_lt_of_le hb hw.size, hc.below hb hw⟩⟩
theorem IntsAt.belowB {w w' : World} {v : Value} {l : List Int} {B : Nat} (h : IntsAt w v l) (hB : ∀ k, v.ownBlock = some k → k < B) (hw : Below B w w') (hs : w.heap.size ≤ w'.heap.size) : IntsAt w' v l := by
  obtain ⟨hl, h | ⟨b, off, cap, rfl, hcap, hb, hc⟩⟩ := h
  · exact ⟨hl, .inl h⟩
  · exact ⟨hl, .inr ⟨b, off, cap, rfl, hcap, Nat.lt_of_lt_of_le hb hs, hc.below (hB b rfl) hw⟩⟩
theorem IntsAt.alloc {w : World} {v : Value} {l : List Int} (h : IntsAt w v l) (o : Obj) : IntsAt (w.alloc o) v l := h.below ((Below.refl _ _).alloc (Nat.le_refl _) _)
theorem IntsAt.drew {w : World} {v : Value} {l : List Int} (h : IntsAt w v l) : IntsAt w.drew v l := h.below (Below.refl _ _).drew
def PlacedM (w : World) (a : Option Addr) (l : List Int) : Prop :=
  ∀ i, i < l.length → ∃ b off, a = some ⟨b, off, none⟩ ∧ b < w.heap.size ∧ w.cell? ⟨b, off + i, none⟩ = some (.int .i64 (l[i]?.getD 0))
theorem IntsAt.placed {w : World} {v : Value} {l : List Int} (h : IntsAt w v l) : ∃ a cap, v = .slice a l.length cap ∧ l.length ≤ 17592186043904 ∧ PlacedM w a l := by
  obtain ⟨hl, ⟨rfl, a, cap, rfl⟩ | ⟨b, off, cap, rfl, hcap, hb, hc⟩⟩ := h
  · exact ⟨a, cap, rfl, by simp, fun i hi => by simp at hi⟩
  · exact ⟨_, cap, rfl, hl, fun i hi => ⟨b, off, rfl, hb, hc i hi⟩⟩
theorem intsAt_nil (w : World) (a : Option Addr) (cap : Nat) : IntsAt w (.slice a 0 cap) [] := ⟨by simp, .inl ⟨rfl, a, cap, rfl⟩⟩
theorem allN_take_succ {α : Type} (d : α) (p : α → Bool) (l : List α) (k : Nat) (h : k < l.length) : (l.take (k + 1)).all p = ((l.take k).all p && p (l[k]?.getD d)) := by
  rw [List.take_succ_eq_append_getElem h, List.all_append]; simp [h]
theorem allN_not {α : Type} (d : α) (p : α → Bool) (l : List α) (k : Nat) (h : k < l.length) (hp : p (l[k]?.getD d) = false) : l.all p = false := by
  rw [List.all_eq_false]; exact ⟨l[k], List.getElem_mem h, by simp [h] at hp; simp [hp]⟩
set_option maxHeartbeats 1000000 in
theorem areWithin_any (lo hi : Int) (v : Value) (l : List Int) (w : World) (h : IntsAt w v l) :
    Calls Try.prog 54 #[.int .i64 lo, .int .i64 hi, v] w fun e w' => e = .returned (.bool (l.all fun n => inB n lo hi)) ∧ w' = w := by
  obtain ⟨a, cap, rfl, hl, hp⟩ := h.placed
  obtain ⟨p, hp0⟩ : ∃ p : Int → Bool, (fun n => inB n lo hi) = p := ⟨_, rfl⟩
  have HP0 : Hid (∀ n, p n = inB n lo hi) := Lib.hid (fun n => by rw [← hp0])
  rw [hp0]
  have HC := Lib.hid hp
  clear hp h hp0
  go_enter Try.func54, Try.ntmps54
  go_wp2
  go_loopw [11] (fun i wr => wr = w ∧ ∃ k : Nat, k ≤ l.length ∧ i = .int .i64 k ∧ Hid ((l.take k).all p = true)) (fun i _ => l.length - (intOf i).toNat)
  case atStart => exact ⟨rfl, 0, Nat.zero_le _, rfl, Lib.hid (by simp)⟩
  case round =>
    obtain ⟨rfl, k, hk, rfl, HA⟩ := hrel
    by_cases hlt : k < l.length
    · obtain ⟨b, off, rfl, hbb, c1⟩ := HC.out k hlt
      have has := allN_take_succ 0 p l k hlt
      have hno := allN_not 0 p l k hlt
      obtain ⟨x, hel⟩ : ∃ t, l[k]?.getD 0 = t := ⟨_, rfl⟩
      rw [hel] at c1 has hno
      have HAS := Lib.hid has
      have HNO := Lib.hid hno
      clear hel has hno
      have hin : p x = (decide (lo ≤ x) && decide (x ≤ hi)) := HP0.out x
      by_cases h1 : x < lo
      · have HN := Lib.hid (HNO.out (by rw [hin]; simp; try (intros; omega)))
        clear hin
        go_wp2
        go_ret
        exact ⟨ret_bool (by rw [HN.out]), rfl⟩
      · by_cases h2 : hi < x
        · have HN := Lib.hid (HNO.out (by rw [hin]; simp [h2]; try (intros; omega)))
          clear hin
          go_wp2
          go_ret
          exact ⟨ret_bool (by rw [HN.out]), rfl⟩
        · have HY : Hid (p x = true) := Lib.hid (by rw [hin]; simp; omega)
          clear hin
          go_wp2
          go_roundw
          case rel => exact ⟨trivial, k + 1, by omega, by go_num, Lib.hid (by rw [HAS.out, HA.out, HY.out]; rfl)⟩
          case measure => simp [intOf]; omega
    · have hke : k = l.length := by omega
      have HA2 : Hid (l.all p = true) := Lib.hid (by have := HA.out; rwa [hke, List.take_length] at this)
      clear HA hke
      go_wp2
      go_ret
      exact ⟨ret_bool (by rw [HA2.out]), rfl⟩
end Go.Proofs.Ytopnlcjbklmicaa
