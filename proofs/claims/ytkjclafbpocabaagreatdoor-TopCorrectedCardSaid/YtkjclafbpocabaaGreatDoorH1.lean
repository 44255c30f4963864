/-
  Contracts of the program's own functions (and their plain mathematics), on the way to the law: each for all arguments that its hypotheses let.
-/
import Derived.Test.YtkjclafbpocabaaGreatDoorG8
import Derived.WalkKit
import Derived.WalkSpells
import Derived.WalkLawsBesides
import Derived.Deep.QuietTactic
import Derived.BigQuiet
import Derived.Lib.Hide
import Derived.WalkSmall
import Derived.Maps.OwnSet
import Derived.Maps.RangeWalk
import Derived.Deep.RegionWith
import Derived.Deep.RegionHeld3
import Derived.Deep.DrawnRows
import Derived.Deep.DeepCutAuto
import Derived.OneCell
import Derived.KernelRfl
import Derived.Laws.StructEq
import Derived.StillTailTactics
import Derived.Laws.Externs
import Derived.RangeFuncBox
import Derived.Lib.ItoaNum
import Derived.Lib.Strings
set_option linter.unusedSimpArgs false
set_option linter.unusedVariables false

/-! ## Zq -/
namespace Go.Proofs.YtkjclafbpocabaaGreatDoor
open Go.RowKit Go.Maps
/-- A list of ints that a slice holds. -/
def MarksCz (w : World) (b off : Nat) (l : List Int) : Prop := ∀ i, i < l.length → w.cell? ⟨b, off + i, none⟩ = some (.int .i64 (l[i]?.getD 0))
def MarksAtz (w : World) (v : Value) (l : List Int) : Prop :=
  l.length ≤ 17592186043904 ∧ ((l = [] ∧ ∃ a cap, v = .slice a 0 cap) ∨ ∃ b off cap, v = .slice (some ⟨b, off, none⟩) l.length cap ∧ l.length ≤ cap ∧ b < w.heap.size ∧ MarksCz w b off l)
theorem MarksCz.below {w w' : World} {b off : Nat} {l : List Int} {B : Nat} (h : MarksCz w b off l) (hb : b < B) (hw : Below B w w') : MarksCz w' b off l :=
  fun i hi => (hw.cell (p := ⟨b, _, none⟩) hb).trans (h i hi)
theorem MarksAtz.below {w w' : World} {v : Value} {l : List Int} (h : MarksAtz w v l) (hw : Below w.heap.size w w') : MarksAtz w' v l := by
  obtain ⟨hl, h | ⟨b, off, cap, hv, hcap, hb, hc⟩⟩ := h
  · exact ⟨hl, .inl h⟩
  · exact ⟨hl, .inr ⟨b, off, cap, hv, hcap, Nat.lt_of_lt_of_le hb hw.size, hc.below hb hw⟩⟩
theorem MarksAtz.belowB {w w' : World} {v : Value} {l : List Int} {B : Nat} (h : MarksAtz w v l) (hB : ∀ k, v.ownBlock = some k → k < B) (hw : Below B w w') (hs : w.heap.size ≤ w'.heap.size) : MarksAtz w' v l := by
  obtain ⟨hl, h | ⟨b, off, cap, rfl, hcap, hb, hc⟩⟩ := h
  · exact ⟨hl, .inl h⟩
  · exact ⟨hl, .inr ⟨b, off, cap, rfl, hcap, Nat.lt_of_lt_of_le hb hs, hc.below (hB b rfl) hw⟩⟩
theorem MarksAtz.alloc {w : World} {v : Value} {l : List Int} (h : MarksAtz w v l) (o : Obj) : MarksAtz (w.alloc o) v l := h.below ((Below.refl _ _).alloc (Nat.le_refl _) _)
theorem MarksAtz.drew {w : World} {v : Value} {l : List Int} (h : MarksAtz w v l) : MarksAtz w.drew v l := h.below (Below.refl _ _).drew
def PlacedMz (w : World) (a : Option Addr) (l : List Int) : Prop :=
  ∀ i, i < l.length → ∃ b off, a = some ⟨b, off, none⟩ ∧ b < w.heap.size ∧ w.cell? ⟨b, off + i, none⟩ = some (.int .i64 (l[i]?.getD 0))
theorem MarksAtz.placed {w : World} {v : Value} {l : List Int} (h : MarksAtz w v l) : ∃ a cap, v = .slice a l.length cap ∧ l.length ≤ 17592186043904 ∧ PlacedMz w a l := by
  obtain ⟨hl, ⟨rfl, a, cap, rfl⟩ | ⟨b, off, cap, rfl, hcap, hb, hc⟩⟩ := h
  · exact ⟨a, cap, rfl, by simp, fun i hi => by simp at hi⟩
  · exact ⟨_, cap, rfl, hl, fun i hi => ⟨b, off, rfl, hb, hc i hi⟩⟩
theorem marksAt_nilz (w : World) (a : Option Addr) (cap : Nat) : MarksAtz w (.slice a 0 cap) [] := ⟨by simp, .inl ⟨rfl, a, cap, rfl⟩⟩
/-- The pieces of an old fraction: whether each is taken away, and its marks. -/
def PiecesCz (w : World) (b off : Nat) (l : List (Bool × List Int)) : Prop :=
  ∀ i, i < l.length → w.cell? ⟨b, off + i * 2, none⟩ = some (.bool (l[i]?.getD (false, [])).1) ∧ ∃ vm, w.cell? ⟨b, off + i * 2 + 1, none⟩ = some vm ∧ MarksAtz w vm (l[i]?.getD (false, [])).2
def PiecesAtz (w : World) (v : Value) (l : List (Bool × List Int)) : Prop :=
  l.length ≤ 8796093022208 ∧ ((l = [] ∧ ∃ a cap, v = .slice a 0 cap) ∨ ∃ b off cap, v = .slice (some ⟨b, off, none⟩) l.length cap ∧ l.length ≤ cap ∧ b < w.heap.size ∧ PiecesCz w b off l)
theorem PiecesCz.below {w w' : World} {b off : Nat} {l : List (Bool × List Int)} (h : PiecesCz w b off l) (hb : b < w.heap.size) (hw : Below w.heap.size w w') : PiecesCz w' b off l :=
  fun i hi => ⟨(hw.cell (p := ⟨b, _, none⟩) hb).trans (h i hi).1, by
    obtain ⟨vm, h1, h2⟩ := (h i hi).2
    exact ⟨vm, (hw.cell (p := ⟨b, _, none⟩) hb).trans h1, h2.below hw⟩⟩
theorem PiecesAtz.below {w w' : World} {v : Value} {l : List (Bool × List Int)} (h : PiecesAtz w v l) (hw : Below w.heap.size w w') : PiecesAtz w' v l := by
  obtain ⟨hl, h | ⟨b, off, cap, hv, hcap, hb, hc⟩⟩ := h
  · exact ⟨hl, .inl h⟩
  · exact ⟨hl, .inr ⟨b, off, cap, hv, hcap, Nat.lt_of_lt_of_le hb hw.size, hc.below hb hw⟩⟩
theorem PiecesAtz.alloc {w : World} {v : Value} {l : List (Bool × List Int)} (h : PiecesAtz w v l) (o : Obj) : PiecesAtz (w.alloc o) v l := h.below ((Below.refl _ _).alloc (Nat.le_refl _) _)
theorem PiecesAtz.drew {w : World} {v : Value} {l : List (Bool × List Int)} (h : PiecesAtz w v l) : PiecesAtz w.drew v l := h.below (Below.refl _ _).drew
def PlacedPz (w : World) (a : Option Addr) (l : List (Bool × List Int)) : Prop :=
  ∀ i, i < l.length → ∃ b off, a = some ⟨b, off, none⟩ ∧ b < w.heap.size ∧ w.cell? ⟨b, off + i * 2, none⟩ = some (.bool (l[i]?.getD (false, [])).1) ∧ ∃ vm, w.cell? ⟨b, off + i * 2 + 1, none⟩ = some vm ∧ MarksAtz w vm (l[i]?.getD (false, [])).2
theorem PiecesAtz.placed {w : World} {v : Value} {l : List (Bool × List Int)} (h : PiecesAtz w v l) : ∃ a cap, v = .slice a l.length cap ∧ l.length ≤ 8796093022208 ∧ PlacedPz w a l := by
  obtain ⟨hl, ⟨rfl, a, cap, rfl⟩ | ⟨b, off, cap, rfl, hcap, hb, hc⟩⟩ := h
  · exact ⟨a, cap, rfl, by simp, fun i hi => by simp at hi⟩
  · exact ⟨_, cap, rfl, hl, fun i hi => ⟨b, off, rfl, hb, hc i hi⟩⟩
theorem piecesAt_nilz (w : World) (a : Option Addr) (cap : Nat) : PiecesAtz w (.slice a 0 cap) [] := ⟨by simp, .inl ⟨rfl, a, cap, rfl⟩⟩
theorem PlacedMz.below {w w' : World} {a : Option Addr} {l : List Int} (h : PlacedMz w a l) (hw : Below w.heap.size w w') : PlacedMz w' a l := fun i hi => by
  obtain ⟨b, off, e, hb, hc⟩ := h i hi
  exact ⟨b, off, e, Nat.lt_of_lt_of_le hb hw.size, (hw.cell (p := ⟨b, _, none⟩) hb).trans hc⟩
theorem PlacedPz.below {w w' : World} {a : Option Addr} {l : List (Bool × List Int)} (h : PlacedPz w a l) (hw : Below w.heap.size w w') : PlacedPz w' a l := fun i hi => by
  obtain ⟨b, off, e, hb, hc, vm, h1, h2⟩ := h i hi
  exact ⟨b, off, e, Nat.lt_of_lt_of_le hb hw.size, (hw.cell (p := ⟨b, _, none⟩) hb).trans hc, vm, (hw.cell (p := ⟨b, _, none⟩) hb).trans h1, h2.below hw⟩
end Go.Proofs.YtkjclafbpocabaaGreatDoor

/-! ## Zr -/
namespace Go.Proofs.YtkjclafbpocabaaGreatDoor
open Go.RowKit Go.Maps
theorem notMarkz (bx : Nat) (x : Int) (w : World) (hb : w.cell? ⟨bx, 0, none⟩ = some (.func (.func 135) #[] #[])) :
    Calls Tryz.prog 194 #[.int .i64 x, .pointer (some ⟨bx, 0, none⟩)] w fun e w' => e = .returned (.bool (!isMarkF x)) ∧ w' = w := by
  go_enter Tryz.func194, Tryz.ntmps194
  go_wp2_with fail
  refine (isMark_any x _).mono ?_
  rintro e w2 ⟨rfl, rfl⟩
  go_wp2
  go_ret
  exact ⟨rfl, rfl⟩
set_option maxHeartbeats 1000000 in
theorem index_intz (bx : Nat) (v : Value) (l : List Int) (w : World) (h : MarksAtz w v l) (hb : w.cell? ⟨bx, 0, none⟩ = some (.func (.func 135) #[] #[])) (hbx : bx < w.heap.size) :
    Calls Tryz.prog 226 #[v, .func (.func 194) #[] #[.pointer (some ⟨bx, 0, none⟩)]] w fun e w' => ∃ k : Int, e = .returned (.int .i64 k) ∧ Hid (0 ≤ k ↔ l.all isMarkF = false) ∧ Below w.heap.size w w' := by
  obtain ⟨a, cap, rfl, hl, hp⟩ := h.placed
  have HC := Lib.hid hp
  have HBX := Lib.hid hb
  clear hp hb h
  go_enter Tryz.func226, Tryz.ntmps226
  go_wp2
  go_loopw [5, 8] (fun _ i wr => ∃ k : Nat, k ≤ l.length ∧ i = .int .i64 k ∧ Hid ((l.take k).all isMarkF = true) ∧ Hid (Below w.heap.size w wr)) (fun _ i _ => l.length - (intOf i).toNat)
  case atStart => exact ⟨0, Nat.zero_le _, rfl, Lib.hid (by simp), Lib.hid (Below.refl _ _)⟩
  case round =>
    obtain ⟨k, hk, rfl, HA, HB⟩ := hrel
    by_cases hlt : k < l.length
    · obtain ⟨b, off, rfl, hbb, c1⟩ := HC.out k hlt
      have c1 := (HB.out.cell (p := ⟨b, _, none⟩) hbb).trans c1
      have has := allN_take_succ 0 isMarkF l k hlt
      have hno := allN_not 0 isMarkF l k hlt
      obtain ⟨x, hel⟩ : ∃ t, l[k]?.getD 0 = t := ⟨_, rfl⟩
      rw [hel] at c1 has hno
      have HAS := Lib.hid has
      have HNO := Lib.hid hno
      have hbx2 := (HB.out.cell (p := ⟨bx, 0, none⟩) hbx).trans HBX.out
      have HBX2 := Lib.hid hbx2
      clear hel has hno hbx2
      go_wp2_with fail
      refine (notMarkz bx x _ HBX2.out).mono ?_
      rintro e w2 ⟨rfl, rfl⟩
      cases hp : isMarkF x
      · have HP := Lib.hid (HNO.out hp)
        clear hp
        go_wp2
        go_ret
        exact ⟨(k : Int), rfl, Lib.hid ⟨fun _ => HP.out, fun _ => by omega⟩, HB.out⟩
      · have HP := Lib.hid hp
        clear hp
        go_wp2
        go_roundw
        case rel => exact ⟨k + 1, by omega, by go_num, Lib.hid (by rw [HAS.out, HA.out]; exact HP.out), HB⟩
        case measure => simp [intOf]; omega
    · have hke : k = l.length := by omega
      have HA2 : Hid (l.all isMarkF = true) := Lib.hid (by have := HA.out; rwa [hke, List.take_length] at this)
      clear HA hke
      go_wp2
      go_ret
      exact ⟨-1, rfl, Lib.hid ⟨fun h => by omega, fun h => by rw [HA2.out] at h; cases h⟩, HB.out⟩
theorem contains_intz (bx : Nat) (v : Value) (l : List Int) (w : World) (h : MarksAtz w v l) (hb : w.cell? ⟨bx, 0, none⟩ = some (.func (.func 135) #[] #[])) (hbx : bx < w.heap.size) :
    Calls Tryz.prog 193 #[v, .func (.func 194) #[] #[.pointer (some ⟨bx, 0, none⟩)]] w (AnsB (!l.all isMarkF) w) := by
  have hi := index_intz bx v l w h hb hbx
  obtain ⟨a, cap, rfl, _⟩ := h.placed
  have HI := Lib.hid hi
  clear hi hb h
  go_enter Tryz.func193, Tryz.ntmps193
  go_wp2_with fail
  refine HI.out.mono ?_
  rintro e w2 ⟨k, rfl, hk, hb2⟩
  have HB2 := Lib.hid hb2
  clear hb2
  by_cases hk0 : 0 ≤ k
  · have HA := Lib.hid (hk.out.1 hk0)
    clear hk
    go_wp2
    go_ret
    exact ⟨ret_bool (by rw [HA.out]; simp; try omega), HB2.out⟩
  · have HA : Hid (l.all isMarkF = true) := Lib.hid (by cases h : l.all isMarkF with | true => rfl | false => exact absurd (hk.out.2 h) hk0)
    clear hk
    go_wp2
    go_ret
    exact ⟨ret_bool (by rw [HA.out]; simp; try omega), HB2.out⟩
theorem every_intz (v : Value) (l : List Int) (w : World) (h : MarksAtz w v l) :
    Calls Tryz.prog 137 #[.func (.func 135) #[] #[], v] w (AnsB (l.all isMarkF) w) := by
  have BB : Hid (Below w.heap.size w (w.alloc (.cells #[.func (.func 135) #[] #[]] 179))) := Lib.hid ((Below.refl _ _).alloc (Nat.le_refl _) _)
  have hnew := (cell_new1 w (.func (.func 135) #[] #[]) 179).1
  have hc := contains_intz w.heap.size v l _ (h.below BB.out) hnew (by simp)
  obtain ⟨a, cap, rfl, _⟩ := h.placed
  have HC := Lib.hid hc
  clear hc hnew h
  go_enter Tryz.func137, Tryz.ntmps137
  go_wp2_with fail
  refine HC.out.mono ?_
  rintro e w2 ⟨rfl, hb2⟩
  have HB2 := Lib.hid (BB.out.trans (hb2.mono BB.out.size))
  clear hb2
  go_wp2
  go_ret
  exact ⟨ret_bool (by simp), HB2.out⟩
def isPieceFz (p : Bool × List Int) : Bool := inB p.2.length 1 6 && p.2.all isMarkF
theorem isPiece_anyz (m : Bool) (v : Value) (l : List Int) (w : World) (h : MarksAtz w v l) :
    Calls Tryz.prog 85 #[.agg #[.bool m, v]] w (AnsB (isPieceFz (m, l)) w) := by
  obtain ⟨a, cap, rfl, hl, _⟩ := h.placed
  have BB : Hid (Below w.heap.size w (w.alloc (.cells #[.bool m, .slice a l.length cap] 87))) := Lib.hid ((Below.refl _ _).alloc (Nat.le_refl _) _)
  have X := Two.new w (.bool m) (.slice a l.length cap) 87
  have x1 := X.c1
  have HE := Lib.hid (every_intz _ _ _ (h.below BB.out))
  have hF : isPieceFz (m, l) = (inB l.length 1 6 && l.all isMarkF) := rfl
  have HF := Lib.hid hF
  clear hF h X
  go_enter Tryz.func85, Tryz.ntmps85
  go_wp2_with fail
  refine (cwithin_any l.length 1 6 _).mono ?_
  rintro e w2 ⟨rfl, rfl⟩
  cases hi : inB l.length 1 6
  · have HI := Lib.hid hi
    clear hi
    go_wp2
    go_ret
    exact ⟨ret_bool (by rw [HF.out, HI.out]; simp), BB.out⟩
  · have HI := Lib.hid hi
    clear hi
    go_wp2_with fail
    refine HE.out.mono ?_
    rintro e w3 ⟨rfl, hb3⟩
    have HB3 := Lib.hid (BB.out.trans (hb3.mono BB.out.size))
    clear hb3
    go_wp2
    go_ret
    exact ⟨ret_bool (by rw [HF.out, HI.out]; simp), HB3.out⟩
end Go.Proofs.YtkjclafbpocabaaGreatDoor

/-! ## ZB1 -/
namespace Go.Proofs.YtkjclafbpocabaaGreatDoor
open Go.RowKit Go.Maps
theorem notPiece (bx : Nat) (m : Bool) (v : Value) (l : List Int) (w : World) (h : MarksAtz w v l) (hb : w.cell? ⟨bx, 0, none⟩ = some (.func (.func 85) #[] #[])) (hbx : bx < w.heap.size) :
    Calls Tryz.prog 187 #[.agg #[.bool m, v], .pointer (some ⟨bx, 0, none⟩)] w (AnsB (!isPieceFz (m, l)) w) := by
  have HT := Lib.hid h
  clear h
  have BB : Hid (Below w.heap.size w (w.alloc (.cells #[.bool m, v] 87))) := Lib.hid ((Below.refl _ _).alloc (Nat.le_refl _) _)
  have hc2 := (BB.out.cell (p := ⟨bx, 0, none⟩) hbx).trans hb
  go_enter Tryz.func187, Tryz.ntmps187
  go_wp2_with fail
  refine (isPiece_anyz m v l _ (HT.out.below BB.out)).mono ?_
  rintro e w2 ⟨rfl, hb2⟩
  have HB := Lib.hid (BB.out.trans (hb2.mono BB.out.size))
  clear hb2
  go_wp2
  go_ret
  exact ⟨rfl, HB.out⟩
abbrev PiecesL := List (Bool × List Int)
set_option maxHeartbeats 1000000 in
theorem index_piece (bx : Nat) (v : Value) (l : PiecesL) (w : World) (h : PiecesAtz w v l) (hb : w.cell? ⟨bx, 0, none⟩ = some (.func (.func 85) #[] #[])) (hbx : bx < w.heap.size) :
    Calls Tryz.prog 223 #[v, .func (.func 187) #[] #[.pointer (some ⟨bx, 0, none⟩)]] w fun e w' => ∃ k : Int, e = .returned (.int .i64 k) ∧ Hid (0 ≤ k ↔ l.all isPieceFz = false) ∧ Below w.heap.size w w' := by
  obtain ⟨a, cap, rfl, hl, hp⟩ := h.placed
  have HC := Lib.hid hp
  have HBX := Lib.hid hb
  clear hp hb h
  go_enter Tryz.func223, Tryz.ntmps223
  go_wp2
  go_loopw [5, 8] (fun _ i wr => ∃ k : Nat, k ≤ l.length ∧ i = .int .i64 k ∧ Hid ((l.take k).all isPieceFz = true) ∧ Hid (Below w.heap.size w wr)) (fun _ i _ => l.length - (intOf i).toNat)
  case atStart => exact ⟨0, Nat.zero_le _, rfl, Lib.hid (by simp), Lib.hid (Below.refl _ _)⟩
  case round =>
    obtain ⟨k, hk, rfl, HA, HB⟩ := hrel
    by_cases hlt : k < l.length
    · obtain ⟨b, off, rfl, hbb, c1, vt, c2, ht⟩ := HC.out k hlt
      have c1 := (HB.out.cell (p := ⟨b, _, none⟩) hbb).trans c1
      have c2 := (HB.out.cell (p := ⟨b, _, none⟩) hbb).trans c2
      have has := allN_take_succ (false, []) isPieceFz l k hlt
      have hno := allN_not (false, []) isPieceFz l k hlt
      obtain ⟨⟨m, t⟩, hel⟩ : ∃ t, l[k]?.getD (false, []) = t := ⟨_, rfl⟩
      rw [hel] at c1 ht has hno
      simp only at c1 ht
      have HT := Lib.hid (ht.below HB.out)
      have HAS := Lib.hid has
      have HNO := Lib.hid hno
      have hbx2 := (HB.out.cell (p := ⟨bx, 0, none⟩) hbx).trans HBX.out
      have HBX2 := Lib.hid hbx2
      have hsz : bx < wr.heap.size := Nat.lt_of_lt_of_le hbx HB.out.size
      clear hel has hno ht hbx2
      go_wp2_with fail
      refine (notPiece bx m vt t _ HT.out HBX2.out hsz).mono ?_
      rintro e w2 ⟨rfl, hb2⟩
      have HB2 := Lib.hid (HB.out.trans (hb2.mono HB.out.size))
      clear hb2
      cases hp : isPieceFz (m, t)
      · have HP := Lib.hid (HNO.out hp)
        clear hp
        go_wp2
        go_ret
        exact ⟨(k : Int), rfl, Lib.hid ⟨fun _ => HP.out, fun _ => by omega⟩, HB2.out⟩
      · have HP := Lib.hid hp
        clear hp
        go_wp2
        go_roundw
        case rel => exact ⟨k + 1, by omega, by go_num, Lib.hid (by rw [HAS.out, HA.out]; exact HP.out), HB2⟩
        case measure => simp [intOf]; omega
    · have hke : k = l.length := by omega
      have HA2 : Hid (l.all isPieceFz = true) := Lib.hid (by have := HA.out; rwa [hke, List.take_length] at this)
      clear HA hke
      go_wp2
      go_ret
      exact ⟨-1, rfl, Lib.hid ⟨fun h => by omega, fun h => by rw [HA2.out] at h; cases h⟩, HB.out⟩
theorem contains_piece (bx : Nat) (v : Value) (l : PiecesL) (w : World) (h : PiecesAtz w v l) (hb : w.cell? ⟨bx, 0, none⟩ = some (.func (.func 85) #[] #[])) (hbx : bx < w.heap.size) :
    Calls Tryz.prog 186 #[v, .func (.func 187) #[] #[.pointer (some ⟨bx, 0, none⟩)]] w (AnsB (!l.all isPieceFz) w) := by
  have hi := index_piece bx v l w h hb hbx
  obtain ⟨a, cap, rfl, _⟩ := h.placed
  have HI := Lib.hid hi
  clear hi hb h
  go_enter Tryz.func186, Tryz.ntmps186
  go_wp2_with fail
  refine HI.out.mono ?_
  rintro e w2 ⟨k, rfl, hk, hb2⟩
  have HB2 := Lib.hid hb2
  clear hb2
  by_cases hk0 : 0 ≤ k
  · have HA := Lib.hid (hk.out.1 hk0)
    clear hk
    go_wp2
    go_ret
    exact ⟨ret_bool (by rw [HA.out]; simp; try omega), HB2.out⟩
  · have HA : Hid (l.all isPieceFz = true) := Lib.hid (by cases h : l.all isPieceFz with | true => rfl | false => exact absurd (hk.out.2 h) hk0)
    clear hk
    go_wp2
    go_ret
    exact ⟨ret_bool (by rw [HA.out]; simp; try omega), HB2.out⟩
theorem every_piece (v : Value) (l : PiecesL) (w : World) (h : PiecesAtz w v l) :
    Calls Tryz.prog 128 #[.func (.func 85) #[] #[], v] w (AnsB (l.all isPieceFz) w) := by
  have BB : Hid (Below w.heap.size w (w.alloc (.cells #[.func (.func 85) #[] #[]] 112))) := Lib.hid ((Below.refl _ _).alloc (Nat.le_refl _) _)
  have hnew := (cell_new1 w (.func (.func 85) #[] #[]) 112).1
  have hc := contains_piece w.heap.size v l _ (h.below BB.out) hnew (by simp)
  obtain ⟨a, cap, rfl, _⟩ := h.placed
  have HC := Lib.hid hc
  clear hc hnew h
  go_enter Tryz.func128, Tryz.ntmps128
  go_wp2_with fail
  refine HC.out.mono ?_
  rintro e w2 ⟨rfl, hb2⟩
  have HB2 := Lib.hid (BB.out.trans (hb2.mono BB.out.size))
  clear hb2
  go_wp2
  go_ret
  exact ⟨ret_bool (by simp), HB2.out⟩
/-- Whether an old fraction is valid. -/
def oldF (o : Int × PiecesL) : Bool := inB o.1 0 1000 && (decide (o.2.length ≤ 8) && o.2.all isPieceFz)
theorem valid_old (n : Int) (v : Value) (l : PiecesL) (w : World) (h : PiecesAtz w v l) :
    Calls Tryz.prog 71 #[.agg #[.int .i64 n, v]] w (AnsB (oldF (n, l)) w) := by
  obtain ⟨a, cap, rfl, hl, _⟩ := h.placed
  have BB : Hid (Below w.heap.size w (w.alloc (.cells #[.int .i64 n, .slice a l.length cap] 24))) := Lib.hid ((Below.refl _ _).alloc (Nat.le_refl _) _)
  have X := Two.new w (.int .i64 n) (.slice a l.length cap) 24
  have x0 := X.c0
  have x1 := X.c1
  have HE := Lib.hid (every_piece _ _ _ (h.below BB.out))
  have hF : oldF (n, l) = (inB n 0 1000 && (decide (l.length ≤ 8) && l.all isPieceFz)) := rfl
  have HF := Lib.hid hF
  clear hF h X
  go_enter Tryz.func71, Tryz.ntmps71
  go_wp2_with fail
  refine (cwithin_any n 0 1000 _).mono ?_
  rintro e w2 ⟨rfl, rfl⟩
  cases hi : inB n 0 1000
  · have HI := Lib.hid hi
    clear hi
    go_wp2
    go_ret
    exact ⟨ret_bool (by rw [HF.out, HI.out]; simp), BB.out⟩
  · have HI := Lib.hid hi
    clear hi
    by_cases hl8 : l.length ≤ 8
    · have HL := Lib.hid hl8
      have h8 : (l.length : Int) ≤ 8 := by omega
      clear hl8
      go_wp2_with fail
      refine HE.out.mono ?_
      rintro e w3 ⟨rfl, hb3⟩
      have HB3 := Lib.hid (BB.out.trans (hb3.mono BB.out.size))
      clear hb3
      go_wp2
      go_ret
      exact ⟨ret_bool (by rw [HF.out, HI.out]; simp [HL.out]), HB3.out⟩
    · have HL := Lib.hid hl8
      have h8 : ¬ (l.length : Int) ≤ 8 := by omega
      clear hl8
      go_wp2
      go_ret
      exact ⟨ret_bool (by rw [HF.out, HI.out]; simp [HL.out]), BB.out⟩
def oldE (o : Int × PiecesL) : Int := if oldF o = true then 0 else 2
theorem check_old (n : Int) (v : Value) (l : PiecesL) (w : World) (h : PiecesAtz w v l) :
    Calls Tryz.prog 21 #[.agg #[.int .i64 n, v]] w fun e w' => e = .returned (.int .i64 (oldE (n, l))) ∧ Below w.heap.size w w' := by
  have BB : Hid (Below w.heap.size w (w.alloc (.cells #[.int .i64 n, v] 24))) := Lib.hid ((Below.refl _ _).alloc (Nat.le_refl _) _)
  have HE := Lib.hid (valid_old n v l _ (h.below BB.out))
  obtain ⟨a, cap, rfl, hl, _⟩ := h.placed
  have hF : oldE (n, l) = if oldF (n, l) = true then 0 else 2 := rfl
  have HF := Lib.hid hF
  clear hF h
  go_enter Tryz.func21, Tryz.ntmps21
  go_wp2_with fail
  refine HE.out.mono ?_
  rintro e w2 ⟨rfl, hb2⟩
  have HB2 := Lib.hid (BB.out.trans (hb2.mono BB.out.size))
  clear hb2
  cases hi : oldF (n, l)
  all_goals
    have HI := Lib.hid hi
    clear hi
    go_wp2
    go_ret
    exact ⟨by rw [HF.out, HI.out]; rfl, HB2.out⟩
end Go.Proofs.YtkjclafbpocabaaGreatDoor

/-! ## ZC1 -/
namespace Go.Proofs.YtkjclafbpocabaaGreatDoor
open Go.RowKit Go.Maps
def prodF (l : List Int) : Int := l.foldl (· * ·) 1
theorem prodF_succ (l : List Int) (k : Nat) (h : k < l.length) : prodF (l.take (k + 1)) = prodF (l.take k) * (l[k]?.getD 0) := by
  unfold prodF
  rw [List.take_succ_eq_append_getElem h, List.foldl_append]; simp [h]
theorem foldl_mul (l : List Int) : ∀ a : Int, l.foldl (· * ·) a = a * prodF l := by
  unfold prodF
  induction l with
  | nil => intro a; simp
  | cons x l ih => intro a; simp only [List.foldl_cons]; rw [ih (a * x), ih (1 * x)]; grind
theorem prodF_append (a b : List Int) : prodF (a ++ b) = prodF a * prodF b := by
  have : prodF (a ++ b) = b.foldl (· * ·) (prodF a) := by unfold prodF; rw [List.foldl_append]
  rw [this, foldl_mul]
theorem prodF_le (B : Int) (hB : 1 ≤ B) : ∀ l : List Int, (∀ x ∈ l, 1 ≤ x ∧ x ≤ B) → 1 ≤ prodF l ∧ prodF l ≤ B ^ l.length
  | [], _ => by simp [prodF]
  | x :: l, h => by
    have hx := h x (by simp)
    have h2 := prodF_le B hB l (fun y hy => h y (by simp [hy]))
    have e : prodF (x :: l) = x * prodF l := by have := prodF_append [x] l; simpa [prodF] using this
    rw [e, List.length_cons, Int.pow_succ]
    have h3 := Int.mul_le_mul hx.1 h2.1 (by omega) (by omega)
    have h4 := Int.mul_le_mul hx.2 h2.2 (by omega) (by omega)
    refine ⟨by omega, ?_⟩
    rw [Int.mul_comm (B ^ l.length) B]; exact h4
theorem pow_1000 (n : Nat) (h : n ≤ 6) : (1000 : Int) ^ n ≤ 1000000000000000000 := by
  have : n = 0 ∨ n = 1 ∨ n = 2 ∨ n = 3 ∨ n = 4 ∨ n = 5 ∨ n = 6 := by omega
  rcases this with rfl | rfl | rfl | rfl | rfl | rfl | rfl <;> decide
def MarksOk (l : List Int) : Prop := l.length ≤ 6 ∧ ∀ x ∈ l, 2 ≤ x ∧ x ≤ 1000
theorem marksOk_of {m : Bool} {l : List Int} (h : isPieceFz (m, l) = true) : MarksOk l ∧ l ≠ [] := by
  unfold isPieceFz inB at h
  simp only [Bool.and_eq_true, decide_eq_true_eq, List.all_eq_true] at h
  refine ⟨⟨by omega, fun x hx => ?_⟩, fun e => by rw [e] at h; simp at h⟩
  have := h.2 x hx
  unfold isMarkF inB at this
  simp only [Bool.and_eq_true, decide_eq_true_eq] at this
  exact this
theorem MarksOk.prod {l : List Int} (h : MarksOk l) : 1 ≤ prodF l ∧ prodF l ≤ 1000000000000000000 := by
  have h1 := prodF_le 1000 (by omega) l (fun x hx => by have := h.2 x hx; omega)
  have h2 := pow_1000 l.length h.1
  omega
theorem MarksOk.take {l : List Int} (h : MarksOk l) (k : Nat) : MarksOk (l.take k) := ⟨by rw [List.length_take]; have := h.1; omega, fun x hx => h.2 x (List.mem_of_mem_take hx)⟩
set_option maxHeartbeats 1000000 in
theorem product_any' (v : Value) (l : List Int) (w : World) (h : MarksAtz w v l) (ho : MarksOk l) :
    Calls Tryz.prog 131 #[v] w fun e w' => e = .returned (.int .i64 (prodF l)) ∧ Below w.heap.size w w' := by
  obtain ⟨a, cap, rfl, hl, hp⟩ := h.placed
  have HC := Lib.hid hp
  have HO := Lib.hid ho
  clear hp h ho
  go_enter Tryz.func131, Tryz.ntmps131
  go_wp2
  go_loopw [3, 8] (fun p i wr => ∃ k : Nat, k ≤ l.length ∧ i = .int .i64 k ∧ (∃ q : Int, p = .int .i64 q ∧ Hid (q = prodF (l.take k))) ∧ Hid (Below w.heap.size w wr)) (fun _ i _ => l.length - (intOf i).toNat)
  case atStart => exact ⟨0, Nat.zero_le _, rfl, ⟨1, rfl, Lib.hid rfl⟩, Lib.hid (Below.refl _ _)⟩
  case round =>
    obtain ⟨k, hk, rfl, ⟨q, rfl, HQ⟩, HB⟩ := hrel
    by_cases hlt : k < l.length
    · obtain ⟨b, off, rfl, hbb, c1⟩ := HC.out k hlt
      have c1 := (HB.out.cell (p := ⟨b, _, none⟩) hbb).trans c1
      have hs := prodF_succ l k hlt
      have hbd := (HO.out.take (k + 1)).prod
      obtain ⟨x, hel⟩ : ∃ t, l[k]?.getD 0 = t := ⟨_, rfl⟩
      rw [hel] at c1 hs
      rw [hs, ← HQ.out] at hbd
      obtain ⟨hb1, hb2⟩ := hbd
      have HS : Hid (q * x = prodF (l.take (k + 1))) := Lib.hid (by rw [hs, HQ.out])
      clear hel hs
      go_wp2
      go_roundw
      case rel => exact ⟨k + 1, by omega, by go_num, ⟨q * x, by first | rfl | go_num, HS⟩, HB⟩
      case measure => simp [intOf]; omega
    · have hke : k = l.length := by omega
      have HA2 : Hid (q = prodF l) := Lib.hid (by have := HQ.out; rwa [hke, List.take_length] at this)
      clear HQ hke
      go_wp2
      go_ret
      exact ⟨by rw [HA2.out]; rfl, HB.out⟩
def signE (m : Bool) : Value := .agg #[.int .i64 (if m = true then -1 else 1), .string ⟨(if m = true then [45, 49, 47] else [43, 49, 47] : List UInt8).toArray⟩]
def signI (m : Bool) : Int := if m = true then -1 else 1
def SignsAt (w : World) (B : Nat) : Prop := w.heap[B]? = some (.map #[{ key := .bool false, val := signE false, born := 0 }, { key := .bool true, val := signE true, born := 1 }] 2)
theorem undBool : Tryz.prog.underlying 4 = some .bool := by kernel_rfl
theorem undSigns : Tryz.prog.underlying 172 = some (.map 4 171) := by kernel_rfl
theorem SignsAt.look {w : World} {B : Nat} (h : SignsAt w B) (m : Bool) : (Instr.lookup 172 (.map (some B)) (.bool m) false).run Tryz.prog w = .ok (signE m) w := by
  have hc : ∀ b, (Instr.checkKey b 10000 4 (.bool m)).run Tryz.prog w = .ok () w := fun b => MapKept.run_checkKey (k := .bool m) undBool (by simp [MapKept.IsKey]) b 9999
  have hf : Instr.findNow .bool (.bool m) ([{ key := .bool false, val := signE false, born := 0 }, { key := .bool true, val := signE true, born := 1 }] : List MapEntry) 0 = some (some (if m = true then 1 else 0, signE m)) := by cases m <;> rfl
  simp [Instr.lookup, run_underlying undSigns, MapKept.run_getObj_map h, hc, MapKept.run_findKey undBool hf, Result.andThen]
theorem insert_first (r : Nat) (w : World) (v : Value) (hb : w.heap[r]? = some (.map #[] 0)) (m : Bool) :
    (Instr.mapUpdate 172 (.map (some r)) (.bool m) v).run Tryz.prog w = .ok () (w.putObj r (.map #[{ key := .bool m, val := v, born := 0 }] 1)) := by
  have hf : Instr.findNow .bool (.bool m) ([] : List MapEntry) 0 = some none := rfl
  have hc : (Instr.checkKey false 10000 4 (.bool m)).run Tryz.prog w = .ok () w := MapKept.run_checkKey (k := .bool m) undBool (by simp [MapKept.IsKey]) false 9999
  simp [Instr.mapUpdate, run_underlying undSigns, MapKept.run_getObj_map hb, hc, MapKept.run_findKey undBool hf, MapKept.run_setObj_map _ hb, Result.andThen, World.putObj]
theorem insert_second (r : Nat) (w : World) (v u : Value) (hb : w.heap[r]? = some (.map #[{ key := .bool false, val := u, born := 0 }] 1)) :
    (Instr.mapUpdate 172 (.map (some r)) (.bool true) v).run Tryz.prog w = .ok () (w.putObj r (.map #[{ key := .bool false, val := u, born := 0 }, { key := .bool true, val := v, born := 1 }] 2)) := by
  have hf : Instr.findNow .bool (.bool true) ([{ key := .bool false, val := u, born := 0 }] : List MapEntry) 0 = some none := rfl
  have hc : (Instr.checkKey false 10000 4 (.bool true)).run Tryz.prog w = .ok () w := MapKept.run_checkKey (k := .bool true) undBool (by simp [MapKept.IsKey]) false 9999
  simp [Instr.mapUpdate, run_underlying undSigns, MapKept.run_getObj_map hb, hc, MapKept.run_findKey undBool hf, MapKept.run_setObj_map _ hb, Result.andThen, World.putObj]
def SignsTo (w : World) (e : Ending) (w' : World) : Prop := ∃ B, e = .returned (.map (some B)) ∧ w.heap.size ≤ B ∧ B < w'.heap.size ∧ SignsAt w' B ∧ Below w.heap.size w w'
theorem heap_putObj_same (w : World) (r : Nat) (o : Obj) (h : r < w.heap.size) : (w.putObj r o).heap[r]? = some o := by
  simp [World.putObj, h]
theorem below_putObj {w w' : World} {B r : Nat} (h : Below B w w') (hr : B ≤ r) (o : Obj) : Below B w (w'.putObj r o) := by
  obtain ⟨h1, h2, h3, h4, h5⟩ := h
  refine ⟨h1, h2, h3, by simpa [World.putObj] using h4, fun i hi => ?_⟩
  have := h5 i hi
  have hne : ¬ r = i := by omega
  simpa [World.putObj, Array.getElem?_setIfInBounds, hne] using this
theorem signs_any (w : World) : Calls Tryz.prog 130 #[] w (SignsTo w) := by
  have hmm := @run_makeMap Tryz.prog
  have h0 : (w.alloc (.map #[] 0)).heap[w.heap.size]? = some (.map #[] 0) := World.alloc_heap_new w _
  have i1 := insert_first w.heap.size (w.alloc (.map #[] 0)) (signE false) h0 false
  have h1 := heap_putObj_same (w.alloc (.map #[] 0)) w.heap.size (.map #[{ key := .bool false, val := signE false, born := 0 }] 1) (by simp)
  have i2 := insert_second w.heap.size _ (signE true) (signE false) h1
  have h2 := heap_putObj_same ((w.alloc (.map #[] 0)).putObj w.heap.size (.map #[{ key := .bool false, val := signE false, born := 0 }] 1)) w.heap.size (.map #[{ key := .bool false, val := signE false, born := 0 }, { key := .bool true, val := signE true, born := 1 }] 2) (by simp [World.putObj])
  have BB := below_putObj (below_putObj ((Below.refl _ w).alloc (Nat.le_refl _) (.map #[] 0)) (Nat.le_refl _) (.map #[{ key := .bool false, val := signE false, born := 0 }] 1)) (Nat.le_refl _) (.map #[{ key := .bool false, val := signE false, born := 0 }, { key := .bool true, val := signE true, born := 1 }] 2)
  have HH := Lib.hid h2
  have HB := Lib.hid BB
  obtain ⟨W2, hW2⟩ : ∃ W2, ((w.alloc (.map #[] 0)).putObj w.heap.size (.map #[{ key := .bool false, val := signE false, born := 0 }] 1)).putObj w.heap.size (.map #[{ key := .bool false, val := signE false, born := 0 }, { key := .bool true, val := signE true, born := 1 }] 2) = W2 := ⟨_, rfl⟩
  rw [hW2] at i2 HH HB
  obtain ⟨W1, hW1⟩ : ∃ W1, (w.alloc (.map #[] 0)).putObj w.heap.size (.map #[{ key := .bool false, val := signE false, born := 0 }] 1) = W1 := ⟨_, rfl⟩
  rw [hW1] at i1 i2
  clear hW1 hW2 h0 h1 h2 BB
  unfold signE at i1 i2
  simp at i1 i2
  go_enter Tryz.func130, Tryz.ntmps130
  go_wp2
  go_ret
  exact ⟨w.heap.size, rfl, Nat.le_refl _, (Array.getElem?_eq_some_iff.1 HH.out).1, HH.out, HB.out⟩
end Go.Proofs.YtkjclafbpocabaaGreatDoor
