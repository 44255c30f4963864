/-
  Contracts of the program's own functions (and their plain mathematics), on the way to the law: each for all arguments that its hypotheses let.
-/
import Derived.Test.YtedpafdfecofnaaGreatDoorF25
import Derived.WalkKit
import Derived.WalkSpells
import Derived.WalkLawsBesides
import Derived.Deep.QuietTactic
import Derived.BigQuiet
import Derived.Lib.Hide
import Derived.WalkSmall
import Derived.Maps.OwnSet
import Derived.Maps.RangeWalk
import Derived.Deep.RegionWith
import Derived.Deep.RegionHeld3
import Derived.OneCell
import Derived.KernelRfl
import Derived.Laws.StructEq
import Derived.StillTailTactics
import Derived.Laws.Externs
import Derived.RangeFuncBox
import Derived.Test.YtedpafdfecofnaaGreatDoorPlain
import Derived.Deep.DrawnRows
import Derived.Deep.DeepCutAuto
set_option linter.unusedSimpArgs false
set_option linter.unusedVariables false

/-! ## S56 -/
namespace Go.Proofs.YtedpafdfecofnaaGreatDoor
open Go.RowKit Go.Maps Go.Shelf Go.Sort

/-- The cells of three numbers in one block. -/
def Six (w : World) (b : Nat) (a0 a1 a2 a3 a4 a5 : Value) (T : TypeId) : Prop := w.heap[b]? = some (.cells #[a0, a1, a2, a3, a4, a5] T (0, 0))
theorem Six.c0 {w : World} {b : Nat} {a0 a1 a2 a3 a4 a5 : Value} {T : TypeId} (h : Six w b a0 a1 a2 a3 a4 a5 T) : w.cell? ⟨b, 0, none⟩ = some a0 := by unfold Six at h; simp [World.cell?, h]
theorem Six.c1 {w : World} {b : Nat} {a0 a1 a2 a3 a4 a5 : Value} {T : TypeId} (h : Six w b a0 a1 a2 a3 a4 a5 T) : w.cell? ⟨b, 1, none⟩ = some a1 := by unfold Six at h; simp [World.cell?, h]
theorem Six.c2 {w : World} {b : Nat} {a0 a1 a2 a3 a4 a5 : Value} {T : TypeId} (h : Six w b a0 a1 a2 a3 a4 a5 T) : w.cell? ⟨b, 2, none⟩ = some a2 := by unfold Six at h; simp [World.cell?, h]
theorem Six.c3 {w : World} {b : Nat} {a0 a1 a2 a3 a4 a5 : Value} {T : TypeId} (h : Six w b a0 a1 a2 a3 a4 a5 T) : w.cell? ⟨b, 3, none⟩ = some a3 := by unfold Six at h; simp [World.cell?, h]
theorem Six.c4 {w : World} {b : Nat} {a0 a1 a2 a3 a4 a5 : Value} {T : TypeId} (h : Six w b a0 a1 a2 a3 a4 a5 T) : w.cell? ⟨b, 4, none⟩ = some a4 := by unfold Six at h; simp [World.cell?, h]
theorem Six.c5 {w : World} {b : Nat} {a0 a1 a2 a3 a4 a5 : Value} {T : TypeId} (h : Six w b a0 a1 a2 a3 a4 a5 T) : w.cell? ⟨b, 5, none⟩ = some a5 := by unfold Six at h; simp [World.cell?, h]
theorem Six.lt {w : World} {b : Nat} {a0 a1 a2 a3 a4 a5 : Value} {T : TypeId} (h : Six w b a0 a1 a2 a3 a4 a5 T) : b < w.heap.size := lt_of_block h
theorem Six.new (w : World) (a0 a1 a2 a3 a4 a5 : Value) (T : TypeId) : Six (w.alloc (.cells #[a0, a1, a2, a3, a4, a5] T)) w.heap.size a0 a1 a2 a3 a4 a5 T := by unfold Six World.alloc; simp
theorem Six.below {w w' : World} {b B : Nat} {a0 a1 a2 a3 a4 a5 : Value} {T : TypeId} (h : Six w b a0 a1 a2 a3 a4 a5 T) (hw : Below B w w') (hb : b < B) : Six w' b a0 a1 a2 a3 a4 a5 T := by
  unfold Six at *
  rw [hw.block b hb, h]
def okF (dx dy dz : Int) (lx ly lz : List (Int × Int)) : Bool := decide (lx.length ≤ 8) && decide (ly.length ≤ 8) && decide (lz.length ≤ 8) && validF dx lx && validF dy ly && validF dz lz
set_option maxRecDepth 100000 in
set_option maxHeartbeats 4000000 in
theorem ok_any (dx dy dz : Int) (vx vy vz : Value) (lx ly lz : List (Int × Int)) (w : World) (hx : TermsAt w vx lx) (hy : TermsAt w vy ly) (hz : TermsAt w vz lz) :
    Calls Tryz.prog 46 #[.agg #[.int .i64 dx, vx, .int .i64 dy, vy, .int .i64 dz, vz]] w (AnsB (okF dx dy dz lx ly lz) w) := by
  obtain ⟨ax, cx, rfl, _⟩ := hx.placed
  obtain ⟨ay, cy, rfl, _⟩ := hy.placed
  obtain ⟨az, cz, rfl, _⟩ := hz.placed
  have HB0 : Hid (Below w.heap.size w (w.alloc (.cells #[.int .i64 dx, .slice ax lx.length cx, .int .i64 dy, .slice ay ly.length cy, .int .i64 dz, .slice az lz.length cz] 58))) := Lib.hid ((Below.refl _ w).alloc (Nat.le_refl _) _)
  have HX0 := Lib.hid (hx.below HB0.out)
  have HY0 := Lib.hid (hy.below HB0.out)
  have HZ0 := Lib.hid (hz.below HB0.out)
  have X0 := Lib.hid (Six.new w (.int .i64 dx) (.slice ax lx.length cx) (.int .i64 dy) (.slice ay ly.length cy) (.int .i64 dz) (.slice az lz.length cz) 58)
  obtain ⟨r, hr⟩ : ∃ r, okF dx dy dz lx ly lz = r := ⟨_, rfl⟩
  rw [hr]
  have HR := Lib.hid hr
  clear hx hy hz hr
  go_enter Tryz.func46, Tryz.ntmps46
  go_wp2_with fail
  refine (long_any dx _ lx _ HX0.out).mono ?_
  rintro e w1 ⟨rfl, hb⟩
  have HB1 := Lib.hid (HB0.out.trans (hb.mono HB0.out.size))
  have HX1 := Lib.hid (HX0.out.below hb)
  have HY1 := Lib.hid (HY0.out.below hb)
  have HZ1 := Lib.hid (HZ0.out.below hb)
  have X1 := Lib.hid (X0.out.below hb (by simp))
  clear hb HX0 HY0 HZ0 HB0 X0
  by_cases hx : 8 < lx.length
  · have e : decide (8 < lx.length) = true := decide_eq_true hx
    rw [e]
    clear e
    have hq : okF dx dy dz lx ly lz = false := by
      have : decide (lx.length ≤ 8) = false := decide_eq_false (by omega)
      simp [okF, this]
    have hr0 : r = false := HR.out.symm.trans hq
    subst hr0
    clear hq hx HR
    go_wp2
    go_ret
    exact ⟨rfl, HB1.out⟩
  have e : decide (8 < lx.length) = false := decide_eq_false hx
  rw [e]
  clear e
  have Gx := Lib.hid hx
  clear hx
  have c0 := X1.out.c0
  have c1 := X1.out.c1
  have c2 := X1.out.c2
  have c3 := X1.out.c3
  have c4 := X1.out.c4
  have c5 := X1.out.c5
  have hz1 : w.heap.size < w1.heap.size := X1.out.lt
  go_wp2_with fail
  refine (long_any dy _ ly _ HY1.out).mono ?_
  rintro e w2 ⟨rfl, hb⟩
  have HB2 := Lib.hid (HB1.out.trans (hb.mono HB1.out.size))
  have HX2 := Lib.hid (HX1.out.below hb)
  have HY2 := Lib.hid (HY1.out.below hb)
  have HZ2 := Lib.hid (HZ1.out.below hb)
  have X2 := Lib.hid (X1.out.below hb X1.out.lt)
  clear hb HX1 HY1 HZ1 HB1 X1 c0 c1 c2 c3 c4 c5
  by_cases hy : 8 < ly.length
  · have e : decide (8 < ly.length) = true := decide_eq_true hy
    rw [e]
    clear e
    have hq : okF dx dy dz lx ly lz = false := by
      have : decide (ly.length ≤ 8) = false := decide_eq_false (by omega)
      simp [okF, this]
    have hr0 : r = false := HR.out.symm.trans hq
    subst hr0
    clear hq hy HR
    go_wp2
    go_ret
    exact ⟨rfl, HB2.out⟩
  have e : decide (8 < ly.length) = false := decide_eq_false hy
  rw [e]
  clear e
  have Gy := Lib.hid hy
  clear hy
  have c0 := X2.out.c0
  have c1 := X2.out.c1
  have c2 := X2.out.c2
  have c3 := X2.out.c3
  have c4 := X2.out.c4
  have c5 := X2.out.c5
  have hz2 : w.heap.size < w2.heap.size := X2.out.lt
  go_wp2_with fail
  refine (long_any dz _ lz _ HZ2.out).mono ?_
  rintro e w3 ⟨rfl, hb⟩
  have HB3 := Lib.hid (HB2.out.trans (hb.mono HB2.out.size))
  have HX3 := Lib.hid (HX2.out.below hb)
  have HY3 := Lib.hid (HY2.out.below hb)
  have HZ3 := Lib.hid (HZ2.out.below hb)
  have X3 := Lib.hid (X2.out.below hb X2.out.lt)
  clear hb HX2 HY2 HZ2 HB2 X2 c0 c1 c2 c3 c4 c5
  by_cases hz : 8 < lz.length
  · have e : decide (8 < lz.length) = true := decide_eq_true hz
    rw [e]
    clear e
    have hq : okF dx dy dz lx ly lz = false := by
      have : decide (lz.length ≤ 8) = false := decide_eq_false (by omega)
      simp [okF, this]
    have hr0 : r = false := HR.out.symm.trans hq
    subst hr0
    clear hq hz HR
    go_wp2
    go_ret
    exact ⟨rfl, HB3.out⟩
  have e : decide (8 < lz.length) = false := decide_eq_false hz
  rw [e]
  clear e
  have Gz := Lib.hid hz
  clear hz
  have c0 := X3.out.c0
  have c1 := X3.out.c1
  have c2 := X3.out.c2
  have c3 := X3.out.c3
  have c4 := X3.out.c4
  have c5 := X3.out.c5
  have hz3 : w.heap.size < w3.heap.size := X3.out.lt
  go_wp2_with fail
  refine (own_any dx _ lx _ HX3.out (by have := Gx.out; omega)).mono ?_
  rintro e w4 ⟨v4, rfl, ht, hb, _⟩
  have HB4 := Lib.hid (HB3.out.trans (hb.mono HB3.out.size))
  have HX4 := Lib.hid (HX3.out.below hb)
  have HY4 := Lib.hid (HY3.out.below hb)
  have HZ4 := Lib.hid (HZ3.out.below hb)
  have X4 := Lib.hid (X3.out.below hb X3.out.lt)
  have HT4 := Lib.hid ht
  clear hb ht HX3 HY3 HZ3 HB3 X3 c0 c1 c2 c3 c4 c5 hz3
  go_wp2_with fail
  refine (check_any dx _ lx _ HT4.out).mono ?_
  rintro e w5 ⟨rfl, hb⟩
  have HB5 := Lib.hid (HB4.out.trans (hb.mono HB4.out.size))
  have HX5 := Lib.hid (HX4.out.below hb)
  have HY5 := Lib.hid (HY4.out.below hb)
  have HZ5 := Lib.hid (HZ4.out.below hb)
  have X5 := Lib.hid (X4.out.below hb X4.out.lt)
  clear hb HT4 HX4 HY4 HZ4 HB4 X4
  by_cases hx : validF dx lx = true
  rotate_left
  · rw [if_neg hx]
    have hq : okF dx dy dz lx ly lz = false := by
      have : validF dx lx = false := by simpa using hx
      simp [okF, this]
    have hr0 : r = false := HR.out.symm.trans hq
    subst hr0
    clear hq hx HR
    go_wp2
    go_ret
    exact ⟨rfl, HB5.out⟩
  rw [if_pos hx]
  have Vx := Lib.hid hx
  clear hx
  have c0 := X5.out.c0
  have c1 := X5.out.c1
  have c2 := X5.out.c2
  have c3 := X5.out.c3
  have c4 := X5.out.c4
  have c5 := X5.out.c5
  have hz5 : w.heap.size < w5.heap.size := X5.out.lt
  go_wp2_with fail
  refine (own_any dy _ ly _ HY5.out (by have := Gy.out; omega)).mono ?_
  rintro e w6 ⟨v6, rfl, ht, hb, _⟩
  have HB6 := Lib.hid (HB5.out.trans (hb.mono HB5.out.size))
  have HX6 := Lib.hid (HX5.out.below hb)
  have HY6 := Lib.hid (HY5.out.below hb)
  have HZ6 := Lib.hid (HZ5.out.below hb)
  have X6 := Lib.hid (X5.out.below hb X5.out.lt)
  have HT6 := Lib.hid ht
  clear hb ht HX5 HY5 HZ5 HB5 X5 c0 c1 c2 c3 c4 c5 hz5
  go_wp2_with fail
  refine (check_any dy _ ly _ HT6.out).mono ?_
  rintro e w7 ⟨rfl, hb⟩
  have HB7 := Lib.hid (HB6.out.trans (hb.mono HB6.out.size))
  have HX7 := Lib.hid (HX6.out.below hb)
  have HY7 := Lib.hid (HY6.out.below hb)
  have HZ7 := Lib.hid (HZ6.out.below hb)
  have X7 := Lib.hid (X6.out.below hb X6.out.lt)
  clear hb HT6 HX6 HY6 HZ6 HB6 X6
  by_cases hy : validF dy ly = true
  rotate_left
  · rw [if_neg hy]
    have hq : okF dx dy dz lx ly lz = false := by
      have : validF dy ly = false := by simpa using hy
      simp [okF, this]
    have hr0 : r = false := HR.out.symm.trans hq
    subst hr0
    clear hq hy HR
    go_wp2
    go_ret
    exact ⟨rfl, HB7.out⟩
  rw [if_pos hy]
  have Vy := Lib.hid hy
  clear hy
  have c0 := X7.out.c0
  have c1 := X7.out.c1
  have c2 := X7.out.c2
  have c3 := X7.out.c3
  have c4 := X7.out.c4
  have c5 := X7.out.c5
  have hz7 : w.heap.size < w7.heap.size := X7.out.lt
  go_wp2_with fail
  refine (own_any dz _ lz _ HZ7.out (by have := Gz.out; omega)).mono ?_
  rintro e w8 ⟨v8, rfl, ht, hb, _⟩
  have HB8 := Lib.hid (HB7.out.trans (hb.mono HB7.out.size))
  have HX8 := Lib.hid (HX7.out.below hb)
  have HY8 := Lib.hid (HY7.out.below hb)
  have HZ8 := Lib.hid (HZ7.out.below hb)
  have X8 := Lib.hid (X7.out.below hb X7.out.lt)
  have HT8 := Lib.hid ht
  clear hb ht HX7 HY7 HZ7 HB7 X7 c0 c1 c2 c3 c4 c5 hz7
  go_wp2_with fail
  refine (check_any dz _ lz _ HT8.out).mono ?_
  rintro e w9 ⟨rfl, hb⟩
  have HB9 := Lib.hid (HB8.out.trans (hb.mono HB8.out.size))
  have HX9 := Lib.hid (HX8.out.below hb)
  have HY9 := Lib.hid (HY8.out.below hb)
  have HZ9 := Lib.hid (HZ8.out.below hb)
  have X9 := Lib.hid (X8.out.below hb X8.out.lt)
  clear hb HT8 HX8 HY8 HZ8 HB8 X8
  by_cases hz : validF dz lz = true
  rotate_left
  · rw [if_neg hz]
    have hq : okF dx dy dz lx ly lz = false := by
      have : validF dz lz = false := by simpa using hz
      simp [okF, this]
    have hr0 : r = false := HR.out.symm.trans hq
    subst hr0
    clear hq hz HR
    go_wp2
    go_ret
    exact ⟨rfl, HB9.out⟩
  rw [if_pos hz]
  have Vz := Lib.hid hz
  clear hz
  have hq : okF dx dy dz lx ly lz = true := by
    have h1 := Gx.out
    have h2 := Gy.out
    have h3 := Gz.out
    simp [okF, Vx.out, Vy.out, Vz.out]
    omega
  have hr0 : r = true := HR.out.symm.trans hq
  subst hr0
  clear hq HR
  go_wp2
  go_ret
  exact ⟨rfl, HB9.out⟩
end Go.Proofs.YtedpafdfecofnaaGreatDoor

/-! ## S57 -/
namespace Go.Proofs.YtedpafdfecofnaaGreatDoor
open Go.RowKit Go.Maps Go.Shelf Go.Sort
attribute [local go_sem ↓] Go.wp_at_zero Go.wp_at_succ
theorem Below.chain {W a b : World} (h : Below W.heap.size W a) (g : Below a.heap.size a b) : Below W.heap.size W b := h.trans (g.mono h.size)
/-- What a statement 'v, e := f(own(x), own(y))' leaves: a block of two cells, and an error. -/
def Mid (P : Int × List (Int × Int) × Int → Prop) (W : World) (p q : Value) (w' : World) : Prop :=
  ∃ b r v, p = .pointer (some ⟨b, 0, none⟩) ∧ q = .int .i64 r.2.2 ∧ P r ∧ Two w' b (.int .i64 r.1) v 24 ∧ TermsAt w' v r.2.1 ∧ W.heap.size ≤ b ∧ Below W.heap.size W w' ∧ ∀ k, v.ownBlock = some k → W.heap.size ≤ k
theorem mid_close {P : Int × List (Int × Int) × Int → Prop} {W w3 : World} {b : Nat} {r : Int × List (Int × Int) × Int} {a : Option Addr} {n c : Nat} (RX : Two w3 b (.int .i64 0) (.slice none 0 0) 24) (hP : P r) (ht : TermsAt w3 (.slice a n c) r.2.1)
    (hk : ∀ k, (Value.slice a n c).ownBlock = some k → b < k) (hb : W.heap.size ≤ b) (B3 : Below W.heap.size W w3) : Mid P W (.pointer (some ⟨b, 0, none⟩)) (.int .i64 r.2.2) ((w3.setCell ⟨b, 0, none⟩ (.int .i64 r.1)).setCell ⟨b, 1, none⟩ (.slice a n c)) := by
  obtain ⟨d0, d1, d2, hg⟩ := two_after RX (.int .i64 r.1) (.slice a n c) rfl
  refine ⟨b, r, _, rfl, rfl, hP, (RX.set0 _).set1 _ rfl, ht.kept hg ?_, hb, (B3.setCell hb _).setCell hb _, fun k h => by have := hk k h; omega⟩
  cases hv : (Value.slice a n c).ownBlock with
  | none => exact .inl rfl
  | some k => right; have := hk k hv; intro e; have := Option.some.inj e; omega
theorem mid_new {P : Int × List (Int × Int) × Int → Prop} {W w3 : World} {r : Int × List (Int × Int) × Int} {v : Value} (hP : P r) (ht : TermsAt w3 v r.2.1) (hk : ∀ k, v.ownBlock = some k → W.heap.size ≤ k) (B3 : Below W.heap.size W w3) :
    Mid P W (.pointer (some ⟨w3.heap.size, 0, none⟩)) (.int .i64 r.2.2) (w3.alloc (.cells #[.int .i64 r.1, v] 24)) := ⟨w3.heap.size, r, v, rfl, rfl, hP, Two.new w3 _ _ 24, ht.alloc _, B3.size, B3.alloc B3.size _, hk⟩
def TwiceTo (F G : Int → List (Int × Int) → Int → List (Int × Int) → Int × List (Int × Int) × Int → Prop) (dx dy dz : Int) (lx ly lz : List (Int × Int)) (w : World) (e : Ending) (w' : World) : Prop :=
  ∃ r1 r2 v, F dx lx dy ly r1 ∧ G r1.1 r1.2.1 dz lz r2 ∧ e = .returned (.tuple #[.agg #[.int .i64 r2.1, v], .bool (decide (r1.2.2 = 0) && decide (r2.2.2 = 0))]) ∧ TermsAt w' v r2.2.1 ∧ Below w.heap.size w w' ∧ ∀ k, v.ownBlock = some k → w.heap.size ≤ k
def OpC (f : Nat) (F : Int → List (Int × Int) → Int → List (Int × Int) → Int × List (Int × Int) × Int → Prop) : Prop :=
  ∀ dx dy vx vy lx ly w, TermsAt w vx lx → TermsAt w vy ly → Calls Tryz.prog f #[.agg #[.int .i64 dx, vx], .agg #[.int .i64 dy, vy]] w (NumP (F dx lx dy ly) w)
theorem OpC.call {f : Nat} {F : Int → List (Int × Int) → Int → List (Int × Int) → Int × List (Int × Int) × Int → Prop} (h : OpC f F) (dx dy : Int) (vx vy : Value) (lx ly : List (Int × Int)) (w : World) (hx : TermsAt w vx lx) (hy : TermsAt w vy ly) : Calls Tryz.prog f #[.agg #[.int .i64 dx, vx], .agg #[.int .i64 dy, vy]] w (NumP (F dx lx dy ly) w) := h dx dy vx vy lx ly w hx hy
end Go.Proofs.YtedpafdfecofnaaGreatDoor
