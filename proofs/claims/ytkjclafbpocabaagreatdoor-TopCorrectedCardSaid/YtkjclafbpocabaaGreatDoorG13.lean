/-
  Contracts of the program's own functions (and their plain mathematics), on the way to the law: each for all arguments that its hypotheses let.
-/
import Derived.Test.YtkjclafbpocabaaGreatDoorG12
import Derived.WalkKit
import Derived.WalkSpells
import Derived.WalkLawsBesides
import Derived.Deep.QuietTactic
import Derived.BigQuiet
import Derived.Lib.Hide
import Derived.WalkSmall
import Derived.Maps.OwnSet
import Derived.Maps.RangeWalk
import Derived.Deep.RegionWith
import Derived.Deep.RegionHeld3
import Derived.OneCell
import Derived.KernelRfl
import Derived.Laws.StructEq
import Derived.StillTailTactics
import Derived.Laws.Externs
import Derived.RangeFuncBox
import Derived.Test.YtkjclafbpocabaaGreatDoorPlain
set_option linter.unusedSimpArgs false
set_option linter.unusedVariables false

/-! ## S39 -/
namespace Go.Proofs.YtkjclafbpocabaaGreatDoor
open Go.RowKit Go.Maps Go.Shelf Go.Sort

theorem Two.drew {w : World} {b : Nat} {x y : Value} {T : TypeId} (h : Two w b x y T) : Two w.drew b x y T := h
theorem WordsAt.drew {w : World} {v : Value} {ws : List Nat} (h : WordsAt w v ws) : WordsAt w.drew v ws := h.below (Below.refl _ w).drew
theorem ranges_below {w w' : World} {k e : TypeId} {b r n cnt : Nat} {D : DataW Unit} {left : Lit → Bool} (h : w.ranges Tryz.prog k (plainElem Tryz.prog e) b r n D left cnt) (hw : Below w.heap.size w w') : w'.ranges Tryz.prog k (plainElem Tryz.prog e) b r n D left cnt := by
  have h1 := h.owns.lt
  have h2 := h.lt
  obtain ⟨es, clock, since, seen, c0, hb, F, hs, hD, hr, rest⟩ := h
  exact ⟨es, clock, since, seen, c0, (hw.block b h1).trans hb, F, hs, hD, (hw.block r h2).trans hr, rest⟩
/-- The bounds of the parts above 0, or below 0. -/
def encP (f : Int → Nat) (ts : List (Int × Int)) : Nat := (ts.map fun t => t.1.toNat * f t.2).sum
def encN (f : Int → Nat) (ts : List (Int × Int)) : Nat := (ts.map fun t => (-t.1).toNat * f t.2).sum
def fQ (D : Nat) (r : Int) : Nat := isq (r.toNat * 4 ^ D)
def fQ1 (D : Nat) (r : Int) : Nat := isq (r.toNat * 4 ^ D) + 1
theorem encP_snoc (f : Int → Nat) (ts : List (Int × Int)) (t : Int × Int) : encP f (ts ++ [t]) = encP f ts + t.1.toNat * f t.2 := by unfold encP; simp
theorem encN_snoc (f : Int → Nat) (ts : List (Int × Int)) (t : Int × Int) : encN f (ts ++ [t]) = encN f ts + (-t.1).toNat * f t.2 := by unfold encN; simp
theorem encP_le (f : Int → Nat) (ts : List (Int × Int)) (C F : Nat) (h : ∀ t ∈ ts, t.1.toNat ≤ C ∧ f t.2 ≤ F) : encP f ts ≤ ts.length * (C * F) := by
  induction ts with
  | nil => simp [encP]
  | cons t ts ih =>
    have h1 := ih (fun u hu => h u (by simp [hu]))
    have h2 := h t (by simp)
    have h3 := Nat.mul_le_mul h2.1 h2.2
    have e : encP f (t :: ts) = t.1.toNat * f t.2 + encP f ts := rfl
    rw [e, List.length_cons, Nat.add_mul, Nat.one_mul]; omega
theorem encN_le (f : Int → Nat) (ts : List (Int × Int)) (C F : Nat) (h : ∀ t ∈ ts, (-t.1).toNat ≤ C ∧ f t.2 ≤ F) : encN f ts ≤ ts.length * (C * F) := by
  induction ts with
  | nil => simp [encN]
  | cons t ts ih =>
    have h1 := ih (fun u hu => h u (by simp [hu]))
    have h2 := h t (by simp)
    have h3 := Nat.mul_le_mul h2.1 h2.2
    have e : encN f (t :: ts) = (-t.1).toNat * f t.2 + encN f ts := rfl
    rw [e, List.length_cons, Nat.add_mul, Nat.one_mul]; omega
theorem isq_le' {a b : Nat} (h : a ≤ b * b) : isq a ≤ b := by
  have h1 := (isq_spec a).1
  apply Classical.byContradiction
  intro hc
  have := Nat.mul_le_mul (show b + 1 ≤ isq a by omega) (show b + 1 ≤ isq a by omega)
  have e : (b + 1) * (b + 1) = b * b + 2 * b + 1 := by rw [Nat.add_mul, Nat.mul_add]; omega
  omega
theorem fQ_le (D : Nat) (r : Int) (hr : r ≤ 1000) : fQ1 D r ≤ 2 ^ (D + 6) := by
  have h1 : r.toNat * 4 ^ D ≤ (32 * 2 ^ D) * (32 * 2 ^ D) := by
    have e : (32 * 2 ^ D) * (32 * 2 ^ D) = 1024 * 4 ^ D := by rw [Nat.mul_mul_mul_comm, ← Nat.mul_pow]
    rw [e]; exact Nat.mul_le_mul_right _ (by omega)
  have h2 := isq_le' h1
  unfold fQ1
  have h3 : 1 ≤ 2 ^ D := Nat.one_le_two_pow
  rw [Nat.pow_add]
  omega
/-- The words of what is added up are few. -/
theorem few_words (D m L : Nat) (hD : D ≤ 7000) (hL : L ≤ 1000) (h : m ≤ L * (9223372036854775808 * 2 ^ (D + 6))) : (toW m).length ≤ 1000 := by
  obtain ⟨K, hK⟩ : ∃ K, K = 1000 := ⟨_, rfl⟩
  rw [← hK]
  apply toW_len_le
  have h3 : ∀ e, 18446744073709551616 ^ e = 2 ^ (64 * e) := fun e => by rw [show (18446744073709551616 : Nat) = 2 ^ 64 from rfl, ← Nat.pow_mul]
  rw [h3]
  have h4 : L * (9223372036854775808 * 2 ^ (D + 6)) ≤ 1024 * (2 ^ 63 * 2 ^ (D + 6)) := Nat.mul_le_mul (by omega) (Nat.le_refl _)
  have e : 1024 * (2 ^ 63 * 2 ^ (D + 6)) = 2 ^ (10 + (63 + (D + 6))) := by rw [Nat.pow_add 2 10, Nat.pow_add 2 63]
  rw [e] at h4
  exact Nat.lt_of_le_of_lt (Nat.le_trans h h4) (Nat.pow_lt_pow_right (by decide) (by omega))

/-- While the bounds of one root are added to those of its side. -/
structure EJ (w wr : World) (B n : Nat) (D : DataW Unit) (left : Lit → Bool) (cnt sb ob : Nat) (vl vh x0 x1 y0 y1 : Value) (q0 q1 a0 a1 b0 b1 : Nat) : Prop where
  rg : wr.ranges Tryz.prog 3 (plainElem Tryz.prog 3) B (w.heap.size + 1 + 1) n D left cnt
  s : Two wr sb x0 x1 206
  o : Two wr ob y0 y1 206
  wl : WordsAt wr vl (toW q0)
  wh : WordsAt wr vh (toW q1)
  wx0 : WordsAt wr x0 (toW a0)
  wx1 : WordsAt wr x1 (toW a1)
  wy0 : WordsAt wr y0 (toW b0)
  wy1 : WordsAt wr y1 (toW b1)
  bw : Below w.heap.size w wr
theorem words_range {w w' : World} {k e : TypeId} {b r n cnt : Nat} {D : DataW Unit} {left : Lit → Bool} {v : Value} {ws : List Nat} (hv : WordsAt w v ws) (h : w.ranges Tryz.prog k (plainElem Tryz.prog e) b r n D left cnt) (hg : w.grownBy w' (some r)) : WordsAt w' v ws := by
  obtain ⟨hl, hv | ⟨g, off, cap, hv, hcap, hb, hc⟩⟩ := hv
  · exact ⟨hl, .inl hv⟩
  · refine ⟨hl, .inr ⟨g, off, cap, hv, hcap, Nat.lt_of_lt_of_le hb hg.size, fun i hi => hg.cell (hc i hi) ?_⟩⟩
    intro e
    have e := Option.some.inj e
    subst e
    obtain ⟨es, clock, since, seen, c0, _, F, hs, hD, hr, rest⟩ := h
    have h1 := hc i hi
    simp [World.cell?, hr] at h1
theorem EJ.next {w wr w' : World} {B n : Nat} {D : DataW Unit} {left left' : Lit → Bool} {cnt cnt' sb ob : Nat} {vl vh x0 x1 y0 y1 : Value} {q0 q1 a0 a1 b0 b1 : Nat} (h : EJ w wr B n D left cnt sb ob vl vh x0 x1 y0 y1 q0 q1 a0 a1 b0 b1) (hg : wr.grownBy w' (some (w.heap.size + 1 + 1))) (hr : w'.ranges Tryz.prog 3 (plainElem Tryz.prog 3) B (w.heap.size + 1 + 1) n D left' cnt') (hs : sb ≠ w.heap.size + 1 + 1 ∧ ob ≠ w.heap.size + 1 + 1) : EJ w w' B n D left' cnt' sb ob vl vh x0 x1 y0 y1 q0 q1 a0 a1 b0 b1 :=
  ⟨hr, h.s.kept hg (by intro e; have := Option.some.inj e; omega), h.o.kept hg (by intro e; have := Option.some.inj e; omega), words_range h.wl h.rg hg, words_range h.wh h.rg hg, words_range h.wx0 h.rg hg, words_range h.wx1 h.rg hg, words_range h.wy0 h.rg hg, words_range h.wy1 h.rg hg, h.bw.grown hg h.bw.size (fun k hk => by have := Option.some.inj hk; omega)⟩
theorem EJ.below {w wr w' : World} {B n : Nat} {D : DataW Unit} {left : Lit → Bool} {cnt sb ob : Nat} {vl vh x0 x1 y0 y1 : Value} {q0 q1 a0 a1 b0 b1 : Nat} (h : EJ w wr B n D left cnt sb ob vl vh x0 x1 y0 y1 q0 q1 a0 a1 b0 b1) (hb : Below wr.heap.size wr w') : EJ w w' B n D left cnt sb ob vl vh x0 x1 y0 y1 q0 q1 a0 a1 b0 b1 :=
  ⟨ranges_below h.rg hb, h.s.below hb h.s.lt, h.o.below hb h.o.lt, h.wl.below hb, h.wh.below hb, h.wx0.below hb, h.wx1.below hb, h.wy0.below hb, h.wy1.below hb, h.bw.trans (hb.mono h.bw.size)⟩
theorem WordsAt.kept' {w w' : World} {v x y : Value} {ws : List Nat} {A B : List Nat} {b : Nat} {T : TypeId} (h : WordsAt w v ws) (ht : Two w b x y T) (hx : WordsAt w x A) (hy : WordsAt w y B) (hg : w.grownBy w' (some b)) : WordsAt w' v ws := by
  obtain ⟨a0, c0, rfl⟩ := hx.shape
  obtain ⟨a1, c1, rfl⟩ := hy.shape
  exact h.kept ht hg
theorem EJ.set0 {w wr : World} {B n : Nat} {D : DataW Unit} {left : Lit → Bool} {cnt sb ob : Nat} {vl vh x0 x1 y0 y1 : Value} {q0 q1 a0 a1 b0 b1 : Nat} (h : EJ w wr B n D left cnt sb ob vl vh x0 x1 y0 y1 q0 q1 a0 a1 b0 b1) (u : Value) (a : Nat) (hu : WordsAt wr u (toW a)) (hs : w.heap.size ≤ sb ∧ sb ≠ ob ∧ sb ≠ w.heap.size + 1 + 1 ∧ B < w.heap.size) : EJ w (wr.setCell ⟨sb, 0, none⟩ u) B n D left cnt sb ob vl vh u x1 y0 y1 q0 q1 a a1 b0 b1 :=
  have hg : wr.grownBy (wr.setCell ⟨sb, 0, none⟩ u) (some sb) := grownBy_setCell wr ⟨sb, 0, none⟩ u
  have k : ∀ {v : Value} {ws : List Nat}, WordsAt wr v ws → WordsAt (wr.setCell ⟨sb, 0, none⟩ u) v ws := fun hv => hv.kept' h.s h.wx0 h.wx1 hg
  ⟨h.rg.kept hg (by intro e; have := Option.some.inj e; omega) (by intro e; have := Option.some.inj e; omega), h.s.set0 u, h.o.kept hg (by intro e; have := Option.some.inj e; omega), k h.wl, k h.wh, k hu, k h.wx1, k h.wy0, k h.wy1, h.bw.setCell hs.1 u⟩
theorem EJ.set1 {w wr : World} {B n : Nat} {D : DataW Unit} {left : Lit → Bool} {cnt sb ob : Nat} {vl vh x0 x1 y0 y1 : Value} {q0 q1 a0 a1 b0 b1 : Nat} (h : EJ w wr B n D left cnt sb ob vl vh x0 x1 y0 y1 q0 q1 a0 a1 b0 b1) (u : Value) (a : Nat) (hu : WordsAt wr u (toW a)) (hs : w.heap.size ≤ sb ∧ sb ≠ ob ∧ sb ≠ w.heap.size + 1 + 1 ∧ B < w.heap.size) : EJ w (wr.setCell ⟨sb, 1, none⟩ u) B n D left cnt sb ob vl vh x0 u y0 y1 q0 q1 a0 a b0 b1 := by
  have hg : wr.grownBy (wr.setCell ⟨sb, 1, none⟩ u) (some sb) := grownBy_setCell wr ⟨sb, 1, none⟩ u
  have k : ∀ {v : Value} {ws : List Nat}, WordsAt wr v ws → WordsAt (wr.setCell ⟨sb, 1, none⟩ u) v ws := fun hv => hv.kept' h.s h.wx0 h.wx1 hg
  obtain ⟨a0, c0, rfl⟩ := hu.shape
  exact ⟨h.rg.kept hg (by intro e; have := Option.some.inj e; omega) (by intro e; have := Option.some.inj e; omega), h.s.set1 _ rfl, h.o.kept hg (by intro e; have := Option.some.inj e; omega), k h.wl, k h.wh, k h.wx0, k hu, k h.wy0, k h.wy1, h.bw.setCell hs.1 _⟩
theorem EJ.swap {w wr : World} {B n : Nat} {D : DataW Unit} {left : Lit → Bool} {cnt sb ob : Nat} {vl vh x0 x1 y0 y1 : Value} {q0 q1 a0 a1 b0 b1 : Nat} (h : EJ w wr B n D left cnt sb ob vl vh x0 x1 y0 y1 q0 q1 a0 a1 b0 b1) : EJ w wr B n D left cnt ob sb vl vh y0 y1 x0 x1 q0 q1 b0 b1 a0 a1 :=
  ⟨h.rg, h.o, h.s, h.wl, h.wh, h.wy0, h.wy1, h.wx0, h.wx1, h.bw⟩
/-- While the map is gone through. -/
def EI (w wr : World) (B n dig : Nat) (D : DataW Unit) (c : Int → Int) (left : Lit → Bool) (cnt : Nat) (ts : List (Int × Int)) : Prop :=
  (∃ x0 x1 y0 y1, EJ w wr B n D left cnt w.heap.size (w.heap.size + 1) (.slice none 0 0) (.slice none 0 0) x0 x1 y0 y1 0 0 (encP (fQ dig) ts) (encP (fQ1 dig) ts) (encN (fQ dig) ts) (encN (fQ1 dig) ts)) ∧ Coll D c left ts ∧ (∀ t ∈ ts, left (.int .i64 t.2) = false) ∧ ts.length + cnt ≤ n
def EncTo (dig : Nat) (c : Int → Int) (w : World) (e : Ending) (w' : World) : Prop :=
  ∃ ts v u, IsColl c ts ∧ ts.length ≤ 1000 ∧ e = .returned (.tuple #[v, u]) ∧ EncAt w' v (encP (fQ dig) ts) (encP (fQ1 dig) ts) ∧ EncAt w' u (encN (fQ dig) ts) (encN (fQ1 dig) ts) ∧ Below w.heap.size w w'

set_option maxRecDepth 100000 in
set_option maxHeartbeats 4000000 in
theorem enclose_any (D0 : Nat) (B n : Nat) (c : Int → Int) (w : World) (hs : OwnSum w B n c) (hn : n ≤ 1000) (hD0 : D0 ≤ 6900)
    (hcr : Hid (∀ r, c r ≠ 0 → 1 ≤ r ∧ r ≤ 1000)) (hcb : Hid (∀ r, -9000000000000000000 ≤ c r ∧ c r ≤ 9000000000000000000)) :
    Calls Tryz.prog 215 #[.map (some B), .int .i64 (26 + D0 : Nat)] w (EncTo (26 + D0) c w) := by
  obtain ⟨D, hown, hsd⟩ := hs
  have HSD := Lib.hid hsd
  have hBl := hown.lt
  clear hsd
  obtain ⟨dig, hdig⟩ : ∃ dig, 26 + D0 = dig := ⟨_, rfl⟩
  have HRD : Hid (∀ (m : Nat) (w : World), 1 ≤ m → m ≤ 1000 → Calls Tryz.prog 234 #[.int .i64 m, .int .i64 dig] w (NatTo (isq (m * 4 ^ dig)) w)) := Lib.hid (fun m w h1 h2 => by rw [← hdig]; exact rootDigits_any m D0 w h1 h2 (by omega))
  have hdg : dig ≤ 6926 := by omega
  rw [hdig]
  clear hdig
  go_enter Tryz.func215, Tryz.ntmps215
  go_wp2_with (first
    | (at_range; refine wpList_range_own _ rfl _ 152 rfl 3 3 law3 und67 _ B n _ rfl (((hown.alloc _).alloc _)) ?_; intro w0 hrg0 hg0 hs0)
    | go_in)
  go_frame
  have e1 : ∀ o1 o2, ((w.alloc o1).alloc o2).heap.size = w.heap.size + 1 + 1 := fun o1 o2 => by simp
  rw [e1] at hrg0 hs0 ⊢
  clear e1
  have HI0 : Hid (EI w w0 B n dig D c (Maps.has D) (Maps.size D) []) := by
    have hb0 : Below w.heap.size w w0 := (((Below.refl _ _).alloc (Nat.le_refl _) _).alloc (by simp) _).grown hg0 (by simp; omega) (fun j hj => by cases hj)
    refine Lib.hid ⟨⟨.slice none 0 0, .slice none 0 0, .slice none 0 0, .slice none 0 0, hrg0, ((Two.new w _ _ 206).alloc _).kept hg0 (by simp), ?_, words_nil _, words_nil _, words_nil _, words_nil _, words_nil _, words_nil _, hb0⟩, ⟨by simp, by simp, fun r h0 hf => ?_⟩, by simp, by simpa using hown.size_le⟩
    · have := ((Two.new (w.alloc _) (.slice none 0 0) (.slice none 0 0) 206)).kept hg0 (by simp)
      simpa using this
    · have := has_true_of_atKey ((HSD.out.2 r).1 h0)
      rw [this] at hf; cases hf
  clear hrg0 hg0 hs0
  go_loopw [6, 7] (fun _ _ wr => ∃ (left : Lit → Bool) (cnt : Nat) (ts : List (Int × Int)), Hid (EI w wr B n dig D c left cnt ts)) (fun _ _ wr => wr.rangeLeft B (w.heap.size + 1 + 1))
  case atStart => exact ⟨_, _, _, HI0⟩
  case round =>
    clear HI0
    obtain ⟨left, cnt, ts, HI⟩ := hrel
    obtain ⟨⟨x0, x1, y0, y1, hj⟩, hcoll, hleft, hcnt⟩ := HI.out
    have hrg := hj.rg
    have HJ := Lib.hid hj
    have HCO := Lib.hid hcoll
    have HLE := Lib.hid hleft
    clear hj hcoll hleft
    go_wp2_with (first
      | (at_next; refine wpList_next_ranges_ii _ rfl _ rfl 3 3 .i64 .i64 law3 und3 und3 B (w.heap.size + 1 + 1) n _ _ _ rfl hrg ?_ ?_)
      | go_in)
    · intro hc0 hl0
      obtain ⟨p0, k0, ex0⟩ := HJ.out.wx0.shape
      obtain ⟨p1, k1, ex1⟩ := HJ.out.wx1.shape
      obtain ⟨p2, k2, ey0⟩ := HJ.out.wy0.shape
      obtain ⟨p3, k3, ey1⟩ := HJ.out.wy1.shape
      have c0 := HJ.out.s.c0
      have c1 := HJ.out.s.c1
      have f0 := HJ.out.s.fr (i := 0)
      have f1 := HJ.out.s.fr (i := 1)
      have d0 := HJ.out.o.c0
      have d1 := HJ.out.o.c1
      have g0 := HJ.out.o.fr (i := 0)
      have g1 := HJ.out.o.fr (i := 1)
      have hco : IsColl c ts := ⟨HCO.out.1, HCO.out.2.1, fun r h0 => HCO.out.2.2 r h0 (hl0 _)⟩
      have HCOL := Lib.hid hco
      clear hco hl0 hrg
      subst ex0 ex1 ey0 ey1
      have hll : ts.length ≤ 1000 := by omega
      go_wp2
      have h1 := HJ.out.set0 _ _ HJ.out.wx0 (by omega)
      have h2 := h1.set1 _ _ h1.wx1 (by omega)
      have h3 := h2.swap.set0 _ _ h2.wy0 (by omega)
      have h4 := h3.set1 _ _ h3.wx1 (by omega)
      have a0 := h4.o.c0
      have a1 := h4.o.c1
      have b0 := h4.s.c0
      have b1 := h4.s.c1
      clear c0 c1 f0 f1 d0 d1 g0 g1 h1 h2 h3
      refine bodyPost_ret (v := .tuple #[.agg #[.slice p0 (toW (encP (fQ dig) ts)).length k0, .slice p1 (toW (encP (fQ1 dig) ts)).length k1], .agg #[.slice p2 (toW (encN (fQ dig) ts)).length k2, .slice p3 (toW (encN (fQ1 dig) ts)).length k3]]) ?_ rfl ?_
      · simp [results, Tryz.results215, go_sem, a0, a1, b0, b1]
      · exact ⟨ts, _, _, HCOL.out, hll, rfl, ⟨_, _, rfl, h4.wy0, h4.wy1⟩, ⟨_, _, rfl, h4.wx0, h4.wx1⟩, h4.bw⟩
    · intro x cc w1 cnt1 hwx hwc hlx hat hrg1 hlt hg1 hs1 hen
      have hst := HCO.out.step HLE.out HSD.out hlx hat
      have hlen : (ts ++ [(cc, x)]).length + cnt1 ≤ n := by simp; omega
      have hcx := hcr.out x (by rw [hst.2.2.1]; exact hst.2.2.2)
      have hcc := hcb.out x
      rw [hst.2.2.1] at hcc
      have HJ1 := Lib.hid (HJ.out.next hg1 hrg1 (by omega))
      have HRL : Hid (wr.rangeLeft B (w.heap.size + 1 + 1) = cnt) := Lib.hid hrg.left_eq
      have hcc0 : cc ≠ 0 := hst.2.2.2
      have HLEN : Hid (∀ t ∈ ts ++ [(cc, x)], -9000000000000000000 ≤ t.1 ∧ t.1 ≤ 9000000000000000000 ∧ 1 ≤ t.2 ∧ t.2 ≤ 1000) := Lib.hid (fun t ht => by
        have h1 := hst.1.2.1 t ht
        have h2 := hcr.out t.2 (by rw [h1.1]; exact h1.2)
        have h3 := hcb.out t.2
        rw [h1.1] at h3
        omega)
      have HTL : Hid (ts.length ≤ 1000) := Lib.hid (by omega)
      have HST := Lib.hid hst
      have HLT := Lib.hid hlt
      have HCNT := Lib.hid hlen
      obtain ⟨m, rfl⟩ : ∃ m : Nat, x = (m : Int) := ⟨x.toNat, by omega⟩
      clear hst hrg1 hg1 hs1 hrg hat hlx hlt hlen HI HJ hcnt
      by_cases hneg : cc < 0
      · obtain ⟨k, hk⟩ : ∃ k : Nat, (-cc).toNat = k := ⟨_, rfl⟩
        have hkc : -cc = (k : Int) := by omega
        have hk63 : k ≤ 9223372036854775808 := by omega
        have HK := Lib.hid hk
        have hj2 : EJ w w1 B n D (fun z => left z && !z.sameKey (.int .i64 (m : Int))) cnt1 (w.heap.size + 1) (w.heap.size) (.slice none 0 0) (.slice none 0 0) y0 y1 x0 x1 0 0 (encN (fQ dig) ts) (encN (fQ1 dig) ts) (encP (fQ dig) ts) (encP (fQ1 dig) ts) := ⟨HJ1.out.rg, HJ1.out.o, HJ1.out.s, HJ1.out.wl, HJ1.out.wh, HJ1.out.wy0, HJ1.out.wy1, HJ1.out.wx0, HJ1.out.wx1, HJ1.out.bw⟩
        have HJ2 := Lib.hid hj2
        have w1k : IntKind.u64.wrap (k : Int) = (k : Int) := by rw [wrap64]; congr 1; exact Nat.mod_eq_of_lt (by omega)
        clear hk hj2 HJ1
        go_wp2_with fail
        refine (HRD.out m _ (by omega) (by omega)).mono ?_
        rintro e w2 ⟨vl, rfl, hw2, hb2⟩
        obtain ⟨q, hq⟩ : ∃ q, isq (m * 4 ^ dig) = q := ⟨_, rfl⟩
        rw [hq] at hw2
        have hqm : q + 1 ≤ 2 ^ (dig + 6) := by rw [← hq]; have := fQ_le dig (m : Int) (by omega); simpa [fQ1] using this
        have hl1 : (toW q).length ≤ 1000 := few_words dig q 1 (by omega) (by omega) (by omega)
        have hl2 : (toW (q + 1)).length ≤ 1000 := few_words dig (q + 1) 1 (by omega) (by omega) (by omega)
        have hkq : k * (q + 1) ≤ 9223372036854775808 * 2 ^ (dig + 6) := Nat.mul_le_mul hk63 hqm
        have hl3 : (toW (q * k)).length ≤ 1000 := few_words dig (q * k) 1 (by omega) (by omega) (by rw [Nat.mul_comm q, Nat.one_mul]; exact Nat.le_trans (Nat.mul_le_mul_left k (by omega)) hkq)
        have hl4 : (toW ((q + 1) * k)).length ≤ 1000 := few_words dig ((q + 1) * k) 1 (by omega) (by omega) (by rw [Nat.mul_comm (q + 1), Nat.one_mul]; exact hkq)
        have hfl : ∀ t ∈ ts, fQ dig t.2 ≤ 2 ^ (dig + 6) ∧ fQ1 dig t.2 ≤ 2 ^ (dig + 6) := fun t ht => by
          have h1 := HLEN.out t (List.mem_append.2 (.inl ht))
          have h2 := fQ_le dig t.2 (by omega)
          exact ⟨Nat.le_trans (show fQ dig t.2 ≤ fQ1 dig t.2 from Nat.le_succ _) h2, h2⟩
        have hl5 : (toW (encN (fQ dig) ts)).length ≤ 1000 := few_words dig _ ts.length (by omega) HTL.out (encN_le _ ts _ _ (fun t ht => ⟨by have := HLEN.out t (List.mem_append.2 (.inl ht)); omega, (hfl t ht).1⟩))
        have hl6 : (toW (encN (fQ1 dig) ts)).length ≤ 1000 := few_words dig _ ts.length (by omega) HTL.out (encN_le _ ts _ _ (fun t ht => ⟨by have := HLEN.out t (List.mem_append.2 (.inl ht)); omega, (hfl t ht).2⟩))
        have HQ := Lib.hid hq
        have HPLUS := Lib.hid (fun v u w0 h0 h1 => plus_any v u q 1 w0 h0 h1 hl1 (by rw [toW_one]; decide))
        have HT0 := Lib.hid (fun v w0 h0 => times_any v q k w0 h0 hl1 (by omega))
        have HT1 := Lib.hid (fun v w0 h0 => times_any v (q + 1) k w0 h0 hl2 (by omega))
        have HP0 := Lib.hid (fun v u w0 h0 h1 => plus_any v u (encN (fQ dig) ts) (q * k) w0 h0 h1 hl5 hl3)
        have HP1 := Lib.hid (fun v u w0 h0 h1 => plus_any v u (encN (fQ1 dig) ts) ((q + 1) * k) w0 h0 h1 hl6 hl4)
        have h2' := HJ2.out.below hb2
        have HJ3 : Hid (EJ w w2 B n D (fun z => left z && !z.sameKey (.int .i64 (m : Int))) cnt1 (w.heap.size + 1) (w.heap.size) vl (.slice none 0 0) y0 y1 x0 x1 q 0 (encN (fQ dig) ts) (encN (fQ1 dig) ts) (encP (fQ dig) ts) (encP (fQ1 dig) ts)) := Lib.hid ⟨h2'.rg, h2'.s, h2'.o, hw2, h2'.wh, h2'.wx0, h2'.wx1, h2'.wy0, h2'.wy1, h2'.bw⟩
        clear h2' hw2 hb2 hq hqm hkq hfl hl1 hl2 hl3 hl4 hl5 hl6 HJ2
        have H1 := Lib.hid (words_one w2 1 (by decide) (by decide))
        have HA := Lib.hid ((Below.refl _ w2).alloc (Nat.le_refl _) (.cells #[.int .u64 1] 220))
        go_wp2_with fail
        refine (HPLUS.out _ _ _ (HJ3.out.wl.below HA.out) H1.out).mono ?_
        rintro e w3 ⟨vh, rfl, hw3, hb3⟩
        have h3' := (HJ3.out.below HA.out).below hb3
        obtain ⟨pl, cl, rfl⟩ := h3'.wl.shape
        obtain ⟨ph, ch, rfl⟩ := hw3.shape
        have HJ4 : Hid (EJ w w3 B n D (fun z => left z && !z.sameKey (.int .i64 (m : Int))) cnt1 (w.heap.size + 1) (w.heap.size) (.slice pl (toW q).length cl) (.slice ph (toW (q + 1)).length ch) y0 y1 x0 x1 q (q + 1) (encN (fQ dig) ts) (encN (fQ1 dig) ts) (encP (fQ dig) ts) (encP (fQ1 dig) ts)) := Lib.hid ⟨h3'.rg, h3'.s, h3'.o, h3'.wl, hw3, h3'.wx0, h3'.wx1, h3'.wy0, h3'.wy1, h3'.bw⟩
        clear h3' hw3 hb3 HA H1 HJ3
        go_wp2_with fail
        go_loopw [33] (fun i wr => ∃ (j : Nat) (z0 z1 : Value), i = .int .i64 (j : Nat) ∧ j ≤ 2 ∧ Hid (EJ w wr B n D (fun z => left z && !z.sameKey (.int .i64 (m : Int))) cnt1 (w.heap.size + 1) (w.heap.size) (.slice pl (toW q).length cl) (.slice ph (toW (q + 1)).length ch) z0 z1 x0 x1 q (q + 1) (encN (fQ dig) ts + if 1 ≤ j then q * k else 0) (encN (fQ1 dig) ts + if 2 ≤ j then (q + 1) * k else 0) (encP (fQ dig) ts) (encP (fQ1 dig) ts))) (fun i _ => (2 - intOf i).toNat)
        case atStart => exact ⟨0, _, _, rfl, by omega, HJ4⟩
        case round =>
          clear HJ4
          obtain ⟨j, z0, z1, rfl, hj2, HR⟩ := hrel
          rcases (by omega : j = 0 ∨ j = 1 ∨ j = 2) with rfl | rfl | rfl
          · simp only [show ¬ (1 : Nat) ≤ 0 by omega, show ¬ (2 : Nat) ≤ 0 by omega, if_false, Nat.add_zero] at HR
            obtain ⟨q0, c0', rfl⟩ := HR.out.wx0.shape
            obtain ⟨q1, c1', rfl⟩ := HR.out.wx1.shape
            have HRD' := Lib.hid (HR.out.below (Below.refl _ wr).drew)
            have c0 := HR.out.s.c0
            have i0 : ∀ w : World, (Instr.index 205 (.agg #[.slice pl (toW q).length cl, .slice ph (toW (q + 1)).length ch]) (.int .i64 0)).run Tryz.prog w = .ok (.slice pl (toW q).length cl) w := fun _ => by kernel_rfl
            go_wp2_with fail
            go_region_with (first
              | (go_at_call 235; refine (HP0.out _ _ _ E4.wx0 hw4).mono ?_; rintro e w5 ⟨v5, rfl, hw5, hb5⟩; have E5 := E4.below hb5; obtain ⟨p5, c5, rfl⟩ := hw5.shape; have f5 := E5.s.fr (i := 0); have c5 := E5.s.c0)
              | (go_at_call 236; refine (HT0.out _ _ HRD'.out.wl).mono ?_; rintro e w4 ⟨v4, rfl, hw4, hb4⟩; have E4 := HRD'.out.below hb4; have c4 := E4.s.c0))
            all_goals
              have E6 := Lib.hid (E5.set0 _ _ hw5 (by omega))
              clear hw5 hb5 hw4 hb4 E4 c4 f5 c5 E5 c0 HR HRD'
              go_wp2
              go_roundw
              case rel => exact ⟨1, _, _, by go_num, by omega, by simpa using E6⟩
              case measure => simp [intOf]
          · simp only [show (1 : Nat) ≤ 1 by omega, show ¬ (2 : Nat) ≤ 1 by omega, if_false, if_true, Nat.add_zero] at HR
            obtain ⟨q0, c0', rfl⟩ := HR.out.wx0.shape
            obtain ⟨q1, c1', rfl⟩ := HR.out.wx1.shape
            have HRD' := Lib.hid (HR.out.below (Below.refl _ wr).drew)
            have c0 := HR.out.s.c1
            have i0 : ∀ w : World, (Instr.index 205 (.agg #[.slice pl (toW q).length cl, .slice ph (toW (q + 1)).length ch]) (.int .i64 1)).run Tryz.prog w = .ok (.slice ph (toW (q + 1)).length ch) w := fun _ => by kernel_rfl
            go_wp2_with fail
            go_region_with (first
              | (go_at_call 235; refine (HP1.out _ _ _ E4.wx1 hw4).mono ?_; rintro e w5 ⟨v5, rfl, hw5, hb5⟩; have E5 := E4.below hb5; obtain ⟨p5, c5, rfl⟩ := hw5.shape; have f5 := E5.s.fr (i := 1); have c5 := E5.s.c1)
              | (go_at_call 236; refine (HT1.out _ _ HRD'.out.wh).mono ?_; rintro e w4 ⟨v4, rfl, hw4, hb4⟩; have E4 := HRD'.out.below hb4; have c4 := E4.s.c1))
            all_goals
              have E6 := Lib.hid (E5.set1 _ _ hw5 (by omega))
              clear hw5 hb5 hw4 hb4 E4 c4 f5 c5 E5 c0 HR HRD'
              go_wp2
              go_roundw
              case rel => exact ⟨2, _, _, by go_num, by omega, by simpa using E6⟩
              case measure => simp [intOf]
          · simp only [show (1 : Nat) ≤ 2 by omega, show (2 : Nat) ≤ 2 by omega, if_true] at HR
            have HE : Hid (EI w wr B n dig D c (fun z => left z && !z.sameKey (.int .i64 (m : Int))) cnt1 (ts ++ [(cc, (m : Int))])) := by
              refine Lib.hid ⟨?_, HST.out.1, HST.out.2.1, HCNT.out⟩
              have hm : (m : Int).toNat = m := by omega
              have e1 : encN (fQ dig) (ts ++ [(cc, (m : Int))]) = encN (fQ dig) ts + q * k := by
                rw [encN_snoc]; unfold fQ; rw [hm, HQ.out, HK.out, Nat.mul_comm]
              have e2 : encN (fQ1 dig) (ts ++ [(cc, (m : Int))]) = encN (fQ1 dig) ts + (q + 1) * k := by
                rw [encN_snoc]; unfold fQ1; rw [hm, HQ.out, HK.out, Nat.mul_comm]
              have e3 : encP (fQ dig) (ts ++ [(cc, (m : Int))]) = encP (fQ dig) ts := by
                rw [encP_snoc, show (cc).toNat = 0 by omega, Nat.zero_mul, Nat.add_zero]
              have e4 : encP (fQ1 dig) (ts ++ [(cc, (m : Int))]) = encP (fQ1 dig) ts := by
                rw [encP_snoc, show (cc).toNat = 0 by omega, Nat.zero_mul, Nat.add_zero]
              rw [e1, e2, e3, e4]
              have h := HR.out
              exact ⟨_, _, _, _, h.rg, h.o, h.s, words_nil _, words_nil _, h.wy0, h.wy1, h.wx0, h.wx1, h.bw⟩
            have HRL2 := HR.out.rg.left_eq
            have HRL3 : Hid (wr.rangeLeft B (w.heap.size + 1 + 1) = cnt1) := Lib.hid HRL2
            clear HRL2 HR
            go_wp2
            go_roundw
            case rel => exact ⟨_, _, _, HE⟩
            case measure => rw [HRL3.out, HRL.out]; exact HLT.out
      · obtain ⟨k, hk⟩ : ∃ k : Nat, cc.toNat = k := ⟨_, rfl⟩
        have hkc : cc = (k : Int) := by omega
        have hk63 : k ≤ 9223372036854775808 := by omega
        have HK := Lib.hid hk
        have hj2 : EJ w w1 B n D (fun z => left z && !z.sameKey (.int .i64 (m : Int))) cnt1 (w.heap.size) (w.heap.size + 1) (.slice none 0 0) (.slice none 0 0) x0 x1 y0 y1 0 0 (encP (fQ dig) ts) (encP (fQ1 dig) ts) (encN (fQ dig) ts) (encN (fQ1 dig) ts) := HJ1.out
        have HJ2 := Lib.hid hj2
        have w1k : IntKind.u64.wrap (k : Int) = (k : Int) := by rw [wrap64]; congr 1; exact Nat.mod_eq_of_lt (by omega)
        clear hk hj2 HJ1
        go_wp2_with fail
        refine (HRD.out m _ (by omega) (by omega)).mono ?_
        rintro e w2 ⟨vl, rfl, hw2, hb2⟩
        obtain ⟨q, hq⟩ : ∃ q, isq (m * 4 ^ dig) = q := ⟨_, rfl⟩
        rw [hq] at hw2
        have hqm : q + 1 ≤ 2 ^ (dig + 6) := by rw [← hq]; have := fQ_le dig (m : Int) (by omega); simpa [fQ1] using this
        have hl1 : (toW q).length ≤ 1000 := few_words dig q 1 (by omega) (by omega) (by omega)
        have hl2 : (toW (q + 1)).length ≤ 1000 := few_words dig (q + 1) 1 (by omega) (by omega) (by omega)
        have hkq : k * (q + 1) ≤ 9223372036854775808 * 2 ^ (dig + 6) := Nat.mul_le_mul hk63 hqm
        have hl3 : (toW (q * k)).length ≤ 1000 := few_words dig (q * k) 1 (by omega) (by omega) (by rw [Nat.mul_comm q, Nat.one_mul]; exact Nat.le_trans (Nat.mul_le_mul_left k (by omega)) hkq)
        have hl4 : (toW ((q + 1) * k)).length ≤ 1000 := few_words dig ((q + 1) * k) 1 (by omega) (by omega) (by rw [Nat.mul_comm (q + 1), Nat.one_mul]; exact hkq)
        have hfl : ∀ t ∈ ts, fQ dig t.2 ≤ 2 ^ (dig + 6) ∧ fQ1 dig t.2 ≤ 2 ^ (dig + 6) := fun t ht => by
          have h1 := HLEN.out t (List.mem_append.2 (.inl ht))
          have h2 := fQ_le dig t.2 (by omega)
          exact ⟨Nat.le_trans (show fQ dig t.2 ≤ fQ1 dig t.2 from Nat.le_succ _) h2, h2⟩
        have hl5 : (toW (encP (fQ dig) ts)).length ≤ 1000 := few_words dig _ ts.length (by omega) HTL.out (encP_le _ ts _ _ (fun t ht => ⟨by have := HLEN.out t (List.mem_append.2 (.inl ht)); omega, (hfl t ht).1⟩))
        have hl6 : (toW (encP (fQ1 dig) ts)).length ≤ 1000 := few_words dig _ ts.length (by omega) HTL.out (encP_le _ ts _ _ (fun t ht => ⟨by have := HLEN.out t (List.mem_append.2 (.inl ht)); omega, (hfl t ht).2⟩))
        have HQ := Lib.hid hq
        have HPLUS := Lib.hid (fun v u w0 h0 h1 => plus_any v u q 1 w0 h0 h1 hl1 (by rw [toW_one]; decide))
        have HT0 := Lib.hid (fun v w0 h0 => times_any v q k w0 h0 hl1 (by omega))
        have HT1 := Lib.hid (fun v w0 h0 => times_any v (q + 1) k w0 h0 hl2 (by omega))
        have HP0 := Lib.hid (fun v u w0 h0 h1 => plus_any v u (encP (fQ dig) ts) (q * k) w0 h0 h1 hl5 hl3)
        have HP1 := Lib.hid (fun v u w0 h0 h1 => plus_any v u (encP (fQ1 dig) ts) ((q + 1) * k) w0 h0 h1 hl6 hl4)
        have h2' := HJ2.out.below hb2
        have HJ3 : Hid (EJ w w2 B n D (fun z => left z && !z.sameKey (.int .i64 (m : Int))) cnt1 (w.heap.size) (w.heap.size + 1) vl (.slice none 0 0) x0 x1 y0 y1 q 0 (encP (fQ dig) ts) (encP (fQ1 dig) ts) (encN (fQ dig) ts) (encN (fQ1 dig) ts)) := Lib.hid ⟨h2'.rg, h2'.s, h2'.o, hw2, h2'.wh, h2'.wx0, h2'.wx1, h2'.wy0, h2'.wy1, h2'.bw⟩
        clear h2' hw2 hb2 hq hqm hkq hfl hl1 hl2 hl3 hl4 hl5 hl6 HJ2
        have H1 := Lib.hid (words_one w2 1 (by decide) (by decide))
        have HA := Lib.hid ((Below.refl _ w2).alloc (Nat.le_refl _) (.cells #[.int .u64 1] 220))
        go_wp2_with fail
        refine (HPLUS.out _ _ _ (HJ3.out.wl.below HA.out) H1.out).mono ?_
        rintro e w3 ⟨vh, rfl, hw3, hb3⟩
        have h3' := (HJ3.out.below HA.out).below hb3
        obtain ⟨pl, cl, rfl⟩ := h3'.wl.shape
        obtain ⟨ph, ch, rfl⟩ := hw3.shape
        have HJ4 : Hid (EJ w w3 B n D (fun z => left z && !z.sameKey (.int .i64 (m : Int))) cnt1 (w.heap.size) (w.heap.size + 1) (.slice pl (toW q).length cl) (.slice ph (toW (q + 1)).length ch) x0 x1 y0 y1 q (q + 1) (encP (fQ dig) ts) (encP (fQ1 dig) ts) (encN (fQ dig) ts) (encN (fQ1 dig) ts)) := Lib.hid ⟨h3'.rg, h3'.s, h3'.o, h3'.wl, hw3, h3'.wx0, h3'.wx1, h3'.wy0, h3'.wy1, h3'.bw⟩
        clear h3' hw3 hb3 HA H1 HJ3
        go_wp2_with fail
        go_loopw [33] (fun i wr => ∃ (j : Nat) (z0 z1 : Value), i = .int .i64 (j : Nat) ∧ j ≤ 2 ∧ Hid (EJ w wr B n D (fun z => left z && !z.sameKey (.int .i64 (m : Int))) cnt1 (w.heap.size) (w.heap.size + 1) (.slice pl (toW q).length cl) (.slice ph (toW (q + 1)).length ch) z0 z1 y0 y1 q (q + 1) (encP (fQ dig) ts + if 1 ≤ j then q * k else 0) (encP (fQ1 dig) ts + if 2 ≤ j then (q + 1) * k else 0) (encN (fQ dig) ts) (encN (fQ1 dig) ts))) (fun i _ => (2 - intOf i).toNat)
        case atStart => exact ⟨0, _, _, rfl, by omega, HJ4⟩
        case round =>
          clear HJ4
          obtain ⟨j, z0, z1, rfl, hj2, HR⟩ := hrel
          rcases (by omega : j = 0 ∨ j = 1 ∨ j = 2) with rfl | rfl | rfl
          · simp only [show ¬ (1 : Nat) ≤ 0 by omega, show ¬ (2 : Nat) ≤ 0 by omega, if_false, Nat.add_zero] at HR
            obtain ⟨q0, c0', rfl⟩ := HR.out.wx0.shape
            obtain ⟨q1, c1', rfl⟩ := HR.out.wx1.shape
            have HRD' := Lib.hid (HR.out.below (Below.refl _ wr).drew)
            have c0 := HR.out.s.c0
            have i0 : ∀ w : World, (Instr.index 205 (.agg #[.slice pl (toW q).length cl, .slice ph (toW (q + 1)).length ch]) (.int .i64 0)).run Tryz.prog w = .ok (.slice pl (toW q).length cl) w := fun _ => by kernel_rfl
            go_wp2_with fail
            go_region_with (first
              | (go_at_call 235; refine (HP0.out _ _ _ E4.wx0 hw4).mono ?_; rintro e w5 ⟨v5, rfl, hw5, hb5⟩; have E5 := E4.below hb5; obtain ⟨p5, c5, rfl⟩ := hw5.shape; have f5 := E5.s.fr (i := 0); have c5 := E5.s.c0)
              | (go_at_call 236; refine (HT0.out _ _ HRD'.out.wl).mono ?_; rintro e w4 ⟨v4, rfl, hw4, hb4⟩; have E4 := HRD'.out.below hb4; have c4 := E4.s.c0))
            all_goals
              have E6 := Lib.hid (E5.set0 _ _ hw5 (by omega))
              clear hw5 hb5 hw4 hb4 E4 c4 f5 c5 E5 c0 HR HRD'
              go_wp2
              go_roundw
              case rel => exact ⟨1, _, _, by go_num, by omega, by simpa using E6⟩
              case measure => simp [intOf]
          · simp only [show (1 : Nat) ≤ 1 by omega, show ¬ (2 : Nat) ≤ 1 by omega, if_false, if_true, Nat.add_zero] at HR
            obtain ⟨q0, c0', rfl⟩ := HR.out.wx0.shape
            obtain ⟨q1, c1', rfl⟩ := HR.out.wx1.shape
            have HRD' := Lib.hid (HR.out.below (Below.refl _ wr).drew)
            have c0 := HR.out.s.c1
            have i0 : ∀ w : World, (Instr.index 205 (.agg #[.slice pl (toW q).length cl, .slice ph (toW (q + 1)).length ch]) (.int .i64 1)).run Tryz.prog w = .ok (.slice ph (toW (q + 1)).length ch) w := fun _ => by kernel_rfl
            go_wp2_with fail
            go_region_with (first
              | (go_at_call 235; refine (HP1.out _ _ _ E4.wx1 hw4).mono ?_; rintro e w5 ⟨v5, rfl, hw5, hb5⟩; have E5 := E4.below hb5; obtain ⟨p5, c5, rfl⟩ := hw5.shape; have f5 := E5.s.fr (i := 1); have c5 := E5.s.c1)
              | (go_at_call 236; refine (HT1.out _ _ HRD'.out.wh).mono ?_; rintro e w4 ⟨v4, rfl, hw4, hb4⟩; have E4 := HRD'.out.below hb4; have c4 := E4.s.c1))
            all_goals
              have E6 := Lib.hid (E5.set1 _ _ hw5 (by omega))
              clear hw5 hb5 hw4 hb4 E4 c4 f5 c5 E5 c0 HR HRD'
              go_wp2
              go_roundw
              case rel => exact ⟨2, _, _, by go_num, by omega, by simpa using E6⟩
              case measure => simp [intOf]
          · simp only [show (1 : Nat) ≤ 2 by omega, show (2 : Nat) ≤ 2 by omega, if_true] at HR
            have HE : Hid (EI w wr B n dig D c (fun z => left z && !z.sameKey (.int .i64 (m : Int))) cnt1 (ts ++ [(cc, (m : Int))])) := by
              refine Lib.hid ⟨?_, HST.out.1, HST.out.2.1, HCNT.out⟩
              have hm : (m : Int).toNat = m := by omega
              have e1 : encP (fQ dig) (ts ++ [(cc, (m : Int))]) = encP (fQ dig) ts + q * k := by
                rw [encP_snoc]; unfold fQ; rw [hm, HQ.out, HK.out, Nat.mul_comm]
              have e2 : encP (fQ1 dig) (ts ++ [(cc, (m : Int))]) = encP (fQ1 dig) ts + (q + 1) * k := by
                rw [encP_snoc]; unfold fQ1; rw [hm, HQ.out, HK.out, Nat.mul_comm]
              have e3 : encN (fQ dig) (ts ++ [(cc, (m : Int))]) = encN (fQ dig) ts := by
                rw [encN_snoc, show (-cc).toNat = 0 by omega, Nat.zero_mul, Nat.add_zero]
              have e4 : encN (fQ1 dig) (ts ++ [(cc, (m : Int))]) = encN (fQ1 dig) ts := by
                rw [encN_snoc, show (-cc).toNat = 0 by omega, Nat.zero_mul, Nat.add_zero]
              rw [e1, e2, e3, e4]
              have h := HR.out
              exact ⟨_, _, _, _, h.rg, h.s, h.o, words_nil _, words_nil _, h.wx0, h.wx1, h.wy0, h.wy1, h.bw⟩
            have HRL2 := HR.out.rg.left_eq
            have HRL3 : Hid (wr.rangeLeft B (w.heap.size + 1 + 1) = cnt1) := Lib.hid HRL2
            clear HRL2 HR
            go_wp2
            go_roundw
            case rel => exact ⟨_, _, _, HE⟩
            case measure => rw [HRL3.out, HRL.out]; exact HLT.out

end Go.Proofs.YtkjclafbpocabaaGreatDoor
