/-
  Contracts of the program's own functions (and their plain mathematics), on the way to the law: each for all arguments that its hypotheses let.
-/
import Derived.Test.YtedpafdfecofnaaGreatDoorF59
import Derived.Test.YtedpafdfecofnaaGreatDoorF60
import Derived.WalkKit
import Derived.WalkSpells
import Derived.WalkLawsBesides
import Derived.Deep.QuietTactic
import Derived.BigQuiet
import Derived.Lib.Hide
import Derived.WalkSmall
import Derived.Maps.OwnSet
import Derived.Maps.RangeWalk
import Derived.Deep.RegionWith
import Derived.Deep.RegionHeld3
import Derived.Deep.DrawnRows
import Derived.Deep.DeepCutAuto
import Derived.OneCell
import Derived.KernelRfl
import Derived.Laws.StructEq
import Derived.StillTailTactics
import Derived.Laws.Externs
import Derived.RangeFuncBox
import Derived.Test.YtedpafdfecofnaaGreatDoorPlain
set_option linter.unusedSimpArgs false
set_option linter.unusedVariables false

/-! ## D11 -/
namespace Go.Proofs.YtedpafdfecofnaaGreatDoor
open Go.RowKit Go.Maps Go.Shelf Go.Sort
def SgTo (l : List (Int × Int)) (w : World) (e : Ending) (w' : World) : Prop := ∃ n, e = .returned (.int .i64 n) ∧ Sg l n ∧ Below w.heap.size w w'
theorem coef_zero {l : List (Int × Int)} (h : ∀ t ∈ l, t.1 = 0) (r : Int) : coefOf l r = 0 := by
  have : ∀ (l : List (Int × Int)) (s : Int), (∀ t ∈ l, t.1 = 0) → l.foldl (fun s t => if t.2 = r then s + t.1 else s) s = s := by
    intro l
    induction l with
    | nil => intro s _; rfl
    | cons t l ih =>
      intro s h
      rw [List.foldl_cons, ih _ (fun u hu => h u (List.mem_cons_of_mem _ hu)), h t (List.mem_cons_self ..)]
      split <;> omega
  exact this l 0 h
theorem cell_far (w : World) (b b' i j : Nat) (u : Value) (h : b' ≠ b) : (w.setCell ⟨b, j, none⟩ u).cell? ⟨b', i, none⟩ = w.cell? ⟨b', i, none⟩ := by
  unfold World.cell? World.setCell
  simp [Array.getElem?_modify, h, Ne.symm h]
theorem two_int {w : World} {b i : Nat} {x y : Value} {T : TypeId} {n : Int} (t : Two w b x y T) (hx : ∀ n, x ≠ .int .i64 n) (hy : ∀ n, y ≠ .int .i64 n) : w.cell? ⟨b, i, none⟩ ≠ some (.int .i64 n) := by
  intro h
  rcases i with _ | _ | i
  · rw [t.c0] at h; exact hx n (Option.some.inj h)
  · rw [t.c1] at h; exact hy n (Option.some.inj h)
  · unfold Two at t
    simp [World.cell?, t] at h
theorem DigsAt.store {w : World} {v : Value} {l : List Nat} {b j : Nat} {x y u : Value} {T : TypeId} (h : DigsAt w v l) (t : Two w b x y T) (hx : ∀ n, x ≠ .int .i64 n) (hy : ∀ n, y ≠ .int .i64 n) : DigsAt (w.setCell ⟨b, j, none⟩ u) v l := by
  obtain ⟨hl, h | ⟨b', off, cap, hv, hcap, hb, hc⟩⟩ := h
  · exact ⟨hl, .inl h⟩
  · refine ⟨hl, .inr ⟨b', off, cap, hv, hcap, by simpa using hb, fun i hi => ?_⟩⟩
    by_cases e : b' = b
    · subst e; exact absurd (hc i hi) (two_int t hx hy)
    · rw [cell_far w b b' _ j u e]; exact hc i hi
theorem slice_ne {a : Option Addr} {n c : Nat} : ∀ k, Value.slice a n c ≠ .int .i64 k := fun k h => by cases h
theorem DigsAt.ne {w : World} {v : Value} {l : List Nat} (h : DigsAt w v l) : ∀ k, v ≠ .int .i64 k := by
  obtain ⟨a, cap, rfl⟩ := h.shape
  exact slice_ne
theorem DigsN.store {w : World} {v : Value} {l : List Nat} {b j : Nat} {x y u : Value} {T : TypeId} (h : DigsN w v l) (t : Two w b x y T) (hx : ∀ n, x ≠ .int .i64 n) (hy : ∀ n, y ≠ .int .i64 n) : DigsN (w.setCell ⟨b, j, none⟩ u) v l := by
  obtain ⟨hl, b', off, cap, hv, hcap, hb, hc⟩ := h
  refine ⟨hl, b', off, cap, hv, hcap, by simpa using hb, fun i hi => ?_⟩
  by_cases e : b' = b
  · subst e; exact absurd (hc i hi) (two_int t hx hy)
  · rw [cell_far w b b' _ j u e]; exact hc i hi
/-- Both pairs of lists, as they lie. -/
def Quad (w : World) (b6 b7 : Nat) (va0 va1 vb0 vb1 : Value) (lo0 lo1 hi0 hi1 : List Nat) : Prop :=
  (Two w b6 va0 va1 89 ∧ Two w b7 vb0 vb1 89) ∧ (DigsAt w va0 lo0 ∧ DigsAt w va1 lo1 ∧ DigsAt w vb0 hi0 ∧ DigsAt w vb1 hi1) ∧ b6 ≠ b7
theorem Quad.below {w w' : World} {b6 b7 : Nat} {va0 va1 vb0 vb1 : Value} {lo0 lo1 hi0 hi1 : List Nat} (h : Quad w b6 b7 va0 va1 vb0 vb1 lo0 lo1 hi0 hi1) (hb : Below w.heap.size w w') : Quad w' b6 b7 va0 va1 vb0 vb1 lo0 lo1 hi0 hi1 :=
  ⟨⟨h.1.1.below hb h.1.1.lt, h.1.2.below hb h.1.2.lt⟩, ⟨h.2.1.1.below hb, h.2.1.2.1.below hb, h.2.1.2.2.1.below hb, h.2.1.2.2.2.below hb⟩, h.2.2⟩
theorem Quad.set60 {w : World} {b6 b7 : Nat} {va0 va1 vb0 vb1 u : Value} {lo0 lo1 hi0 hi1 S : List Nat} (h : Quad w b6 b7 va0 va1 vb0 vb1 lo0 lo1 hi0 hi1) (hu : DigsAt w u S) : Quad (w.setCell ⟨b6, 0, none⟩ u) b6 b7 u va1 vb0 vb1 S lo1 hi0 hi1 := by
  obtain ⟨⟨t6, t7⟩, ⟨a0, a1, b0, b1⟩, hne⟩ := h
  exact ⟨⟨t6.set0 u, t7.kept (grownBy_setCell _ _ _) (by intro e; exact hne (Option.some.inj e).symm)⟩, ⟨hu.store t6 a0.ne a1.ne, a1.store t6 a0.ne a1.ne, b0.store t6 a0.ne a1.ne, b1.store t6 a0.ne a1.ne⟩, hne⟩
theorem Quad.set61 {w : World} {b6 b7 : Nat} {va0 va1 vb0 vb1 u : Value} {lo0 lo1 hi0 hi1 S : List Nat} (h : Quad w b6 b7 va0 va1 vb0 vb1 lo0 lo1 hi0 hi1) (hu : DigsAt w u S) : Quad (w.setCell ⟨b6, 1, none⟩ u) b6 b7 va0 u vb0 vb1 lo0 S hi0 hi1 := by
  obtain ⟨⟨t6, t7⟩, ⟨a0, a1, b0, b1⟩, hne⟩ := h
  have hc : u.cells = #[u] := by obtain ⟨a, c, rfl⟩ := hu.shape; rfl
  exact ⟨⟨t6.set1 u hc, t7.kept (grownBy_setCell _ _ _) (by intro e; exact hne (Option.some.inj e).symm)⟩, ⟨a0.store t6 a0.ne a1.ne, hu.store t6 a0.ne a1.ne, b0.store t6 a0.ne a1.ne, b1.store t6 a0.ne a1.ne⟩, hne⟩
theorem Quad.set70 {w : World} {b6 b7 : Nat} {va0 va1 vb0 vb1 u : Value} {lo0 lo1 hi0 hi1 S : List Nat} (h : Quad w b6 b7 va0 va1 vb0 vb1 lo0 lo1 hi0 hi1) (hu : DigsAt w u S) : Quad (w.setCell ⟨b7, 0, none⟩ u) b6 b7 va0 va1 u vb1 lo0 lo1 S hi1 := by
  obtain ⟨⟨t6, t7⟩, ⟨a0, a1, b0, b1⟩, hne⟩ := h
  exact ⟨⟨t6.kept (grownBy_setCell _ _ _) (by intro e; exact hne (Option.some.inj e)), t7.set0 u⟩, ⟨a0.store t7 b0.ne b1.ne, a1.store t7 b0.ne b1.ne, hu.store t7 b0.ne b1.ne, b1.store t7 b0.ne b1.ne⟩, hne⟩
theorem Quad.set71 {w : World} {b6 b7 : Nat} {va0 va1 vb0 vb1 u : Value} {lo0 lo1 hi0 hi1 S : List Nat} (h : Quad w b6 b7 va0 va1 vb0 vb1 lo0 lo1 hi0 hi1) (hu : DigsAt w u S) : Quad (w.setCell ⟨b7, 1, none⟩ u) b6 b7 va0 va1 vb0 u lo0 lo1 hi0 S := by
  obtain ⟨⟨t6, t7⟩, ⟨a0, a1, b0, b1⟩, hne⟩ := h
  have hc : u.cells = #[u] := by obtain ⟨a, c, rfl⟩ := hu.shape; rfl
  exact ⟨⟨t6.kept (grownBy_setCell _ _ _) (by intro e; exact hne (Option.some.inj e)), t7.set1 u hc⟩, ⟨a0.store t7 b0.ne b1.ne, a1.store t7 b0.ne b1.ne, b0.store t7 b0.ne b1.ne, hu.store t7 b0.ne b1.ne⟩, hne⟩
/-- What the inner loop of Sign keeps: the sums of both sides, and their bounds. -/
def SgI (W0 wq : World) (b6 b7 m k : Nat) (l : List (Int × Int)) (va0 va1 vb0 vb1 : Value) : Prop :=
  ∃ lo0 lo1 hi0 hi1 : List Nat, Quad wq b6 b7 va0 va1 vb0 vb1 lo0 lo1 hi0 hi1 ∧ (Dg lo0 ∧ Dg lo1 ∧ Dg hi0 ∧ Dg hi1) ∧
    (lo0.length ≤ 20001 + k ∧ lo1.length ≤ 20001 + k ∧ hi0.length ≤ 20001 + k ∧ hi1.length ≤ 20001 + k) ∧
    (dval lo0 = sumB false (decT m) (l.take k) ∧ dval lo1 = sumB true (decT m) (l.take k) ∧ dval hi0 = sumB false (decH m) (l.take k) ∧ dval hi1 = sumB true (decH m) (l.take k)) ∧ Below W0.heap.size W0 wq ∧ W0.heap.size ≤ b6 ∧ W0.heap.size ≤ b7
theorem two_at0 (W : World) (b : Nat) (x y : Value) (T : TypeId) (h : W.heap.size = b) : Two (W.alloc (.cells #[x, y] T)) b x y T := by subst h; exact Two.new W x y T
theorem SgI.start (w : World) (m : Nat) (l : List (Int × Int)) : SgI w ((w.alloc (.cells #[.slice none 0 0, .slice none 0 0] 89)).alloc (.cells #[.slice none 0 0, .slice none 0 0] 89)) w.heap.size (w.heap.size + 1) m 0 l (.slice none 0 0) (.slice none 0 0) (.slice none 0 0) (.slice none 0 0) := by
  have hd : ∀ W : World, DigsAt W (.slice none 0 0) [] := fun W => ⟨by simp, .inl ⟨rfl, none, 0, rfl⟩⟩
  refine ⟨[], [], [], [], ⟨⟨(Two.new _ _ _ _).alloc _, two_at0 _ _ _ _ _ (by simp)⟩, ⟨hd _, hd _, hd _, hd _⟩, by omega⟩, ⟨Dg.nil, Dg.nil, Dg.nil, Dg.nil⟩, ⟨by simp, by simp, by simp, by simp⟩, ⟨rfl, rfl, rfl, rfl⟩, ((Below.refl _ _).alloc (Nat.le_refl _) _).alloc (by simp) _, Nat.le_refl _, by omega⟩
theorem dec_val {Q R : List Nat} {m rn : Nat} {c : Int} {ex : Bool} (hQ : dval Q = rn * c.natAbs * c.natAbs) (hR : dval R * dval R ≤ dval Q * 100 ^ m ∧ dval Q * 100 ^ m < (dval R + 1) * (dval R + 1)) (hx : ex = decide (dval R * dval R = dval Q * 100 ^ m)) :
    dval R = decT m (c, (rn : Int)) ∧ decH m (c, (rn : Int)) = dval R + (if ex = true then 0 else 1) := by
  have h1 : dval R = decT m (c, (rn : Int)) := by
    unfold decT
    dsimp only
    rw [Int.toNat_natCast, ← hQ]
    exact isq_uniq hR.1 hR.2
  have h2 : ex = decX m (c, (rn : Int)) := by
    unfold decX
    dsimp only
    rw [Int.toNat_natCast, ← hQ, ← h1, hx]
  exact ⟨h1, by unfold decH; rw [← h1, ← h2]⟩
set_option maxRecDepth 100000 in
set_option maxHeartbeats 40000000 in
/-- Sign: the sign of a sum of roots, by more and more decimal digits. -/
theorem rsign_any (l : List (Int × Int)) (v : Value) (w : World) (ht : TermsAt w v l) (hl : l.length ≤ 8) (hb : Hid (∀ t ∈ l, (-1000000000000000000 ≤ t.1 ∧ t.1 ≤ 1000000000000000000) ∧ 1 ≤ t.2 ∧ t.2 ≤ 1000)) (hf : Hid ((∀ t ∈ l, t.1 = 0) ∨ absS l < (SQ 6656 l).natAbs)) :
    Calls Tryz.prog 36 #[v] w (SgTo l w) := by
  obtain ⟨i0, hi, hz0, hz1, hz2⟩ := info_parts info3
  obtain ⟨a, cap, rfl, px⟩ := ht.placed
  have PX := Lib.hid px
  clear px ht
  go_enter Tryz.func36, Tryz.ntmps36
  go_wp2_with fail
  go_loopw [3, 4] (fun s3 s4 wr => ∃ (k : Nat) (q : Bool), s3 = .bool q ∧ s4 = .int .i64 (k : Nat) ∧ k ≤ l.length ∧ Hid (q = true ↔ ∃ t ∈ l.take k, t.1 ≠ 0) ∧ wr = w) (fun _ s4 _ => l.length - (intOf s4).toNat)
  case atStart => exact ⟨0, false, rfl, rfl, Nat.zero_le _, Lib.hid (by simp), rfl⟩
  case round =>
    obtain ⟨k, q, rfl, rfl, hk, HQ, hwr⟩ := hrel
    have hwr' := hwr.symm
    subst hwr'
    clear hwr
    by_cases hlt : k < l.length
    · obtain ⟨b, off, rfl, hbl, hc1, hc2⟩ := PX.out k hlt
      obtain ⟨c, r, hel⟩ : ∃ c r, l[k]?.getD (0, 0) = (c, r) := ⟨_, _, rfl⟩
      rw [hel] at hc1 hc2
      dsimp only at hc1 hc2
      have hmem : l.take (k + 1) = l.take k ++ [(c, r)] := by
        rw [List.take_succ_eq_append_getElem hlt, ← hel]; simp [hlt]
      have HM := Lib.hid hmem
      have i1 : (0 : Int) ≤ (k : Int) := by omega
      have i2 : (k : Int) < (l.length : Int) := by omega
      clear hel hmem
      cases q
      · by_cases h0 : c = 0
        · have g0 : (c != 0) = false := by simpa using h0
          have HQ2 : Hid (false = true ↔ ∃ t ∈ l.take (k + 1), t.1 ≠ 0) := Lib.hid (by
            rw [HM.out]
            constructor
            · intro h; cases h
            · rintro ⟨t, ht, hne⟩
              rcases List.mem_append.1 ht with h | h
              · exact HQ.out.2 ⟨t, h, hne⟩
              · rw [List.mem_singleton] at h; subst h; exact absurd h0 hne)
          clear h0
          go_wp2
          go_roundw
          case rel => exact ⟨k + 1, false, rfl, by go_num, hlt, HQ2, (by first | rfl | trivial)⟩
          case measure => simp [intOf]; omega
        · have g0 : (c != 0) = true := by simpa using h0
          have HQ2 : Hid (true = true ↔ ∃ t ∈ l.take (k + 1), t.1 ≠ 0) := Lib.hid (by
            rw [HM.out]
            exact ⟨fun _ => ⟨(c, r), by simp, h0⟩, fun _ => rfl⟩)
          clear h0
          go_wp2
          go_roundw
          case rel => exact ⟨k + 1, true, rfl, by go_num, hlt, HQ2, (by first | rfl | trivial)⟩
          case measure => simp [intOf]; omega
      · have HQ2 : Hid (true = true ↔ ∃ t ∈ l.take (k + 1), t.1 ≠ 0) := Lib.hid (by
          rw [HM.out]
          obtain ⟨t, h1, h2⟩ := HQ.out.1 rfl
          exact ⟨fun _ => ⟨t, List.mem_append_left _ h1, h2⟩, fun _ => rfl⟩)
        go_wp2
        go_roundw
        case rel => exact ⟨k + 1, true, rfl, by go_num, hlt, HQ2, (by first | rfl | trivial)⟩
        case measure => simp [intOf]; omega
    · have HQ2 : Hid (q = true ↔ ∃ t ∈ l, t.1 ≠ 0) := Lib.hid (by have := HQ.out; rwa [List.take_of_length_le (by omega)] at this)
      have hq1 : decide ((k : Int) < (l.length : Int)) = false := decide_eq_false (by omega)
      clear HQ
      cases q
      · have HF : Hid (Sg l 0) := Lib.hid (.inr (.inr ⟨rfl, coef_zero (fun t ht => by
          apply Classical.byContradiction
          intro h
          have := HQ2.out.2 ⟨t, ht, h⟩
          cases this)⟩))
        go_wp2
        go_ret
        exact ⟨0, rfl, HF.out, Below.refl _ _⟩
      · have HFAR : Hid (absS l < (SQ 6656 l).natAbs) := Lib.hid (by
          rcases hf.out with h | h
          · obtain ⟨t, h1, h2⟩ := HQ2.out.1 rfl
            exact absurd (h t h1) h2
          · exact h)
        clear HQ2
        go_wp2_with fail
        go_loopw [5, 6, 7, 8, 9, 10, 11] (fun s5 _ _ _ _ _ _ wr => ∃ m : Nat, s5 = .int .i64 (m : Nat) ∧ m ≤ 2300 ∧ Hid (Below w.heap.size w wr)) (fun s5 _ _ _ _ _ _ _ => 2400 - (intOf s5).toNat)
        case atStart => exact ⟨0, rfl, by omega, Lib.hid (Below.refl _ _)⟩
        case round =>
          obtain ⟨m, rfl, hm, HBW⟩ := hrel
          obtain ⟨W, hW⟩ : ∃ W, W = wr := ⟨wr, rfl⟩
          subst hW
          have HI0 := Lib.hid (SgI.start W m l)
          go_wp2_with fail
          go_loopw [8, 9, 10, 11] (fun s8 _ _ _ wr => ∃ (k : Nat) (va0 va1 vb0 vb1 : Value), s8 = .int .i64 (k : Nat) ∧ k ≤ l.length ∧ Hid (SgI W wr W.heap.size (W.heap.size + 1) m k l va0 va1 vb0 vb1)) (fun s8 _ _ _ _ => l.length - (intOf s8).toNat)
          case atStart => exact ⟨0, _, _, _, _, rfl, Nat.zero_le _, HI0⟩
          case round =>
            clear HI0
            obtain ⟨k, va0, va1, vb0, vb1, rfl, hk, HI⟩ := hrel
            obtain ⟨lo0, lo1, hi0, hi1, hqd, ⟨D0, D1, D2, D3⟩, ⟨n0, n1, n2, n3⟩, hval, hbw, hb6, hb7⟩ := HI.out
            have HQD := Lib.hid hqd
            have HDD := Lib.hid (And.intro D0 (And.intro D1 (And.intro D2 D3)))
            have HVAL := Lib.hid hval
            have HBQ := Lib.hid hbw
            obtain ⟨x0, z0, rfl⟩ := hqd.2.1.1.shape
            obtain ⟨x1, z1, rfl⟩ := hqd.2.1.2.1.shape
            obtain ⟨y0, u0, rfl⟩ := hqd.2.1.2.2.1.shape
            obtain ⟨y1, u1, rfl⟩ := hqd.2.1.2.2.2.shape
            clear D0 D1 D2 D3 hbw HI hqd hval
            by_cases hlt : k < l.length
            rotate_left
            · have HVL : Hid (dval lo0 = sumB false (decT m) l ∧ dval lo1 = sumB true (decT m) l ∧ dval hi0 = sumB false (decH m) l ∧ dval hi1 = sumB true (decH m) l) := Lib.hid (by have := HVAL.out; rwa [List.take_of_length_le (by omega)] at this)
              have hq1 : decide ((k : Int) < (l.length : Int)) = false := decide_eq_false (by omega)
              have c1 := HQD.out.1.2.c1
              have c2 := HQD.out.1.1.c0
              have hs6 := HQD.out.1.1.lt
              have hs7 := HQD.out.1.2.lt
              clear HVAL
              go_wp2_with fail
              refine (atLeast_dig _ _ hi1 lo0 (by omega) (by omega) _ HDD.out.2.2.2 HDD.out.1 HQD.out.2.1.2.2.2 HQD.out.2.1.1).mono ?_
              rintro e wa ⟨rfl, hba⟩
              have HBA := Lib.hid (HBQ.out.trans (hba.mono HBQ.out.size))
              have HQA := Lib.hid (HQD.out.below hba)
              clear hba c1 c2 HQD hs6 hs7
              by_cases h1 : dval lo0 ≤ dval hi1
              rotate_left
              · rw [decide_eq_false h1]
                have HF : Hid (Sg l 1) := Lib.hid (.inl ⟨rfl, dec_pos_side m l (by have := HVL.out; omega)⟩)
                clear h1
                go_wp2
                go_ret
                exact ⟨1, rfl, HF.out, HBW.out.trans (HBA.out.mono HBW.out.size)⟩
              rw [decide_eq_true h1]
              have H1 := Lib.hid h1
              have c1 := HQA.out.1.2.c0
              have c2 := HQA.out.1.1.c1
              have hs6 := HQA.out.1.1.lt
              have hs7 := HQA.out.1.2.lt
              clear h1
              go_wp2_with fail
              refine (atLeast_dig _ _ hi0 lo1 (by omega) (by omega) _ HDD.out.2.2.1 HDD.out.2.1 HQA.out.2.1.2.2.1 HQA.out.2.1.2.1).mono ?_
              rintro e wb ⟨rfl, hbb⟩
              have HBB : Hid (Below w.heap.size w wb) := Lib.hid ((HBW.out.trans (HBA.out.mono HBW.out.size)).trans (hbb.mono (Nat.le_trans HBW.out.size HBA.out.size)))
              clear hbb c1 c2 HQA hs6 hs7
              by_cases h2 : dval lo1 ≤ dval hi0
              rotate_left
              · rw [decide_eq_false h2]
                have HF : Hid (Sg l (-1)) := Lib.hid (.inr (.inl ⟨rfl, dec_neg_side m l (by have := HVL.out; omega)⟩))
                clear h2
                go_wp2
                go_ret
                exact ⟨-1, rfl, HF.out, HBB.out⟩
              rw [decide_eq_true h2]
              have hfew : 3 * m ≤ 6656 + 3 := dec_few m 6656 l hl HFAR.out (by have := HVL.out; have := H1.out; omega) (by have := HVL.out; omega)
              have hm8 : m + 8 ≤ 2300 := by omega
              clear h2 hfew
              go_wp2
              go_roundw
              case rel => exact ⟨m + 8, by go_num, hm8, HBB⟩
              case measure => simp [intOf]; omega
            obtain ⟨bb, off, rfl, hbl, hc1, hc2⟩ := PX.out k hlt
            have hmem : l[k]?.getD (0, 0) ∈ l := by simp [hlt]
            have hbd := hb.out _ hmem
            have hST := fun s f => sumB_take s f l k hlt
            obtain ⟨c, r, hel⟩ : ∃ c r, l[k]?.getD (0, 0) = (c, r) := ⟨_, _, rfl⟩
            rw [hel] at hc1 hc2 hbd
            simp only [hel] at hST
            dsimp only at hc1 hc2 hbd
            obtain ⟨⟨p1, p2⟩, p3, p4⟩ := hbd
            have HST := Lib.hid hST
            obtain ⟨rn, rfl⟩ : ∃ rn : Nat, r = rn := ⟨r.toNat, by omega⟩
            have hb0 := HBW.out.trans (HBQ.out.mono HBW.out.size)
            have HKC : Hid (∀ w', Below w.heap.size w w' → w'.cell? ⟨bb, off + k * 2, none⟩ = some (.int .i64 c) ∧ w'.cell? ⟨bb, off + k * 2 + 1, none⟩ = some (.int .i64 (rn : Nat))) := Lib.hid (fun w' h => ⟨(h.cell (p := ⟨bb, _, none⟩) hbl).trans hc1, (h.cell (p := ⟨bb, _, none⟩) hbl).trans hc2⟩)
            have HSQ := Lib.hid (fun w0 => squared_dig c rn (by omega) (by omega) w0)
            obtain ⟨k1, k2⟩ := HKC.out _ hb0
            have HB0' := Lib.hid hb0
            have i1 : (0 : Int) ≤ (k : Int) := by omega
            have i2 : (k : Int) < (l.length : Int) := by omega
            clear hel hmem hST hc1 hc2 hb0
            by_cases hcn : c < 0
            · have hsd : decide (c < 0) = true := decide_eq_true hcn
              replace hsd := Lib.hid hsd
              go_wp2_with fail
              go_region_held3 (fun w' => w'.cell? ⟨bb, off + k * 2, none⟩ = some (.int .i64 c) ∧ w'.cell? ⟨bb, off + k * 2 + 1, none⟩ = some (.int .i64 (rn : Nat)))
                (first | exact ⟨k1, k2⟩ | exact k4 | exact k3 | (go_keep; done))
                (first
                  | (go_at_call 70; refine (HSQ.out wr.drew).mono ?_; rintro e w3 ⟨Q, vq, ⟨hQ1, hQ2, hQ3, hQ4⟩, rfl, hnq, hb3⟩; obtain ⟨gq, oq, cq, rfl⟩ : ∃ b o c, vq = .slice (some ⟨b, o, none⟩) Q.length c := (by obtain ⟨_, b, o, c, e, _⟩ := hnq; exact ⟨b, o, c, e⟩); have HNQ := Lib.hid hnq; have B3 : Below wr.heap.size wr w3 := (Below.trans ((Below.refl _ wr).drew) (hb3.mono (Nat.le_refl _))); have HB3 := Lib.hid B3; have k3 := HKC.out w3 (HB0'.out.trans (B3.mono HB0'.out.size)); have HQV := Lib.hid (And.intro hQ1 hQ2); have HQ3 := Lib.hid hQ3; clear hnq hb3 B3 hQ1 hQ2 hQ3)
                  | (go_at_call 69; refine (rooted_dig (.slice (some ⟨gq, oq, none⟩) Q.length cq) Q m hQ4 (by omega) HQ3.out _ HQV.out.1 HNQ.out).mono ?_; rintro e w4 ⟨Rr, vr, ex, hR1, hR2, hR3, hR4, rfl, hnr, hb4⟩; obtain ⟨br, orr, cr, rfl⟩ : ∃ b o c, vr = .slice (some ⟨b, o, none⟩) Rr.length c := (by obtain ⟨_, b, o, c, e, _⟩ := hnr; exact ⟨b, o, c, e⟩); have HNR := Lib.hid hnr; have B4 := HB3.out.trans (hb4.mono HB3.out.size); have HB4 := Lib.hid B4; have k4 := HKC.out w4 (HB0'.out.trans (B4.mono HB0'.out.size)); have HRV0 := Lib.hid (And.intro hR1 (dec_val HQV.out.2 hR2 hR3)); clear hnr hb4 B4 hR1 hR2 hR3))
              have HRV : Hid (Dg Rr ∧ dval Rr = decT m (c, (rn : Int)) ∧ decH m (c, (rn : Int)) = dval Rr + (if ex = true then 0 else 1)) := HRV0
              have HQD4 := Lib.hid (HQD.out.below HB4.out)
              have HBW4 := Lib.hid (HBQ.out.trans (HB4.out.mono HBQ.out.size))
              have c6 := HQD4.out.1.1.c1
              have hs6 := HQD4.out.1.1.lt
              clear k1 k2 HQV HNQ HQD HRV0
              go_wp2_with fail
              refine (add_dig _ _ lo1 Rr (by omega) (by omega) _ HDD.out.2.1 HRV.out.1 (HQD4.out.2.1.2.1) HNR.out.at).mono ?_
              rintro e w5 ⟨S5, v5, ⟨hS51, hS52, hS53⟩, rfl, hne5, hos5, hb5⟩
              obtain ⟨g5, c5, rfl⟩ := ownD_shape hos5 hne5
              have hS5l : S5.length ≤ 20001 + (k + 1) := by omega
              have HQ5 := Lib.hid (HQD4.out.below hb5)
              have HQD5' : Hid (Quad (w5.setCell ⟨W.heap.size, 1, none⟩ (.slice (some ⟨g5, 0, none⟩) S5.length c5)) _ _ _ _ _ _ _ _ _ _) := Lib.hid (HQ5.out.set61 (hos5.at (by omega)))
              have HS5 := Lib.hid (And.intro hS51 hS52)
              have HBW5' : Hid (Below W.heap.size W (w5.setCell ⟨W.heap.size, 1, none⟩ (.slice (some ⟨g5, 0, none⟩) S5.length c5))) := Lib.hid ((HBW4.out.trans (hb5.mono HBW4.out.size)).setCell hb6 _)
              have HNR5' : Hid (DigsN (w5.setCell ⟨W.heap.size, 1, none⟩ (.slice (some ⟨g5, 0, none⟩) S5.length c5)) (.slice (some ⟨br, orr, none⟩) Rr.length cr) Rr) := Lib.hid ((HNR.out.below hb5).store HQ5.out.1.1 HQ5.out.2.1.1.ne HQ5.out.2.1.2.1.ne)
              have f5 := HQ5.out.1.1.fr (i := 1)
              have k5 := HQ5.out.1.1.c1
              have hs5 := HQ5.out.1.1.lt
              clear hos5 hb5 hS51 hS52 c6 hs6 HNR HQD4 HBW4 k3 k4
              go_upto_if 69 with fail
              obtain ⟨w5s, hw5⟩ : ∃ W', w5.setCell ⟨W.heap.size, 1, none⟩ (.slice (some ⟨g5, 0, none⟩) S5.length c5) = W' := ⟨_, rfl⟩
              rw [hw5] at HQD5' HBW5' HNR5' ⊢
              have HQD5 := HQD5'
              have HBW5 := HBW5'
              have HNR5 := HNR5'
              clear hw5 HQD5' HBW5' HNR5' HQ5 f5 k5 hs5
              cases ex
              · have HO6 := Lib.hid ((oneD w5s 1).at (by simp))
                have BO6 : Hid (Below w5s.heap.size w5s (w5s.alloc (.cells #[.int .i64 1] 3))) := Lib.hid ((Below.refl _ _).alloc (Nat.le_refl _) _)
                go_wp2_with fail
                refine (add_dig _ _ Rr [1] (by omega) (by simp) _ HRV.out.1 (Dg.one (by omega)) (HNR5.out.at.below BO6.out) HO6.out).mono ?_
                rintro e w6 ⟨R6, v6, ⟨hR61, hR62, hR63⟩, rfl, hne6, hor6, hb6'⟩
                obtain ⟨g6, c6, rfl⟩ := ownD_shape hor6 hne6
                have hR6l : R6.length ≤ 20001 := by simp at hR63; omega
                have HB6 : Hid (Below w5s.heap.size w5s w6) := Lib.hid (BO6.out.trans (hb6'.mono BO6.out.size))
                have HQD6 := Lib.hid (HQD5.out.below HB6.out)
                have HNR6 := Lib.hid (hor6.at (by omega))
                have HV6 : Hid (Dg R6 ∧ dval R6 = dval Rr + 1) := Lib.hid ⟨hR61, by rw [hR62]; rfl⟩
                have HBW6 := Lib.hid (HBW5.out.trans (HB6.out.mono HBW5.out.size))
                clear hor6 hb6' hR61 hR62 hR63 HO6 BO6 hne6
                have c7 := HQD6.out.1.2.c1
                have hs7 := HQD6.out.1.2.lt
                go_wp2_with fail
                refine (add_dig _ _ hi1 R6 (by omega) (by omega) _ HDD.out.2.2.2 HV6.out.1 (HQD6.out.2.1.2.2.2) HNR6.out).mono ?_
                rintro e w7 ⟨S7, v7, ⟨hS71, hS72, hS73⟩, rfl, hne7, hos7, hb7'⟩
                obtain ⟨g7, c7', rfl⟩ := ownD_shape hos7 hne7
                have HQD7 := Lib.hid (HQD6.out.below hb7')
                have HNS7 := Lib.hid (hos7.at (by omega))
                have HBW7 := Lib.hid (HBW6.out.trans (hb7'.mono HBW6.out.size))
                have f7 := HQD7.out.1.2.fr (i := 1)
                have hs7' := HQD7.out.1.2.lt
                have k7 := HQD7.out.1.2.c1
                have HI2 : Hid (SgI W (w7.setCell ⟨W.heap.size + 1, 1, none⟩ (.slice (some ⟨g7, 0, none⟩) S7.length c7')) W.heap.size (W.heap.size + 1) m (k + 1) l (.slice x0 lo0.length z0) (.slice (some ⟨g5, 0, none⟩) S5.length c5) (.slice y0 hi0.length u0) (.slice (some ⟨g7, 0, none⟩) S7.length c7')) := Lib.hid (by
                  refine ⟨lo0, S5, hi0, S7, HQD7.out.set71 HNS7.out, ⟨HDD.out.1, HS5.out.1, HDD.out.2.2.1, hS71⟩, ⟨by omega, by omega, by omega, by omega⟩, ?_, HBW7.out.setCell hb7 _, hb6, hb7⟩
                  have hv := HVAL.out
                  have r1 := HRV.out.2.1
                  have r2 : decH m (c, (rn : Int)) = dval R6 := (by have := HRV.out.2.2; have := HV6.out.2; simp at *; omega)
                  rw [HST.out, HST.out, HST.out, HST.out]
                  simp only [hsd.out, if_pos, Bool.false_eq_true, if_false, Bool.true_eq_false]
                  rw [hS72, HS5.out.2, ← r1, r2]
                  simp
                  omega)
                clear hos7 hb7' hS71 hS72 hS73
                go_wp2
                go_roundw
                case rel => exact ⟨k + 1, _, _, _, _, by go_num, hlt, HI2⟩
                case measure => simp [intOf]; omega
              · have c7 := HQD5.out.1.2.c1
                have hs7 := HQD5.out.1.2.lt
                go_wp2_with fail
                refine (add_dig _ _ hi1 Rr (by omega) (by omega) _ HDD.out.2.2.2 HRV.out.1 (HQD5.out.2.1.2.2.2) HNR5.out.at).mono ?_
                rintro e w7 ⟨S7, v7, ⟨hS71, hS72, hS73⟩, rfl, hne7, hos7, hb7'⟩
                obtain ⟨g7, c7', rfl⟩ := ownD_shape hos7 hne7
                have HQD7 := Lib.hid (HQD5.out.below hb7')
                have HNS7 := Lib.hid (hos7.at (by omega))
                have HBW7 := Lib.hid (HBW5.out.trans (hb7'.mono HBW5.out.size))
                have f7 := HQD7.out.1.2.fr (i := 1)
                have hs7' := HQD7.out.1.2.lt
                have k7 := HQD7.out.1.2.c1
                have HI2 : Hid (SgI W (w7.setCell ⟨W.heap.size + 1, 1, none⟩ (.slice (some ⟨g7, 0, none⟩) S7.length c7')) W.heap.size (W.heap.size + 1) m (k + 1) l (.slice x0 lo0.length z0) (.slice (some ⟨g5, 0, none⟩) S5.length c5) (.slice y0 hi0.length u0) (.slice (some ⟨g7, 0, none⟩) S7.length c7')) := Lib.hid (by
                  refine ⟨lo0, S5, hi0, S7, HQD7.out.set71 HNS7.out, ⟨HDD.out.1, HS5.out.1, HDD.out.2.2.1, hS71⟩, ⟨by omega, by omega, by omega, by omega⟩, ?_, HBW7.out.setCell hb7 _, hb6, hb7⟩
                  have hv := HVAL.out
                  have r1 := HRV.out.2.1
                  have r2 : decH m (c, (rn : Int)) = dval Rr := (by have := HRV.out.2.2; simp at this; omega)
                  rw [HST.out, HST.out, HST.out, HST.out]
                  simp only [hsd.out, if_pos, Bool.false_eq_true, if_false, Bool.true_eq_false]
                  rw [hS72, HS5.out.2, ← r1, r2]
                  simp
                  omega)
                clear hos7 hb7' hS71 hS72 hS73
                go_wp2
                go_roundw
                case rel => exact ⟨k + 1, _, _, _, _, by go_num, hlt, HI2⟩
                case measure => simp [intOf]; omega
            · have hsd : decide (c < 0) = false := decide_eq_false hcn
              replace hsd := Lib.hid hsd
              go_wp2_with fail
              go_region_held3 (fun w' => w'.cell? ⟨bb, off + k * 2, none⟩ = some (.int .i64 c) ∧ w'.cell? ⟨bb, off + k * 2 + 1, none⟩ = some (.int .i64 (rn : Nat)))
                (first | exact ⟨k1, k2⟩ | exact k4 | exact k3 | (go_keep; done))
                (first
                  | (go_at_call 70; refine (HSQ.out wr.drew).mono ?_; rintro e w3 ⟨Q, vq, ⟨hQ1, hQ2, hQ3, hQ4⟩, rfl, hnq, hb3⟩; obtain ⟨gq, oq, cq, rfl⟩ : ∃ b o c, vq = .slice (some ⟨b, o, none⟩) Q.length c := (by obtain ⟨_, b, o, c, e, _⟩ := hnq; exact ⟨b, o, c, e⟩); have HNQ := Lib.hid hnq; have B3 : Below wr.heap.size wr w3 := (Below.trans ((Below.refl _ wr).drew) (hb3.mono (Nat.le_refl _))); have HB3 := Lib.hid B3; have k3 := HKC.out w3 (HB0'.out.trans (B3.mono HB0'.out.size)); have HQV := Lib.hid (And.intro hQ1 hQ2); have HQ3 := Lib.hid hQ3; clear hnq hb3 B3 hQ1 hQ2 hQ3)
                  | (go_at_call 69; refine (rooted_dig (.slice (some ⟨gq, oq, none⟩) Q.length cq) Q m hQ4 (by omega) HQ3.out _ HQV.out.1 HNQ.out).mono ?_; rintro e w4 ⟨Rr, vr, ex, hR1, hR2, hR3, hR4, rfl, hnr, hb4⟩; obtain ⟨br, orr, cr, rfl⟩ : ∃ b o c, vr = .slice (some ⟨b, o, none⟩) Rr.length c := (by obtain ⟨_, b, o, c, e, _⟩ := hnr; exact ⟨b, o, c, e⟩); have HNR := Lib.hid hnr; have B4 := HB3.out.trans (hb4.mono HB3.out.size); have HB4 := Lib.hid B4; have k4 := HKC.out w4 (HB0'.out.trans (B4.mono HB0'.out.size)); have HRV0 := Lib.hid (And.intro hR1 (dec_val HQV.out.2 hR2 hR3)); clear hnr hb4 B4 hR1 hR2 hR3))
              have HRV : Hid (Dg Rr ∧ dval Rr = decT m (c, (rn : Int)) ∧ decH m (c, (rn : Int)) = dval Rr + (if ex = true then 0 else 1)) := HRV0
              have HQD4 := Lib.hid (HQD.out.below HB4.out)
              have HBW4 := Lib.hid (HBQ.out.trans (HB4.out.mono HBQ.out.size))
              have c6 := HQD4.out.1.1.c0
              have hs6 := HQD4.out.1.1.lt
              clear k1 k2 HQV HNQ HQD HRV0
              go_wp2_with fail
              refine (add_dig _ _ lo0 Rr (by omega) (by omega) _ HDD.out.1 HRV.out.1 (HQD4.out.2.1.1) HNR.out.at).mono ?_
              rintro e w5 ⟨S5, v5, ⟨hS51, hS52, hS53⟩, rfl, hne5, hos5, hb5⟩
              obtain ⟨g5, c5, rfl⟩ := ownD_shape hos5 hne5
              have hS5l : S5.length ≤ 20001 + (k + 1) := by omega
              have HQ5 := Lib.hid (HQD4.out.below hb5)
              have HQD5' : Hid (Quad (w5.setCell ⟨W.heap.size, 0, none⟩ (.slice (some ⟨g5, 0, none⟩) S5.length c5)) _ _ _ _ _ _ _ _ _ _) := Lib.hid (HQ5.out.set60 (hos5.at (by omega)))
              have HS5 := Lib.hid (And.intro hS51 hS52)
              have HBW5' : Hid (Below W.heap.size W (w5.setCell ⟨W.heap.size, 0, none⟩ (.slice (some ⟨g5, 0, none⟩) S5.length c5))) := Lib.hid ((HBW4.out.trans (hb5.mono HBW4.out.size)).setCell hb6 _)
              have HNR5' : Hid (DigsN (w5.setCell ⟨W.heap.size, 0, none⟩ (.slice (some ⟨g5, 0, none⟩) S5.length c5)) (.slice (some ⟨br, orr, none⟩) Rr.length cr) Rr) := Lib.hid ((HNR.out.below hb5).store HQ5.out.1.1 HQ5.out.2.1.1.ne HQ5.out.2.1.2.1.ne)
              have f5 := HQ5.out.1.1.fr (i := 0)
              have k5 := HQ5.out.1.1.c0
              have hs5 := HQ5.out.1.1.lt
              clear hos5 hb5 hS51 hS52 c6 hs6 HNR HQD4 HBW4 k3 k4
              go_upto_if 69 with fail
              obtain ⟨w5s, hw5⟩ : ∃ W', w5.setCell ⟨W.heap.size, 0, none⟩ (.slice (some ⟨g5, 0, none⟩) S5.length c5) = W' := ⟨_, rfl⟩
              rw [hw5] at HQD5' HBW5' HNR5' ⊢
              have HQD5 := HQD5'
              have HBW5 := HBW5'
              have HNR5 := HNR5'
              clear hw5 HQD5' HBW5' HNR5' HQ5 f5 k5 hs5
              cases ex
              · have HO6 := Lib.hid ((oneD w5s 1).at (by simp))
                have BO6 : Hid (Below w5s.heap.size w5s (w5s.alloc (.cells #[.int .i64 1] 3))) := Lib.hid ((Below.refl _ _).alloc (Nat.le_refl _) _)
                go_wp2_with fail
                refine (add_dig _ _ Rr [1] (by omega) (by simp) _ HRV.out.1 (Dg.one (by omega)) (HNR5.out.at.below BO6.out) HO6.out).mono ?_
                rintro e w6 ⟨R6, v6, ⟨hR61, hR62, hR63⟩, rfl, hne6, hor6, hb6'⟩
                obtain ⟨g6, c6, rfl⟩ := ownD_shape hor6 hne6
                have hR6l : R6.length ≤ 20001 := by simp at hR63; omega
                have HB6 : Hid (Below w5s.heap.size w5s w6) := Lib.hid (BO6.out.trans (hb6'.mono BO6.out.size))
                have HQD6 := Lib.hid (HQD5.out.below HB6.out)
                have HNR6 := Lib.hid (hor6.at (by omega))
                have HV6 : Hid (Dg R6 ∧ dval R6 = dval Rr + 1) := Lib.hid ⟨hR61, by rw [hR62]; rfl⟩
                have HBW6 := Lib.hid (HBW5.out.trans (HB6.out.mono HBW5.out.size))
                clear hor6 hb6' hR61 hR62 hR63 HO6 BO6 hne6
                have c7 := HQD6.out.1.2.c0
                have hs7 := HQD6.out.1.2.lt
                go_wp2_with fail
                refine (add_dig _ _ hi0 R6 (by omega) (by omega) _ HDD.out.2.2.1 HV6.out.1 (HQD6.out.2.1.2.2.1) HNR6.out).mono ?_
                rintro e w7 ⟨S7, v7, ⟨hS71, hS72, hS73⟩, rfl, hne7, hos7, hb7'⟩
                obtain ⟨g7, c7', rfl⟩ := ownD_shape hos7 hne7
                have HQD7 := Lib.hid (HQD6.out.below hb7')
                have HNS7 := Lib.hid (hos7.at (by omega))
                have HBW7 := Lib.hid (HBW6.out.trans (hb7'.mono HBW6.out.size))
                have f7 := HQD7.out.1.2.fr (i := 0)
                have hs7' := HQD7.out.1.2.lt
                have k7 := HQD7.out.1.2.c0
                have HI2 : Hid (SgI W (w7.setCell ⟨W.heap.size + 1, 0, none⟩ (.slice (some ⟨g7, 0, none⟩) S7.length c7')) W.heap.size (W.heap.size + 1) m (k + 1) l (.slice (some ⟨g5, 0, none⟩) S5.length c5) (.slice x1 lo1.length z1) (.slice (some ⟨g7, 0, none⟩) S7.length c7') (.slice y1 hi1.length u1)) := Lib.hid (by
                  refine ⟨S5, lo1, S7, hi1, HQD7.out.set70 HNS7.out, ⟨HS5.out.1, HDD.out.2.1, hS71, HDD.out.2.2.2⟩, ⟨by omega, by omega, by omega, by omega⟩, ?_, HBW7.out.setCell hb7 _, hb6, hb7⟩
                  have hv := HVAL.out
                  have r1 := HRV.out.2.1
                  have r2 : decH m (c, (rn : Int)) = dval R6 := (by have := HRV.out.2.2; have := HV6.out.2; simp at *; omega)
                  rw [HST.out, HST.out, HST.out, HST.out]
                  simp only [hsd.out, if_pos, Bool.false_eq_true, if_false, Bool.true_eq_false]
                  rw [hS72, HS5.out.2, ← r1, r2]
                  simp
                  omega)
                clear hos7 hb7' hS71 hS72 hS73
                go_wp2
                go_roundw
                case rel => exact ⟨k + 1, _, _, _, _, by go_num, hlt, HI2⟩
                case measure => simp [intOf]; omega
              · have c7 := HQD5.out.1.2.c0
                have hs7 := HQD5.out.1.2.lt
                go_wp2_with fail
                refine (add_dig _ _ hi0 Rr (by omega) (by omega) _ HDD.out.2.2.1 HRV.out.1 (HQD5.out.2.1.2.2.1) HNR5.out.at).mono ?_
                rintro e w7 ⟨S7, v7, ⟨hS71, hS72, hS73⟩, rfl, hne7, hos7, hb7'⟩
                obtain ⟨g7, c7', rfl⟩ := ownD_shape hos7 hne7
                have HQD7 := Lib.hid (HQD5.out.below hb7')
                have HNS7 := Lib.hid (hos7.at (by omega))
                have HBW7 := Lib.hid (HBW5.out.trans (hb7'.mono HBW5.out.size))
                have f7 := HQD7.out.1.2.fr (i := 0)
                have hs7' := HQD7.out.1.2.lt
                have k7 := HQD7.out.1.2.c0
                have HI2 : Hid (SgI W (w7.setCell ⟨W.heap.size + 1, 0, none⟩ (.slice (some ⟨g7, 0, none⟩) S7.length c7')) W.heap.size (W.heap.size + 1) m (k + 1) l (.slice (some ⟨g5, 0, none⟩) S5.length c5) (.slice x1 lo1.length z1) (.slice (some ⟨g7, 0, none⟩) S7.length c7') (.slice y1 hi1.length u1)) := Lib.hid (by
                  refine ⟨S5, lo1, S7, hi1, HQD7.out.set70 HNS7.out, ⟨HS5.out.1, HDD.out.2.1, hS71, HDD.out.2.2.2⟩, ⟨by omega, by omega, by omega, by omega⟩, ?_, HBW7.out.setCell hb7 _, hb6, hb7⟩
                  have hv := HVAL.out
                  have r1 := HRV.out.2.1
                  have r2 : decH m (c, (rn : Int)) = dval Rr := (by have := HRV.out.2.2; simp at this; omega)
                  rw [HST.out, HST.out, HST.out, HST.out]
                  simp only [hsd.out, if_pos, Bool.false_eq_true, if_false, Bool.true_eq_false]
                  rw [hS72, HS5.out.2, ← r1, r2]
                  simp
                  omega)
                clear hos7 hb7' hS71 hS72 hS73
                go_wp2
                go_roundw
                case rel => exact ⟨k + 1, _, _, _, _, by go_num, hlt, HI2⟩
                case measure => simp [intOf]; omega
end Go.Proofs.YtedpafdfecofnaaGreatDoor
