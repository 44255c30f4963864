/-
  Contracts of the program's own functions (and their plain mathematics), on the way to the law: each for all arguments that its hypotheses let.
-/
import Derived.Test.YtedpafdfecofnaaGreatDoorF1
import Derived.WalkKit
import Derived.WalkSpells
import Derived.WalkLawsBesides
import Derived.Deep.QuietTactic
import Derived.BigQuiet
import Derived.Lib.Hide
import Derived.WalkSmall
import Derived.Maps.OwnSet
import Derived.Maps.RangeWalk
import Derived.Deep.RegionWith
import Derived.Deep.RegionHeld3
import Derived.OneCell
import Derived.RangeFuncBox
set_option linter.unusedSimpArgs false
set_option linter.unusedVariables false

/-! ## S6 -/
namespace Go.Proofs.YtedpafdfecofnaaGreatDoor
open Go.RowKit Go.Maps
theorem und67 : Tryz.prog.underlying 67 = some (.map 3 3) := by kernel_rfl
theorem und3 : Tryz.prog.underlying 3 = some (.int .i64) := by kernel_rfl
theorem law3 : Keyed Tryz.prog 3 := int_keyed und3
theorem zero3 (w : World) : (zeroValue 3).run Tryz.prog w = .ok (.int .i64 0) w := by kernel_rfl


/-- A datum of a map that holds just these coefficients. -/
def SumD (D : DataW Unit) (c : Int → Int) : Prop :=
  IsMap D ∧ ∀ r, (c r ≠ 0 → ∀ z, D.atKey (.int .i64 r) z = .lit (.int .i64 (c r))) ∧ (c r = 0 → Maps.has D (.int .i64 r) = false)
def OwnSum (w : World) (b n : Nat) (c : Int → Int) : Prop := ∃ D, w.ownsMap Tryz.prog 3 (plainElem Tryz.prog 3) b n D ∧ SumD D c

theorem SumD.at0 {D : DataW Unit} {c : Int → Int} (h : SumD D c) {r x : Int} (hat : D.atKey (.int .i64 r) (.lit (.int .i64 0)) = .lit (.int .i64 x)) : x = c r := by
  by_cases h0 : c r = 0
  · have := (h.2 r).2 h0
    rw [atKey_of_not_has this] at hat
    simp at hat; omega
  · rw [(h.2 r).1 h0] at hat; simp at hat; exact hat.symm
def upd (c : Int → Int) (r x : Int) : Int → Int := fun s => if s = r then x else c s
theorem SumD.put {D : DataW Unit} {c : Int → Int} (h : SumD D c) (r x : Int) (hx : x ≠ 0) : SumD (D.put (.int .i64 r) (.lit (.int .i64 x))) (upd c r x) := by
  refine ⟨h.1.put _ _, fun s => ?_⟩
  by_cases hs : s = r
  · subst hs
    simp only [upd, if_pos]
    exact ⟨fun _ z => atKey_put_same (k := .int .i64 s) h.1 trivial _ _, fun h0 => absurd h0 hx⟩
  · have hne : (Lit.int .i64 s) ≠ .int .i64 r := by simpa using hs
    simp only [upd, if_neg hs]
    exact ⟨fun h0 z => by rw [atKey_put_other hne]; exact (h.2 s).1 h0 z, fun h0 => by rw [has_put_other hne]; exact (h.2 s).2 h0⟩
theorem SumD.put_del {D : DataW Unit} {c : Int → Int} (h : SumD D c) (r : Int) (d : DataW Unit) : SumD ((D.put (.int .i64 r) d).del (.int .i64 r)) (upd c r 0) := by
  refine ⟨(h.1.put _ _).del _, fun s => ?_⟩
  by_cases hs : s = r
  · subst hs
    simp only [upd, if_pos]
    exact ⟨fun h0 => absurd rfl h0, fun _ => has_del_same⟩
  · have hne : (Lit.int .i64 s) ≠ .int .i64 r := by simpa using hs
    simp only [upd, if_neg hs]
    exact ⟨fun h0 z => by rw [atKey_del_other hne, atKey_put_other hne]; exact (h.2 s).1 h0 z, fun h0 => by rw [has_del_other hne, has_put_other hne]; exact (h.2 s).2 h0⟩
theorem sumD_empty : SumD (.map []) (fun _ => 0) := ⟨isMap_empty, fun r => ⟨fun h => absurd rfl h, fun _ => rfl⟩⟩

/-- How often a root stands in a list of terms. -/
def coefOf (l : List (Int × Int)) (r : Int) : Int := l.foldl (fun s t => if t.2 = r then s + t.1 else s) 0
theorem coefOf_snoc (l : List (Int × Int)) (t : Int × Int) (r : Int) : coefOf (l ++ [t]) r = if t.2 = r then coefOf l r + t.1 else coefOf l r := by
  unfold coefOf; rw [List.foldl_append]; rfl
theorem coefOf_take_succ (l : List (Int × Int)) (k : Nat) (h : k < l.length) (r : Int) : coefOf (l.take (k + 1)) r = if (l[k]?.getD (0, 0)).2 = r then coefOf (l.take k) r + (l[k]?.getD (0, 0)).1 else coefOf (l.take k) r := by
  rw [List.take_succ_eq_append_getElem h, coefOf_snoc]; simp [h]

def plusC (c : Int → Int) (m : Int) (l : List (Int × Int)) : Int → Int := fun r => c r + m * coefOf l r
theorem plusC_succ (c : Int → Int) (m : Int) (l : List (Int × Int)) (k : Nat) (h : k < l.length) :
    plusC c m (l.take (k + 1)) = upd (plusC c m (l.take k)) (l[k]?.getD (0, 0)).2 (plusC c m (l.take k) (l[k]?.getD (0, 0)).2 + m * (l[k]?.getD (0, 0)).1) := by
  funext s
  simp only [plusC, upd]
  rw [coefOf_take_succ l k h]
  by_cases hs : (l[k]?.getD (0, 0)).2 = s
  · rw [if_pos hs, if_pos hs.symm, hs, Int.mul_add]; omega
  · rw [if_neg hs, if_neg (fun e => hs e.symm)]

set_option maxRecDepth 100000 in
set_option maxHeartbeats 1000000 in
theorem add_cells (B n : Nat) (c : Int → Int) (m : Int) (b off cap : Nat) (l : List (Int × Int)) (w : World) (hb : b < w.heap.size) (hBb : B ≠ b) (hc : TermsC w b off l) (hl : l.length ≤ 1000) (hn : n ≤ 1000000)
    (hs : OwnSum w B n c) (hkb : Hid (∀ t ∈ l, -1000000000000 ≤ t.2 ∧ t.2 ≤ 1000000000000 ∧ -9000000000000000000 ≤ m * t.1 ∧ m * t.1 ≤ 9000000000000000000))
    (hcb : Hid (∀ k, k ≤ l.length → ∀ r, -9000000000000000000 ≤ plusC c m (l.take k) r ∧ plusC c m (l.take k) r ≤ 9000000000000000000)) :
    Calls Tryz.prog 53 #[.map (some B), .int .i64 m, .slice (some ⟨b, off, none⟩) l.length cap] w fun e w' => e = .returned (.tuple #[]) ∧ OwnSum w' B (n + l.length) (plusC c m l) ∧ w.grownBy w' (some B) := by
  have HC := Lib.hid hc
  clear hc
  have HSM := Lib.hid hs
  clear hs
  go_enter Tryz.func53, Tryz.ntmps53
  go_wp2
  go_loopw [10] (fun i wr => ∃ k : Nat, k ≤ l.length ∧ i = .int .i64 k ∧ Hid (OwnSum wr B (n + k) (plusC c m (l.take k))) ∧ Hid (w.grownBy wr (some B))) (fun i _ => l.length - (intOf i).toNat)
  case atStart => exact ⟨0, Nat.zero_le _, rfl, Lib.hid (by have e : plusC c m (l.take 0) = c := by { funext r; simp [plusC, coefOf] }; rw [e]; exact HSM.out), Lib.hid (World.grownBy.refl _ _)⟩
  case round =>
    obtain ⟨k, hk, rfl, HO, HG⟩ := hrel
    by_cases hlt : k < l.length
    · obtain ⟨hc1, hc2⟩ := HC.out k hlt
      replace hc1 := HG.out.cell hc1 (by simp; omega)
      replace hc2 := HG.out.cell hc2 (by simp; omega)
      have hsu := plusC_succ c m l k hlt
      have hbk := hkb.out (l[k]?.getD (0, 0)) (by simp [hlt])
      have hbn := hcb.out (k + 1) (by omega)
      have hbn0 := hcb.out k (by omega)
      obtain ⟨x, r, hel⟩ : ∃ x r, l[k]?.getD (0, 0) = (x, r) := ⟨_, _, rfl⟩
      rw [hel] at hc1 hc2 hsu hbk
      rw [hsu] at hbn
      replace hbn := hbn r
      replace hbn0 := hbn0 r
      dsimp only at hc1 hc2 hsu hbk hbn
      simp only [upd, if_pos] at hbn
      have HSU := Lib.hid hsu
      obtain ⟨hk1, hk2, hm1, hm2⟩ := hbk
      clear hel hsu
      obtain ⟨D, hown, hsd⟩ := HO.out
      generalize hpc : plusC c m (l.take k) = pc at hsd hbn hbn0 HSU
      obtain ⟨hb1, hb2⟩ := hbn
      obtain ⟨hb3, hb4⟩ := hbn0
      have HSD := Lib.hid hsd
      clear hsd hpc HO
      have hkey : keyOf Tryz.prog 3 (.int .i64 r) = some (.int .i64 r) := keyOf_int_mk und3 (WalkArith.wf_i64 (by omega))
      have hwf : (Lit.int .i64 (pc r + m * x)).wf = true := WalkArith.wf_i64 (by omega)
      have hput : ∀ x2 : Int, (D.put (.int .i64 r) (.lit (.int .i64 (pc r + m * x)))).atKey (.int .i64 r) (.lit (.int .i64 0)) = .lit (.int .i64 x2) → x2 = pc r + m * x := by
        intro x2 h2
        rw [atKey_put_same (k := .int .i64 r) HSD.out.1 trivial] at h2
        simp at h2; omega
      have HPUT := Lib.hid hput
      clear hput
      have HAT : Hid (∀ x1 : Int, D.atKey (.int .i64 r) (.lit (.int .i64 0)) = .lit (.int .i64 x1) → x1 = pc r) := Lib.hid (fun x1 => HSD.out.at0)
      have hBlt := hown.lt
      by_cases hz : pc r + m * x = 0
      · have hz1 : (pc r + m * x == 0) = true := by simpa using hz
        have HD : Hid (SumD ((D.put (.int .i64 r) (.lit (.int .i64 (pc r + m * x)))).del (.int .i64 r)) (plusC c m (l.take (k + 1)))) := Lib.hid (by rw [HSU.out, hz]; exact HSD.out.put_del r _)
        clear hz
        go_wp2_with (first
          | (at_lookup; refine wpList_lookup_own_int _ rfl _ _ 67 rfl 3 3 .i64 law3 und67 und3 (zero3 _) B (n + k) _ rfl (hown.alloc _) _ _ rfl hkey ?_; intro x1 hat hwc; obtain rfl := HAT.out x1 hat; clear hat)
          | (at_mapUpdate; refine wpList_mapUpdate_own _ rfl _ _ _ 67 rfl 3 3 law3 und67 _ B (n + k) _ rfl (hown.alloc _) (by unfold maxLen; omega) _ _ _ rfl rfl hkey _ [] (plainElem_int und3 hwf) ?_; intro w1 hown1 hgrow1; have hx1 := hgrow1.cell (a := ⟨wr.heap.size, 1, none⟩) (v := .int .i64 r) (cell_two_new _ _ _ _ 1 _ rfl) (by simp; omega); clear hown)
          | (at_lookup; refine wpList_lookup_own_int _ rfl _ _ 67 rfl 3 3 .i64 law3 und67 und3 (zero3 _) B (n + k + 1) _ rfl hown1 _ _ rfl hkey ?_; intro x2 hat2 hwc2; obtain rfl := HPUT.out x2 hat2; clear hat2)
          | (at_delete; refine wpList_delete_own _ rfl _ _ _ _ rfl 3 law3 und67 _ B (n + k + 1) _ rfl hown1 _ _ rfl hkey ?_; intro w2 hown2 hturn; go_frame))
        go_roundw
        case rel => exact ⟨k + 1, by omega, by go_num, Lib.hid ⟨_, hown2, HD.out⟩, Lib.hid (((HG.out.trans (World.grownBy_alloc _ _ _)).trans hgrow1).trans hturn.grown)⟩
        case measure => simp [intOf]; omega
      · have hz1 : (pc r + m * x == 0) = false := by simpa using hz
        have HD : Hid (SumD (D.put (.int .i64 r) (.lit (.int .i64 (pc r + m * x)))) (plusC c m (l.take (k + 1)))) := Lib.hid (by rw [HSU.out]; exact HSD.out.put r _ hz)
        clear hz
        go_wp2_with (first
          | (at_lookup; refine wpList_lookup_own_int _ rfl _ _ 67 rfl 3 3 .i64 law3 und67 und3 (zero3 _) B (n + k) _ rfl (hown.alloc _) _ _ rfl hkey ?_; intro x1 hat hwc; obtain rfl := HAT.out x1 hat; clear hat)
          | (at_mapUpdate; refine wpList_mapUpdate_own _ rfl _ _ _ 67 rfl 3 3 law3 und67 _ B (n + k) _ rfl (hown.alloc _) (by unfold maxLen; omega) _ _ _ rfl rfl hkey _ [] (plainElem_int und3 hwf) ?_; intro w1 hown1 hgrow1; have hx1 := hgrow1.cell (a := ⟨wr.heap.size, 1, none⟩) (v := .int .i64 r) (cell_two_new _ _ _ _ 1 _ rfl) (by simp; omega); clear hown)
          | (at_lookup; refine wpList_lookup_own_int _ rfl _ _ 67 rfl 3 3 .i64 law3 und67 und3 (zero3 _) B (n + k + 1) _ rfl hown1 _ _ rfl hkey ?_; intro x2 hat2 hwc2; obtain rfl := HPUT.out x2 hat2; clear hat2))
        go_roundw
        case rel => exact ⟨k + 1, by omega, by go_num, Lib.hid ⟨_, hown1, HD.out⟩, Lib.hid ((HG.out.trans (World.grownBy_alloc _ _ _)).trans hgrow1)⟩
        case measure => simp [intOf]; omega
    · have hk : k = l.length := by omega
      have HO2 : Hid (OwnSum wr B (n + l.length) (plusC c m l)) := Lib.hid (by have := HO.out; rwa [hk, List.take_length] at this)
      clear hk HO
      go_wp2
      go_end0
      exact ⟨rfl, HO2.out, HG.out⟩

theorem OwnSum.kept {w w' : World} {B n : Nat} {c : Int → Int} {row : Option Nat} (h : OwnSum w B n c) (hg : w.grownBy w' row) (hne : some B ≠ row) : OwnSum w' B n c := by
  obtain ⟨D, h1, h2⟩ := h; exact ⟨D, h1.kept hg hne, h2⟩
theorem OwnSum.lt {w : World} {B n : Nat} {c : Int → Int} (h : OwnSum w B n c) : B < w.heap.size := by
  obtain ⟨D, h1, h2⟩ := h; exact h1.lt
theorem OwnSum.mono {w : World} {B n n' : Nat} {c : Int → Int} (h : OwnSum w B n c) (hn : n ≤ n') : OwnSum w B n' c := by
  obtain ⟨D, h1, h2⟩ := h; exact ⟨D, h1.mono hn, h2⟩
theorem OwnSum.below {w w' : World} {B n : Nat} {c : Int → Int} (h : OwnSum w B n c) (hw : Below w.heap.size w w') : OwnSum w' B n c := by
  obtain ⟨D, ⟨es, clock, h1, h2, h3, h4⟩, h5⟩ := h
  have hB : B < w.heap.size := (Array.getElem?_eq_some_iff.1 h1).1
  exact ⟨D, ⟨es, clock, (hw.block B hB).trans h1, h2, h3, h4⟩, h5⟩

def AddTo (B n : Nat) (c : Int → Int) (w : World) (e : Ending) (w' : World) : Prop := e = .returned (.tuple #[]) ∧ OwnSum w' B n c ∧ w.grownBy w' (some B)

theorem add_at (B n : Nat) (c : Int → Int) (m : Int) (v : Value) (l : List (Int × Int)) (w : World) (ht : TermsAt w v l) (hBb : ∀ b off len cap, v = .slice (some ⟨b, off, none⟩) len cap → len ≠ 0 → B ≠ b) (hl : l.length ≤ 1000) (hn : n ≤ 1000000)
    (hs : OwnSum w B n c) (hkb : Hid (∀ t ∈ l, -1000000000000 ≤ t.2 ∧ t.2 ≤ 1000000000000 ∧ -9000000000000000000 ≤ m * t.1 ∧ m * t.1 ≤ 9000000000000000000))
    (hcb : Hid (∀ k, k ≤ l.length → ∀ r, -9000000000000000000 ≤ plusC c m (l.take k) r ∧ plusC c m (l.take k) r ≤ 9000000000000000000)) :
    Calls Tryz.prog 53 #[.map (some B), .int .i64 m, v] w (AddTo B (n + l.length) (plusC c m l) w) := by
  obtain ⟨hl, ⟨rfl, a, cap, rfl⟩ | ⟨b, off, cap, rfl, _, hb, hc⟩⟩ := ht
  · have HS := Lib.hid hs
    clear hs
    go_enter Tryz.func53, Tryz.ntmps53
    go_wp2
    refine wp_loop_rounds 1 ?_
    rw [rounds_succ]
    go_wp2
    go_end0
    exact ⟨rfl, by have e : plusC c m [] = c := by { funext r; simp [plusC, coefOf] }
                   rw [e]; exact HS.out, World.grownBy.refl _ _⟩
  · by_cases h0 : l.length = 0
    · have : l = [] := List.length_eq_zero_iff.1 h0
      subst this
      have HS := Lib.hid hs
      clear hs
      simp only [List.length_nil]
      go_enter Tryz.func53, Tryz.ntmps53
      go_wp2
      refine wp_loop_rounds 1 ?_
      rw [rounds_succ]
      go_wp2
      go_end0
      exact ⟨rfl, by have e : plusC c m [] = c := by { funext r; simp [plusC, coefOf] }
                     rw [e]; exact HS.out, World.grownBy.refl _ _⟩
    · exact add_cells B n c m b off cap l w hb (hBb b off _ cap rfl h0) hc (by omega) hn hs hkb hcb

theorem coefOf_bd (l : List (Int × Int)) (K : Int) (hK : 0 ≤ K) (h : ∀ t ∈ l, -K ≤ t.1 ∧ t.1 ≤ K) (r : Int) : -(K * l.length) ≤ coefOf l r ∧ coefOf l r ≤ K * l.length := by
  have key : ∀ (l : List (Int × Int)) (s : Int), (∀ t ∈ l, -K ≤ t.1 ∧ t.1 ≤ K) → s - K * l.length ≤ l.foldl (fun s t => if t.2 = r then s + t.1 else s) s ∧ l.foldl (fun s t => if t.2 = r then s + t.1 else s) s ≤ s + K * l.length := by
    intro l
    induction l with
    | nil => intro s _; simp
    | cons t l ih =>
      intro s h
      have ht := h t (by simp)
      have := ih (if t.2 = r then s + t.1 else s) (fun u hu => h u (by simp [hu]))
      simp only [List.foldl_cons, List.length_cons]
      have e : K * ((l.length + 1 : Nat) : Int) = K * l.length + K := by
        rw [Int.natCast_add, Int.mul_add]; simp
      rw [e]
      by_cases hr : t.2 = r
      · rw [if_pos hr] at this ⊢; omega
      · rw [if_neg hr] at this ⊢; omega
  have := key l 0 h
  unfold coefOf
  omega

theorem mul_abs_le (a b A B : Int) (h1 : -A ≤ a) (h2 : a ≤ A) (h3 : -B ≤ b) (h4 : b ≤ B) : -(A * B) ≤ a * b ∧ a * b ≤ A * B := by
  have ha : (a.natAbs : Int) ≤ A := by omega
  have hb : (b.natAbs : Int) ≤ B := by omega
  have h : (a.natAbs : Int) * b.natAbs ≤ A * B := Int.mul_le_mul ha hb (by omega) (by omega)
  have e : ((a * b).natAbs : Int) = (a.natAbs : Int) * b.natAbs := by rw [Int.natAbs_mul]; simp
  omega

/-- What a valid number is. -/
structure Vld (d : Int) (l : List (Int × Int)) : Prop where
  d1 : 1 ≤ d
  d2 : d ≤ 100000
  len : l.length ≤ 4
  cf : ∀ t ∈ l, -100000 ≤ t.1 ∧ t.1 ≤ 100000 ∧ t.1 ≠ 0
  rt : ∀ t ∈ l, 1 ≤ t.2 ∧ t.2 ≤ 1000
  sq : ∀ t ∈ l, SqF t.2
  asc : ascUp l l.length
  dv : dvF d l = 1
theorem vld_of {d : Int} {l : List (Int × Int)} (h : validF d l = true) : Vld d l := by
  simp only [validF, Bool.and_eq_true, decide_eq_true_eq, List.all_eq_true] at h
  obtain ⟨h0, h1, h2, h3, h4⟩ := h
  simp only [inB, Bool.and_eq_true, decide_eq_true_eq] at h0
  have ht : ∀ t ∈ l, (-100000 ≤ t.1 ∧ t.1 ≤ 100000 ∧ t.1 ≠ 0) ∧ (1 ≤ t.2 ∧ t.2 ≤ 1000) ∧ SqF t.2 := by
    intro t ht
    have := h2 t ht
    simp only [isTermF, isPartF, inB, Bool.and_eq_true, decide_eq_true_eq] at this
    have hr : 1 ≤ t.2 := by omega
    exact ⟨by omega, by omega, (sqfB_iff t.2 hr (by omega)).1 this.2⟩
  refine ⟨h0.1, h0.2, h1, fun t h => (ht t h).1, fun t h => (ht t h).2.1, fun t h => (ht t h).2.2, ?_, h4⟩
  intro i hi hil
  unfold ascF at h3
  rw [List.all_eq_true] at h3
  have := h3 i (by simp; exact hil)
  simp at this
  rcases this with h | h
  · omega
  · simpa using h

theorem plus_bd (c : Int → Int) (m : Int) (l : List (Int × Int)) (C M K : Int) (hc : ∀ r, -C ≤ c r ∧ c r ≤ C) (hm1 : -M ≤ m) (hm2 : m ≤ M) (hK : 0 ≤ K) (h : ∀ t ∈ l, -K ≤ t.1 ∧ t.1 ≤ K) (hM : 0 ≤ M) (L : Nat) (hL : l.length ≤ L) :
    ∀ k, k ≤ l.length → ∀ r, -(C + M * (K * L)) ≤ plusC c m (l.take k) r ∧ plusC c m (l.take k) r ≤ C + M * (K * L) := by
  intro k hk r
  have h1 := coefOf_bd (l.take k) K hK (fun t ht => h t (List.mem_of_mem_take ht)) r
  have h3 : K * ((l.take k).length : Int) ≤ K * L := Int.mul_le_mul_of_nonneg_left (by simp; omega) hK
  have h2 := mul_abs_le m (coefOf (l.take k) r) M (K * L) hm1 hm2 (by omega) (by omega)
  have := hc r
  unfold plusC
  omega


theorem TermsAt.blk {w : World} {v : Value} {l : List (Int × Int)} (h : TermsAt w v l) {B : Nat} (hB : w.heap.size ≤ B) : ∀ b off len cap, v = .slice (some ⟨b, off, none⟩) len cap → len ≠ 0 → B ≠ b := by
  intro b off len cap hv h0
  obtain ⟨_, ⟨rfl, a, cap', rfl⟩ | ⟨b', off', cap', rfl, _, hb, _⟩⟩ := h
  · simp at hv; omega
  · simp at hv; omega

def zeroC : Int → Int := fun _ => 0
def combC (dx : Int) (lx : List (Int × Int)) (dy : Int) (ly : List (Int × Int)) (s : Int) : Int → Int := plusC (plusC zeroC dy lx) (s * dx) ly
def SumTo (c : Int → Int) (w : World) (e : Ending) (w' : World) : Prop := ∃ B, e = .returned (.map (some B)) ∧ OwnSum w' B 1000 c ∧ Below w.heap.size w w'

theorem box2_grown {w w2 : World} {x y : Value} {T : TypeId} {row : Option Nat} (hg : (w.alloc (.cells #[x, y] T)).grownBy w2 row) (hne : some w.heap.size ≠ row) :
    w2.cell? ⟨w.heap.size, 0, none⟩ = some x ∧ w2.cell? ⟨w.heap.size, 1, none⟩ = some y :=
  ⟨hg.cell (a := ⟨w.heap.size, 0, none⟩) (cell_two_new w x y T 0 x rfl) hne, hg.cell (a := ⟨w.heap.size, 1, none⟩) (cell_two_new w x y T 1 y rfl) hne⟩

theorem ownSum_made {W : World} {b : Nat} (hb : b = W.heap.size) : OwnSum (W.alloc (.map #[] 0)) b 0 (fun _ => 0) := by
  subst hb; exact ⟨_, World.ownsMap_made _ _ _ _, sumD_empty⟩

set_option maxHeartbeats 1000000 in
theorem combined_any (dx dy s : Int) (vx vy : Value) (lx ly : List (Int × Int)) (w : World) (hx : TermsAt w vx lx) (hy : TermsAt w vy ly) (vldx : Vld dx lx) (vldy : Vld dy ly) (hs : s = 1 ∨ s = -1) :
    Calls Tryz.prog 59 #[.agg #[.int .i64 dx, vx], .agg #[.int .i64 dy, vy], .int .i64 s] w (SumTo (combC dx lx dy ly s) w) := by
  have hmm := @run_makeMap Tryz.prog
  have HX := Lib.hid hx
  have HY := Lib.hid hy
  have VX := Lib.hid vldx
  have VY := Lib.hid vldy
  clear hx hy vldx vldy
  have HS := Lib.hid hs
  have hd1 := VX.out.d1
  have hd2 := VX.out.d2
  have hd3 := VY.out.d1
  have hd4 := VY.out.d2
  have hs1 : -100000 ≤ s * dx := by rcases hs with rfl | rfl <;> omega
  have hs2 : s * dx ≤ 100000 := by rcases hs with rfl | rfl <;> omega
  clear hs
  have hB1 := plus_bd zeroC dy lx 0 100000 100000 (fun r => by simp [zeroC]) (by omega) (by omega) (by omega) (fun t ht => ⟨(VX.out.cf t ht).1, (VX.out.cf t ht).2.1⟩) (by omega) 4 VX.out.len
  have hB1f : ∀ r, -40000000000 ≤ plusC zeroC dy lx r ∧ plusC zeroC dy lx r ≤ 40000000000 := fun r => by have := hB1 lx.length (Nat.le_refl _) r; rw [List.take_length] at this; omega
  have hB2 := plus_bd (plusC zeroC dy lx) (s * dx) ly 40000000000 100000 100000 hB1f (by omega) (by omega) (by omega) (fun t ht => ⟨(VY.out.cf t ht).1, (VY.out.cf t ht).2.1⟩) (by omega) 4 VY.out.len
  have K1 : Hid (∀ t ∈ lx, -1000000000000 ≤ t.2 ∧ t.2 ≤ 1000000000000 ∧ -9000000000000000000 ≤ dy * t.1 ∧ dy * t.1 ≤ 9000000000000000000) := Lib.hid (fun t ht => by
    have h1 := VX.out.cf t ht
    have h2 := VX.out.rt t ht
    have h3 := mul_abs_le dy t.1 100000 100000 (by omega) (by omega) (by omega) (by omega)
    omega)
  have K2 : Hid (∀ t ∈ ly, -1000000000000 ≤ t.2 ∧ t.2 ≤ 1000000000000 ∧ -9000000000000000000 ≤ (s * dx) * t.1 ∧ (s * dx) * t.1 ≤ 9000000000000000000) := Lib.hid (fun t ht => by
    have h1 := VY.out.cf t ht
    have h2 := VY.out.rt t ht
    have h3 := mul_abs_le (s * dx) t.1 100000 100000 (by omega) (by omega) (by omega) (by omega)
    omega)
  have C1 : Hid (∀ k, k ≤ lx.length → ∀ r, -9000000000000000000 ≤ plusC zeroC dy (lx.take k) r ∧ plusC zeroC dy (lx.take k) r ≤ 9000000000000000000) := Lib.hid (fun k hk r => by have := hB1 k hk r; omega)
  have C2 : Hid (∀ k, k ≤ ly.length → ∀ r, -9000000000000000000 ≤ plusC (plusC zeroC dy lx) (s * dx) (ly.take k) r ∧ plusC (plusC zeroC dy lx) (s * dx) (ly.take k) r ≤ 9000000000000000000) := Lib.hid (fun k hk r => by have := hB2 k hk r; omega)
  clear hB1 hB1f hB2
  go_enter Tryz.func59, Tryz.ntmps59
  go_wp2_with fail
  refine (add_at (w.heap.size + 1 + 1) 0 zeroC dy vx lx _ (((HX.out.alloc _).alloc _).alloc _) (HX.out.blk (by omega)) (by have := VX.out.len; omega) (by omega) (ownSum_made (by simp)) K1 C1).mono ?_
  rintro e w1 ⟨rfl, ho1, hg1⟩
  have HBW : Hid (Below w.heap.size w w1) := Lib.hid (((((Below.refl _ _).alloc (Nat.le_refl _) _).alloc (by simp) _).alloc (by simp; omega) _).grown hg1 (by simp; omega) (by intro k hk; cases hk; omega))
  have HG1 := Lib.hid hg1
  have HO1 := Lib.hid ho1
  have a0 := hg1.cell (a := ⟨w.heap.size, 0, none⟩) (v := .int .i64 dx) (by go_simp) (by simp; omega)
  have a1 := hg1.cell (a := ⟨w.heap.size, 1, none⟩) (v := vx) (by go_simp) (by simp; omega)
  have b0 := hg1.cell (a := ⟨w.heap.size + 1, 0, none⟩) (v := .int .i64 dy) (by go_simp) (by simp)
  have b1 := hg1.cell (a := ⟨w.heap.size + 1, 1, none⟩) (v := vy) (by go_simp) (by simp)
  clear hg1 ho1
  go_wp2_with fail
  refine (add_at (w.heap.size + 1 + 1) (0 + lx.length) _ (s * dx) vy ly _ (HY.out.below HBW.out) (HY.out.blk (by omega)) (by have := VY.out.len; omega) (by have := VX.out.len; omega) HO1.out K2 C2).mono ?_
  rintro e w2 ⟨rfl, ho2, hg2⟩
  have HO2 := Lib.hid ho2
  have HB2 : Hid (Below w.heap.size w w2) := Lib.hid (HBW.out.grown hg2 HBW.out.size (by intro k hk; cases hk; omega))
  clear ho2 hg2
  go_wp2
  go_ret
  exact ⟨_, rfl, HO2.out.mono (by have := VX.out.len; have := VY.out.len; omega), HB2.out⟩
end Go.Proofs.YtedpafdfecofnaaGreatDoor

/-! ## S7 -/
namespace Go.Proofs.YtedpafdfecofnaaGreatDoor
open Go.RowKit Go.Maps
def mulT (t u : Int × Int) : Int × Int := (t.1 * u.1 * (Int.gcd t.2 u.2 : Int), t.2 / (Int.gcd t.2 u.2 : Int) * (u.2 / (Int.gcd t.2 u.2 : Int)))
def prodUp (lx ly : List (Int × Int)) (k j : Nat) : List (Int × Int) := ((lx.take k).flatMap fun t => ly.map (mulT t)) ++ (ly.take j).map (mulT (lx[k]?.getD (0, 0)))
def prodL (lx ly : List (Int × Int)) : List (Int × Int) := lx.flatMap fun t => ly.map (mulT t)
theorem prodUp_j (lx ly : List (Int × Int)) (k j : Nat) (h : j < ly.length) : prodUp lx ly k (j + 1) = prodUp lx ly k j ++ [mulT (lx[k]?.getD (0, 0)) (ly[j]?.getD (0, 0))] := by
  unfold prodUp
  rw [List.take_succ_eq_append_getElem h, List.map_append, List.append_assoc]
  simp only [List.map_cons, List.map_nil, List.getElem?_eq_getElem h, Option.getD_some]
theorem prodUp_k (lx ly : List (Int × Int)) (k j : Nat) (h : k < lx.length) (hj : ly.length ≤ j) : prodUp lx ly k j = prodUp lx ly (k + 1) 0 := by
  unfold prodUp
  rw [List.take_of_length_le hj, List.take_succ_eq_append_getElem h, List.flatMap_append]
  simp only [List.take_zero, List.map_nil, List.append_nil, List.flatMap_cons, List.flatMap_nil, List.getElem?_eq_getElem h, Option.getD_some]
theorem prodUp_end (lx ly : List (Int × Int)) : prodUp lx ly lx.length 0 = prodL lx ly := by
  unfold prodUp prodL
  rw [List.take_length, List.take_zero, List.map_nil, List.append_nil]
theorem prodL_len (l ly : List (Int × Int)) : (prodL l ly).length = l.length * ly.length := by
  unfold prodL
  induction l with
  | nil => simp
  | cons t l ih => rw [List.flatMap_cons, List.length_append, ih, List.length_map, List.length_cons, Nat.succ_mul]; omega
theorem prodUp_len (lx ly : List (Int × Int)) (k j : Nat) (h : k < lx.length) : (prodUp lx ly k j).length ≤ lx.length * ly.length := by
  unfold prodUp
  have h1 := prodL_len (lx.take k) ly
  unfold prodL at h1
  rw [List.length_append, h1, List.length_map, List.length_take, List.length_take]
  have : min k lx.length * ly.length + 1 * ly.length ≤ lx.length * ly.length := by
    rw [← Nat.add_mul]; exact Nat.mul_le_mul_right _ (by omega)
  omega
theorem prodUp_mem (lx ly : List (Int × Int)) (k j : Nat) (h : k < lx.length) : ∀ p ∈ prodUp lx ly k j, ∃ t ∈ lx, ∃ u ∈ ly, p = mulT t u := by
  intro p hp
  unfold prodUp at hp
  rw [List.mem_append, List.mem_flatMap, List.mem_map] at hp
  rcases hp with ⟨t, ht, hp⟩ | ⟨u, hu, rfl⟩
  · obtain ⟨u, hu, rfl⟩ := List.mem_map.1 hp
    exact ⟨t, List.mem_of_mem_take ht, u, hu, rfl⟩
  · exact ⟨_, by simp [h], u, List.mem_of_mem_take hu, rfl⟩
theorem plusC_snoc (c : Int → Int) (m : Int) (l : List (Int × Int)) (t : Int × Int) : plusC (plusC c m l) m [t] = plusC c m (l ++ [t]) := by
  funext r
  simp only [plusC, coefOf_snoc]
  have : coefOf [t] r = if t.2 = r then t.1 else 0 := by simp [coefOf]
  rw [this]
  by_cases h : t.2 = r
  · rw [if_pos h, if_pos h, Int.mul_add]; omega
  · rw [if_neg h, if_neg h]; omega
theorem gcd_bd (a b : Int) (ha : 1 ≤ a) (ha2 : a ≤ 1000) : 1 ≤ (Int.gcd a b : Int) ∧ (Int.gcd a b : Int) ≤ 1000 := by
  have h1 : Int.gcd a b ≠ 0 := by intro h; have := Int.gcd_eq_zero_iff.1 h; omega
  have h2 := Nat.le_of_dvd (by omega) (Int.gcd_dvd_natAbs_left a b)
  omega
theorem div_bd (a g : Int) (ha : 1 ≤ a) (ha2 : a ≤ 1000) (hg : 1 ≤ g) : 0 ≤ a / g ∧ a / g ≤ 1000 := by
  exact ⟨Int.ediv_nonneg (by omega) (by omega), by have := Int.ediv_le_self (a := a) g (by omega); omega⟩
theorem mulT_bd (t u : Int × Int) (h1 : -100000 ≤ t.1 ∧ t.1 ≤ 100000) (h2 : -100000 ≤ u.1 ∧ u.1 ≤ 100000) (h3 : 1 ≤ t.2 ∧ t.2 ≤ 1000) (h4 : 1 ≤ u.2 ∧ u.2 ≤ 1000) :
    -10000000000 ≤ t.1 * u.1 ∧ t.1 * u.1 ≤ 10000000000 ∧ -10000000000000 ≤ (mulT t u).1 ∧ (mulT t u).1 ≤ 10000000000000 ∧ 0 ≤ (mulT t u).2 ∧ (mulT t u).2 ≤ 1000000 := by
  have a := mul_abs_le t.1 u.1 100000 100000 h1.1 h1.2 h2.1 h2.2
  have g := gcd_bd t.2 u.2 h3.1 h3.2
  have b := mul_abs_le (t.1 * u.1) (Int.gcd t.2 u.2) 10000000000 1000 (by omega) (by omega) (by omega) (by omega)
  have d1 := div_bd t.2 _ h3.1 h3.2 g.1
  have d2 := div_bd u.2 _ h4.1 h4.2 g.1
  have e := Int.mul_le_mul d1.2 d2.2 d2.1 (by omega)
  have f := Int.mul_nonneg d1.1 d2.1
  unfold mulT
  simp only
  omega

/-- A value of a list of terms, for a walk: where there is a term, there is its place. -/
def Placed (w : World) (a : Option Addr) (l : List (Int × Int)) : Prop :=
  ∀ i, i < l.length → ∃ b off, a = some ⟨b, off, none⟩ ∧ b < w.heap.size ∧ w.cell? ⟨b, off + i * 2, none⟩ = some (.int .i64 (l[i]?.getD (0, 0)).1) ∧ w.cell? ⟨b, off + i * 2 + 1, none⟩ = some (.int .i64 (l[i]?.getD (0, 0)).2)
theorem TermsAt.placed {w : World} {v : Value} {l : List (Int × Int)} (h : TermsAt w v l) : ∃ a cap, v = .slice a l.length cap ∧ Placed w a l := by
  obtain ⟨hl, ⟨rfl, a, cap, rfl⟩ | ⟨b, off, cap, rfl, _, hb, hc⟩⟩ := h
  · exact ⟨a, cap, rfl, fun i hi => by simp at hi⟩
  · exact ⟨_, cap, rfl, fun i hi => ⟨b, off, rfl, hb, (hc i hi).1, (hc i hi).2⟩⟩
theorem termsAt_one (w : World) (b cap : Nat) (t : Int × Int) (hb : b < w.heap.size) (hcap : 1 ≤ cap) (h0 : w.cell? ⟨b, 0, none⟩ = some (.int .i64 t.1)) (h1 : w.cell? ⟨b, 1, none⟩ = some (.int .i64 t.2)) : TermsAt w (.slice (some ⟨b, 0, none⟩) 1 cap) [t] := by
  refine ⟨by simp, .inr ⟨b, 0, cap, rfl, by simpa using hcap, hb, fun i hi => ?_⟩⟩
  have : i = 0 := by simpa using hi
  subst this
  exact ⟨by simpa using h0, by simpa using h1⟩

theorem zero_plus_bd (m M : Int) (L : List (Int × Int)) (n : Nat) (hm1 : -M ≤ m) (hm2 : m ≤ M) (hM0 : 0 ≤ M) (hL : L.length ≤ n) (hML : M * (10000000000000 * (n : Int)) ≤ 9000000000000000000) (h : ∀ t ∈ L, -10000000000000 ≤ t.1 ∧ t.1 ≤ 10000000000000) (s : Int) :
    -9000000000000000000 ≤ plusC zeroC m L s ∧ plusC zeroC m L s ≤ 9000000000000000000 := by
  have := plus_bd zeroC m L 0 M 10000000000000 (fun r => by simp [zeroC]) hm1 hm2 (by omega) h hM0 n hL L.length (Nat.le_refl _) s
  rw [List.take_length] at this
  omega

/-- What the sum holds, and how the heap has turned since the call began. -/
def ProdI (w wr : World) (B : Nat) (m : Int) (L : List (Int × Int)) : Prop := OwnSum wr B L.length (plusC zeroC m L) ∧ Below w.heap.size w wr ∧ w.heap.size < wr.heap.size ∧ B = w.heap.size

def DomQ (x y : Int) : Prop := 0 ≤ x ∧ x ≤ 1000000 ∧ 1 ≤ y
def DomM (x y : Int) : Prop := -9000000000000000000 ≤ x * y ∧ x * y ≤ 9000000000000000000
theorem domQ_wrap : ∀ x y : Int, DomQ x y → IntKind.i64.wrap (x.tdiv y) = x / y := fun x y h => IntWalk.i64_quo x y ⟨h.1, by have := h.2.1; omega, h.2.2⟩
theorem domM_wrap : ∀ x y : Int, DomM x y → IntKind.i64.wrap (x * y) = x * y := fun x y h => IntWalk.i64_in _ (by unfold DomM at h; omega)
theorem ProdI.alloc {w wr : World} {B : Nat} {m : Int} {L : List (Int × Int)} (h : ProdI w wr B m L) (o : Obj) : ProdI w (wr.alloc o) B m L :=
  ⟨h.1.below ((Below.refl _ _).alloc (Nat.le_refl _) _), h.2.1.alloc (Nat.le_trans (Nat.le_of_lt h.2.2.1) (Nat.le_refl _)) _, by have := h.2.2.1; simp; omega, h.2.2.2⟩
theorem prodI_start (w : World) (m : Int) (lx ly : List (Int × Int)) : ProdI w (w.alloc (.map #[] 0)) w.heap.size m (prodUp lx ly 0 0) := by
  have e : plusC zeroC m (prodUp lx ly 0 0) = (fun _ => 0) := by
    funext r
    simp [plusC, coefOf, prodUp, zeroC]
  have e2 : (prodUp lx ly 0 0).length = 0 := by simp [prodUp]
  refine ⟨?_, (Below.refl _ _).alloc (Nat.le_refl _) _, by simp, rfl⟩
  rw [e, e2]
  exact ownSum_made rfl
theorem keep1 {W2 w3 : World} {o : Obj} {b i : Nat} {v : Value} {B : Nat} (h : W2.cell? ⟨b, i, none⟩ = some v) (hg : ((W2.alloc o).drew).grownBy w3 (some B)) (hne : b ≠ B) : w3.cell? ⟨b, i, none⟩ = some v :=
  hg.cell (a := ⟨b, i, none⟩) (v := v) (by have := World.cell?_alloc_some W2 ⟨b, i, none⟩ o (by rw [h]; rfl); exact this.trans h) (by simpa using hne)
theorem prod_call {w wq W2 : World} {m M : Int} {L : List (Int × Int)} (HI : Hid (ProdI w wq w.heap.size m L)) (HBN : Hid (Below wq.heap.size wq W2)) (x r : Int)
    (HB : Hid (-M ≤ m ∧ m ≤ M ∧ M ≤ 100000 ∧ 0 ≤ M ∧ -10000000000000 ≤ x ∧ x ≤ 10000000000000 ∧ 0 ≤ r ∧ r ≤ 1000000 ∧ L.length ≤ 16 ∧ (∀ q : List (Int × Int), (q = L ∨ q = L ++ [(x, r)]) → ∀ s, -9000000000000000000 ≤ plusC zeroC m q s ∧ plusC zeroC m q s ≤ 9000000000000000000))) :
    Calls Tryz.prog 53 #[.map (some w.heap.size), .int .i64 m, .slice (some ⟨W2.heap.size, 0, none⟩) 1 1] ((W2.alloc (.cells #[.int .i64 x, .int .i64 r] 34)).drew)
      (AddTo w.heap.size (L ++ [(x, r)]).length (plusC zeroC m (L ++ [(x, r)])) ((W2.alloc (.cells #[.int .i64 x, .int .i64 r] 34)).drew)) := by
  obtain ⟨h1, h2, h3, h4, h5, h6, h7, h8, h9, h10⟩ := HB.out
  have hO2 : OwnSum W2 w.heap.size L.length (plusC zeroC m L) := HI.out.1.below HBN.out
  have := add_at w.heap.size L.length (plusC zeroC m L) m (.slice (some ⟨W2.heap.size, 0, none⟩) 1 1) [(x, r)] ((W2.alloc (.cells #[.int .i64 x, .int .i64 r] 34)).drew) (termsAt_one _ _ _ _ (by simp) (by omega) (cell_two_new _ _ _ _ 0 _ rfl) (cell_two_new _ _ _ _ 1 _ rfl))
    (by intro b off len cap hv _; simp at hv; have := hO2.lt; omega) (by simp) (by omega) (hO2.below ((Below.refl _ _).alloc (Nat.le_refl _) _ |>.drew))
    (Lib.hid (fun t ht => by
      simp at ht
      subst ht
      have := mul_abs_le m x M 10000000000000 h1 h2 (by omega) (by omega)
      have : M * 10000000000000 ≤ 100000 * 10000000000000 := Int.mul_le_mul_of_nonneg_right h3 (by omega)
      dsimp only
      omega))
    (Lib.hid (fun q hq s => by
      simp at hq
      have : q = 0 ∨ q = 1 := by omega
      rcases this with rfl | rfl
      · have := h10 L (.inl rfl) s; simpa [plusC, coefOf] using this
      · have := h10 _ (.inr rfl) s; rw [← plusC_snoc] at this; exact this))
  rw [plusC_snoc] at this
  simpa using this

set_option maxRecDepth 100000 in
set_option maxHeartbeats 1000000 in
theorem product_any (m M : Int) (vx vy : Value) (lx ly : List (Int × Int)) (w : World) (hx : TermsAt w vx lx) (hy : TermsAt w vy ly) (hlx : lx.length ≤ 4) (hly : ly.length ≤ 4) (hm1 : -M ≤ m) (hm2 : m ≤ M) (hM : M ≤ 100000) (hM0 : 0 ≤ M)
    (hML : M * (10000000000000 * ((lx.length * ly.length : Nat) : Int)) ≤ 9000000000000000000)
    (hcx : Hid (∀ t ∈ lx, (-100000 ≤ t.1 ∧ t.1 ≤ 100000) ∧ (1 ≤ t.2 ∧ t.2 ≤ 1000))) (hcy : Hid (∀ t ∈ ly, (-100000 ≤ t.1 ∧ t.1 ≤ 100000) ∧ (1 ≤ t.2 ∧ t.2 ≤ 1000))) :
    Calls Tryz.prog 60 #[.int .i64 m, vx, vy] w (SumTo (plusC zeroC m (prodL lx ly)) w) := by
  have hmm := @run_makeMap Tryz.prog
  obtain ⟨ax, cx, rfl, px⟩ := hx.placed
  obtain ⟨ay, cy, rfl, py⟩ := hy.placed
  have PX := Lib.hid px
  have PY := Lib.hid py
  have HML := Lib.hid hML
  clear hx hy px py hML
  go_enter Tryz.func60, Tryz.ntmps60
  go_wp2
  go_loopw [16] (fun i wr => ∃ k : Nat, k ≤ lx.length ∧ i = .int .i64 k ∧ Hid (ProdI w wr w.heap.size m (prodUp lx ly k 0))) (fun i _ => lx.length - (intOf i).toNat)
  case atStart => exact ⟨0, Nat.zero_le _, rfl, Lib.hid (prodI_start w m lx ly)⟩
  case round =>
    obtain ⟨k, hk, rfl, HI⟩ := hrel
    by_cases hlt : k < lx.length
    · obtain ⟨bx, offx, rfl, hbx, hc1, hc2⟩ := PX.out k hlt
      replace hc1 := (HI.out.2.1.cell (p := ⟨bx, _, none⟩) hbx).trans hc1
      replace hc2 := (HI.out.2.1.cell (p := ⟨bx, _, none⟩) hbx).trans hc2
      have hbd := hcx.out (lx[k]?.getD (0, 0)) (by simp [hlt])
      have hpj := fun j => prodUp_j lx ly k j
      have hpk := fun j => prodUp_k lx ly k j hlt
      have hpl := fun j => prodUp_len lx ly k j hlt
      have hpm := fun j => prodUp_mem lx ly k j hlt
      have hwl := HI.out.2.2.1
      obtain ⟨c1, r1, hel⟩ : ∃ x r, lx[k]?.getD (0, 0) = (x, r) := ⟨_, _, rfl⟩
      rw [hel] at hc1 hc2 hbd
      simp only [hel] at hpj
      have HPJ := Lib.hid hpj
      have HPK := Lib.hid hpk
      have HPL := Lib.hid hpl
      have HPM := Lib.hid hpm
      dsimp only at hc1 hc2 hbd
      obtain ⟨⟨hb1, hb2⟩, hb3, hb4⟩ := hbd
      clear hel hpj hpk hpl hpm
      go_wp2
      have hbox : Hid ((wr.alloc (.cells #[.int .i64 c1, .int .i64 r1] 34)).cell? ⟨wr.heap.size, 0, none⟩ = some (.int .i64 c1) ∧ (wr.alloc (.cells #[.int .i64 c1, .int .i64 r1] 34)).cell? ⟨wr.heap.size, 1, none⟩ = some (.int .i64 r1) ∧ wr.heap.size < (wr.alloc (.cells #[.int .i64 c1, .int .i64 r1] 34)).heap.size) :=
        Lib.hid ⟨cell_two_new _ _ _ _ 0 _ rfl, cell_two_new _ _ _ _ 1 _ rfl, by simp⟩
      have hI1 : Hid (ProdI w (wr.alloc (.cells #[.int .i64 c1, .int .i64 r1] 34)) w.heap.size m (prodUp lx ly k 0)) := Lib.hid (HI.out.alloc _)
      generalize hbt : wr.heap.size = bt at hbox ⊢
      have hbtw : w.heap.size < bt := by omega
      have HBT := Lib.hid hbt
      clear hbt
      go_loopw [22] (fun i wq => ∃ j : Nat, j ≤ ly.length ∧ i = .int .i64 j ∧ Hid (ProdI w wq w.heap.size m (prodUp lx ly k j)) ∧
        Hid (wq.cell? ⟨bt, 0, none⟩ = some (.int .i64 c1) ∧ wq.cell? ⟨bt, 1, none⟩ = some (.int .i64 r1) ∧ bt < wq.heap.size)) (fun i _ => ly.length - (intOf i).toNat)
      case atStart => exact ⟨0, Nat.zero_le _, rfl, hI1, hbox⟩
      case round =>
        clear hbox hI1
        obtain ⟨j, hj, rfl, HI2, HX2⟩ := hrel
        by_cases hlj : j < ly.length
        · obtain ⟨by', offy, rfl, hby, hd1, hd2⟩ := PY.out j hlj
          replace hd1 := (HI2.out.2.1.cell (p := ⟨by', _, none⟩) hby).trans hd1
          replace hd2 := (HI2.out.2.1.cell (p := ⟨by', _, none⟩) hby).trans hd2
          have hbd2 := hcy.out (ly[j]?.getD (0, 0)) (by simp [hlj])
          have hpj2 := HPJ.out j hlj
          have hwl2 := HI2.out.2.2.1
          obtain ⟨hx0, hx1, hxl⟩ := HX2.out
          obtain ⟨c2, r2, hel2⟩ : ∃ x r, ly[j]?.getD (0, 0) = (x, r) := ⟨_, _, rfl⟩
          rw [hel2] at hd1 hd2 hbd2 hpj2
          dsimp only at hd1 hd2 hbd2
          have HPJ2 := Lib.hid hpj2
          clear hel2 hpj2
          obtain ⟨⟨hb5, hb6⟩, hb7, hb8⟩ := hbd2
          go_wp2_with fail
          refine (gcd_any r1 r2 _ (by omega) (by omega) (by omega) (by omega)).mono ?_
          rintro e w2 ⟨rfl, n2, rfl⟩
          have hmb := mulT_bd (c1, r1) (c2, r2) ⟨hb1, hb2⟩ ⟨hb5, hb6⟩ ⟨hb3, hb4⟩ ⟨hb7, hb8⟩
          have hgb := gcd_bd r1 r2 hb3 hb4
          unfold mulT at hmb
          dsimp only at hmb
          generalize hg : (Int.gcd r1 r2 : Int) = g at hmb hgb ⊢
          have HG := Lib.hid hg
          clear hg
          obtain ⟨hg1, hg2⟩ := hgb
          obtain ⟨hm3, hm4, hm5, hm6, hm7, hm8⟩ := hmb
          go_wp2
          have hbn := below_drewN ((Below.refl _ wr).alloc (Nat.le_refl _) (.cells #[.int .i64 c2, .int .i64 r2] 34)) n2
          have k0 := (hbn.cell (p := ⟨bt, 0, none⟩) hxl).trans hx0
          have k1 := (hbn.cell (p := ⟨bt, 1, none⟩) hxl).trans hx1
          have k2 : ((wr.alloc (.cells #[.int .i64 c2, .int .i64 r2] 34)).drewN n2).cell? ⟨wr.heap.size, 0, none⟩ = some (.int .i64 c2) := cell_two_new _ _ _ _ 0 _ rfl
          have k3 : ((wr.alloc (.cells #[.int .i64 c2, .int .i64 r2] 34)).drewN n2).cell? ⟨wr.heap.size, 1, none⟩ = some (.int .i64 r2) := cell_two_new _ _ _ _ 1 _ rfl
          generalize hW2 : (World.drewN _ n2) = W2 at k0 k1 k2 k3 hbn ⊢
          have HBN := Lib.hid hbn
          clear hW2 hbn hx0 hx1 hd1 hd2 hc1 hc2
          have dq1 : DomQ r1 g := by unfold DomQ; omega
          have dq2 : DomQ r2 g := by unfold DomQ; omega
          have dm1 : DomM (r1 / g) (r2 / g) := by unfold DomM; omega
          have dm2 : DomM c1 c2 := by unfold DomM; omega
          have dm3 : DomM (c1 * c2) g := by unfold DomM; omega
          have hg0 : (g == 0) = false := by simp; omega
          have hg00 : ¬ g = 0 := by omega
          have hq := domQ_wrap
          have hp := domM_wrap
          have HBB : Hid (-M ≤ m ∧ m ≤ M ∧ M ≤ 100000 ∧ 0 ≤ M ∧ -10000000000000 ≤ c1 * c2 * g ∧ c1 * c2 * g ≤ 10000000000000 ∧ 0 ≤ r1 / g * (r2 / g) ∧ r1 / g * (r2 / g) ≤ 1000000 ∧ (prodUp lx ly k j).length ≤ 16 ∧ (∀ q : List (Int × Int), (q = prodUp lx ly k j ∨ q = prodUp lx ly k j ++ [(c1 * c2 * g, r1 / g * (r2 / g))]) → ∀ s, -9000000000000000000 ≤ plusC zeroC m q s ∧ plusC zeroC m q s ≤ 9000000000000000000)) := by
            have hll := HPL.out j
            have hpm := HPM.out j
            have hz : ∀ q : List (Int × Int), (q = prodUp lx ly k j ∨ q = prodUp lx ly k j ++ [(c1 * c2 * g, r1 / g * (r2 / g))]) → ∀ s, -9000000000000000000 ≤ plusC zeroC m q s ∧ plusC zeroC m q s ≤ 9000000000000000000 := by
              have bd : ∀ j', ∀ t ∈ prodUp lx ly k j', -10000000000000 ≤ t.1 ∧ t.1 ≤ 10000000000000 := by
                intro j' t ht
                obtain ⟨t1, h1, t2, h2, rfl⟩ := HPM.out j' t ht
                have a1 := hcx.out t1 h1
                have a2 := hcy.out t2 h2
                have := mulT_bd t1 t2 a1.1 a2.1 a1.2 a2.2
                omega
              have he : prodUp lx ly k (j + 1) = prodUp lx ly k j ++ [(c1 * c2 * g, r1 / g * (r2 / g))] := by rw [HPJ2.out]; unfold mulT; rw [← HG.out]
              intro q hq s
              rcases hq with rfl | rfl
              · exact zero_plus_bd m M _ _ hm1 hm2 hM0 hll HML.out (bd j) s
              · rw [← he]; exact zero_plus_bd m M _ _ hm1 hm2 hM0 (HPL.out (j + 1)) HML.out (bd (j + 1)) s
            have : lx.length * ly.length ≤ 4 * 4 := Nat.mul_le_mul hlx hly
            exact Lib.hid ⟨hm1, hm2, hM, hM0, hm5, hm6, hm7, hm8, by omega, hz⟩
          go_region_held3 (fun w' => w'.cell? ⟨bt, 0, none⟩ = some (.int .i64 c1) ∧ w'.cell? ⟨bt, 1, none⟩ = some (.int .i64 r1) ∧ w'.cell? ⟨wr.heap.size, 0, none⟩ = some (.int .i64 c2) ∧ w'.cell? ⟨wr.heap.size, 1, none⟩ = some (.int .i64 r2)) (first | go_keep | exact ⟨keep1 k0 hg3 (by omega), keep1 k1 hg3 (by omega), keep1 k2 hg3 (by omega), keep1 k3 hg3 (by omega)⟩) (first | (go_at_call 53; refine (prod_call HI2 HBN _ _ HBB).mono ?_; rintro e w3 ⟨rfl, ho3, hg3⟩))
          have HO3 := Lib.hid ho3
          have HG3 := Lib.hid hg3
          have HK3 : Hid (w3.cell? ⟨bt, 0, none⟩ = some (.int .i64 c1) ∧ w3.cell? ⟨bt, 1, none⟩ = some (.int .i64 r1) ∧ bt < w3.heap.size) := Lib.hid ⟨keep1 k0 hg3 (by omega), keep1 k1 hg3 (by omega), by have h1 := hg3.size; have h2 := HBN.out.size; simp at h1; omega⟩
          have HI3 : Hid (ProdI w w3 w.heap.size m (prodUp lx ly k (j + 1))) := by
            have he : prodUp lx ly k (j + 1) = prodUp lx ly k j ++ [(c1 * c2 * g, r1 / g * (r2 / g))] := by rw [HPJ2.out]; unfold mulT; rw [← HG.out]
            have hs2 := HBN.out.size
            have hs3 := hg3.size
            simp at hs3
            refine Lib.hid ⟨by rw [he]; exact HO3.out, ?_, by omega, rfl⟩
            have b1 : Below w.heap.size w W2 := HI2.out.2.1.trans (HBN.out.mono HI2.out.2.1.size)
            exact ((b1.alloc (by omega) _).drew).grown hg3 (by simp; omega) (by intro q hq; cases hq; omega)
          clear ho3 hg3 hq hp
          go_wp2
          go_roundw
          case rel => exact ⟨j + 1, by omega, by go_num, HI3, HK3⟩
          case measure => simp [intOf]; omega
        · have HE : Hid (ProdI w wr w.heap.size m (prodUp lx ly (k + 1) 0)) := Lib.hid (by rw [← HPK.out j (by omega)]; exact HI2.out)
          go_wp2
          go_roundw
          case rel => exact ⟨k + 1, by omega, by go_num, HE⟩
          case measure => simp [intOf]; omega
    · have hk : k = lx.length := by omega
      have HE : Hid (ProdI w wr w.heap.size m (prodL lx ly)) := Lib.hid (by rw [← prodUp_end, ← hk]; exact HI.out)
      clear hk
      go_wp2
      go_ret
      refine ⟨_, rfl, HE.out.1.mono ?_, HE.out.2.1⟩
      rw [prodL_len]
      have : lx.length * ly.length ≤ 4 * 4 := Nat.mul_le_mul hlx hly
      omega
end Go.Proofs.YtedpafdfecofnaaGreatDoor

/-! ## S8 -/
namespace Go.Proofs.YtedpafdfecofnaaGreatDoor
open Go.RowKit Go.Maps
theorem info34 : (Tryz.prog.info? 34).map (fun i => (i.zero, i.size, i.bytes)) = some (some (.agg #[.int .i64 0, .int .i64 0]), 2, 16) := by kernel_rfl
theorem und22 : Tryz.prog.underlying 22 = some (.slice 34) := by kernel_rfl

/-- A block of two cells. -/
def Two (w : World) (b : Nat) (x y : Value) (T : TypeId) : Prop := w.heap[b]? = some (.cells #[x, y] T (0, 0))
theorem Two.c0 {w : World} {b : Nat} {x y : Value} {T : TypeId} (h : Two w b x y T) : w.cell? ⟨b, 0, none⟩ = some x := by unfold Two at h; simp [World.cell?, h]
theorem Two.c1 {w : World} {b : Nat} {x y : Value} {T : TypeId} (h : Two w b x y T) : w.cell? ⟨b, 1, none⟩ = some y := by unfold Two at h; simp [World.cell?, h]
theorem Two.fr {w : World} {b i : Nat} {x y : Value} {T : TypeId} (h : Two w b x y T) : w.frozen? ⟨b, i, none⟩ = false := by unfold Two at h; simp [World.frozen?, h]
theorem Two.lt {w : World} {b : Nat} {x y : Value} {T : TypeId} (h : Two w b x y T) : b < w.heap.size := lt_of_block h
theorem Two.new (w : World) (x y : Value) (T : TypeId) : Two (w.alloc (.cells #[x, y] T)) w.heap.size x y T := by unfold Two World.alloc; simp
theorem Two.kept {w w' : World} {b : Nat} {x y : Value} {T : TypeId} {row : Option Nat} (h : Two w b x y T) (hg : w.grownBy w' row) (hne : some b ≠ row) : Two w' b x y T := by
  unfold Two at h ⊢; rw [hg.block b (lt_of_block h) hne]; exact h
theorem Two.alloc {w : World} {b : Nat} {x y : Value} {T : TypeId} (h : Two w b x y T) (o : Obj) : Two (w.alloc o) b x y T := h.kept (World.grownBy_alloc w o none) (by simp)
theorem Two.below {w w' : World} {b B : Nat} {x y : Value} {T : TypeId} (h : Two w b x y T) (hw : Below B w w') (hb : b < B) : Two w' b x y T := by
  unfold Two at h ⊢; rw [hw.block b hb]; exact h
theorem Two.set1 {w : World} {b : Nat} {x y : Value} {T : TypeId} (h : Two w b x y T) (u : Value) (hu : u.cells = #[u]) : Two (w.setCell ⟨b, 1, none⟩ u) b x u T := by
  have hlt := lt_of_block h
  have h' : w.heap[b] = .cells #[x, y] T (0, 0) := by simpa [Two, Array.getElem?_eq_getElem hlt] using h
  show (w.heap.modify b _)[b]? = _
  rw [Array.getElem?_eq_getElem (by simpa using hlt), Array.getElem_modify_self, h']
  rfl
theorem Two.set0 {w : World} {b : Nat} {x y : Value} {T : TypeId} (h : Two w b x y T) (u : Value) : Two (w.setCell ⟨b, 0, none⟩ u) b u y T := by
  have hlt := lt_of_block h
  have h' : w.heap[b] = .cells #[x, y] T (0, 0) := by simpa [Two, Array.getElem?_eq_getElem hlt] using h
  show (w.heap.modify b _)[b]? = _
  rw [Array.getElem?_eq_getElem (by simpa using hlt), Array.getElem_modify_self, h']
  rfl
theorem grownBy_setCell (w : World) (a : Addr) (u : Value) : w.grownBy (w.setCell a u) (some a.block) :=
  ⟨rfl, rfl, rfl, by simp, fun i hi hne => Below.heap_setCell w a u i (fun e => hne (by rw [e]))⟩

def flatT (l : List (Int × Int)) : List Value := l.flatMap fun t => [Value.int .i64 t.1, Value.int .i64 t.2]
theorem TermsAt.kept {w w' : World} {v : Value} {l : List (Int × Int)} {row : Option Nat} (h : TermsAt w v l) (hg : w.grownBy w' row) (hne : v.ownBlock = none ∨ v.ownBlock ≠ row) : TermsAt w' v l := by
  obtain ⟨hl, h | ⟨b, off, cap, hv, hcap, hb, hc⟩⟩ := h
  · exact ⟨hl, .inl h⟩
  · have hne' : some b ≠ row := by
      rcases hne with h1 | h1
      · rw [hv] at h1; cases h1
      · rw [hv] at h1; exact h1
    exact ⟨hl, .inr ⟨b, off, cap, hv, hcap, Nat.lt_of_lt_of_le hb hg.size, fun i hi => ⟨hg.cell (hc i hi).1 hne', hg.cell (hc i hi).2 hne'⟩⟩⟩
/-- A struct of two cells is stored. -/
theorem two_after {W0 : World} {b : Nat} {u1 u2 : Value} {T : TypeId} (h : Two W0 b u1 u2 T) (x v : Value) (hv : v.cells = #[v]) :
    (W0.setCell ⟨b, 0, none⟩ x).cell? ⟨b, 0, none⟩ = some x ∧ ((W0.setCell ⟨b, 0, none⟩ x).setCell ⟨b, 1, none⟩ v).cell? ⟨b, 0, none⟩ = some x ∧ ((W0.setCell ⟨b, 0, none⟩ x).setCell ⟨b, 1, none⟩ v).cell? ⟨b, 1, none⟩ = some v ∧ W0.grownBy ((W0.setCell ⟨b, 0, none⟩ x).setCell ⟨b, 1, none⟩ v) (some b) := by
  have t5 := h.set0 x
  have t6 := t5.set1 v hv
  have g5 := grownBy_setCell W0 ⟨b, 0, none⟩ x
  have g6 := grownBy_setCell (W0.setCell ⟨b, 0, none⟩ x) ⟨b, 1, none⟩ v
  exact ⟨t5.c0, t6.c0, t6.c1, g5.trans g6⟩
theorem flatT_len (l : List (Int × Int)) : (flatT l).length = l.length * 2 := by
  unfold flatT
  induction l with
  | nil => rfl
  | cons t l ih => rw [List.flatMap_cons, List.length_append, ih]; simp; omega
theorem flatT_snoc (l : List (Int × Int)) (t : Int × Int) : flatT (l ++ [t]) = flatT l ++ [Value.int .i64 t.1, Value.int .i64 t.2] := by
  unfold flatT; rw [List.flatMap_append]; simp
theorem flatT_get (l : List (Int × Int)) (i : Nat) (h : i < l.length) : (flatT l)[i * 2]? = some (.int .i64 (l[i]?.getD (0, 0)).1) ∧ (flatT l)[i * 2 + 1]? = some (.int .i64 (l[i]?.getD (0, 0)).2) := by
  induction l generalizing i with
  | nil => simp at h
  | cons t l ih =>
    cases i with
    | zero => simp [flatT]
    | succ i =>
      have := ih i (by simpa using h)
      unfold flatT at this ⊢
      rw [List.flatMap_cons]
      have e1 : (i + 1) * 2 = i * 2 + 2 := by omega
      have e2 : (i + 1) * 2 + 1 = (i * 2 + 1) + 2 := by omega
      rw [e2, e1, List.getElem?_append_right (by simp), List.getElem?_append_right (by simp)]
      simpa using this

/-- A slice of terms of the call's own. -/
def OwnT (w : World) (base : Nat) (v : Value) (l : List (Int × Int)) : Prop := w.ownsRow base 34 2 v l.length (flatT l)
theorem OwnT.at {w : World} {base : Nat} {v : Value} {l : List (Int × Int)} (h : OwnT w base v l) (hl : l.length ≤ 8796093022208) : TermsAt w v l := by
  refine ⟨hl, ?_⟩
  have h' := h
  obtain ⟨_, ⟨hv, h0⟩ | ⟨g, cap, cur, rfl, hbase, hb, hcap, _⟩⟩ := h
  · exact .inl ⟨List.length_eq_zero_iff.1 h0, none, 0, hv⟩
  · refine .inr ⟨g, 0, cap, rfl, hcap, (Array.getElem?_eq_some_iff.1 hb).1, fun i hi => ?_⟩
    have hc := World.ownsRow.cells h' (g := g) rfl
    have hf := flatT_get l i hi
    have a1 := hc _ _ hf.1
    have a2 := hc _ _ hf.2
    have e : ∀ j, ((⟨g, 0, none⟩ : Addr).add j) = ⟨g, j, none⟩ := by intro j; unfold Addr.add; split <;> simp_all
    rw [e] at a1 a2
    simp only [Nat.zero_add]
    exact ⟨a1, a2⟩

/-- What has been collected so far. -/
def Coll (D : DataW Unit) (c : Int → Int) (left : Lit → Bool) (ts : List (Int × Int)) : Prop :=
  (ts.map (·.2)).Nodup ∧ (∀ t ∈ ts, c t.2 = t.1 ∧ t.1 ≠ 0) ∧ ∀ r, c r ≠ 0 → left (.int .i64 r) = false → (c r, r) ∈ ts
theorem Coll.step {D : DataW Unit} {c : Int → Int} {left : Lit → Bool} {ts : List (Int × Int)} (h : Coll D c left ts) (hn : ∀ t ∈ ts, left (.int .i64 t.2) = false) (hs : SumD D c) {r x : Int} (hl : left (.int .i64 r) = true) (hat : ∀ zd, D.atKey (.int .i64 r) zd = .lit (.int .i64 x)) :
    Coll D c (fun z => left z && !z.sameKey (.int .i64 r)) (ts ++ [(x, r)]) ∧ (∀ t ∈ ts ++ [(x, r)], (left (.int .i64 t.2) && !(Lit.int .i64 t.2).sameKey (.int .i64 r)) = false) ∧ c r = x ∧ x ≠ 0 := by
  have hh := has_true_of_atKey hat
  have hc0 : c r ≠ 0 := fun e => by rw [(hs.2 r).2 e] at hh; cases hh
  have hcx : c r = x := by have := (hs.2 r).1 hc0 .nil; rw [hat] at this; simp at this; exact this.symm
  refine ⟨⟨?_, ?_, ?_⟩, ?_, hcx, hcx ▸ hc0⟩
  · rw [List.map_append, List.nodup_append]
    refine ⟨h.1, by simp, fun a ha b hb e => ?_⟩
    simp at hb
    subst hb
    subst e
    obtain ⟨t, ht, rfl⟩ := List.mem_map.1 ha
    have := hn t ht
    rw [hl] at this; cases this
  · intro t ht
    rw [List.mem_append] at ht
    rcases ht with ht | ht
    · exact h.2.1 t ht
    · simp at ht; subst ht; exact ⟨hcx, hcx ▸ hc0⟩
  · intro s hs0 hf
    by_cases e : s = r
    · subst e; rw [hcx]; simp
    · have hf2 : left (.int .i64 s) = false := by
        have hf' : (left (.int .i64 s) && !(Lit.int .i64 s).sameKey (.int .i64 r)) = false := hf
        have hk : (Lit.int .i64 s).sameKey (.int .i64 r) = false := by simp [Lit.sameKey, e]
        rw [hk] at hf'; simpa using hf'
      exact List.mem_append.2 (.inl (h.2.2 s hs0 hf2))
  · intro t ht
    rw [List.mem_append] at ht
    rcases ht with ht | ht
    · rw [hn t ht]; rfl
    · simp at ht; subst ht; simp [Lit.sameKey]

/-- The terms that a sum has, in whatever order. -/
def IsColl (c : Int → Int) (ts : List (Int × Int)) : Prop := (ts.map (·.2)).Nodup ∧ (∀ t ∈ ts, c t.2 = t.1 ∧ t.1 ≠ 0) ∧ ∀ r, c r ≠ 0 → (c r, r) ∈ ts

def RedI (w wr : World) (B n : Nat) (D : DataW Unit) (c : Int → Int) (den : Int) (left : Lit → Bool) (cnt : Nat) (ts : List (Int × Int)) (v : Value) : Prop :=
  wr.ranges Tryz.prog 3 (plainElem Tryz.prog 3) B (w.heap.size + 1 + 1) n D left cnt ∧ OwnT wr (w.heap.size + 3) v ts ∧ Two wr (w.heap.size + 1) (.int .i64 den) v 24 ∧ Coll D c left ts ∧ (∀ t ∈ ts, left (.int .i64 t.2) = false) ∧ ts.length + cnt ≤ n ∧ Below w.heap.size w wr ∧ w.heap.size + 3 ≤ wr.heap.size ∧ Two wr w.heap.size (.int .i64 0) (.slice none 0 0) 24

def SortTo (base : Nat) (v : Value) (l : List (Int × Int)) (w : World) (e : Ending) (w' : World) : Prop :=
  e = .returned (.tuple #[]) ∧ (∃ l', l'.Perm l ∧ l'.Pairwise (fun a b => a.2 ≤ b.2) ∧ OwnT w' base v l') ∧ w.grownBy w' v.ownBlock

/-- A sum's terms, ascending by their roots. -/
def IsTerms (c : Int → Int) (l : List (Int × Int)) : Prop := l.Pairwise (fun a b => a.2 < b.2) ∧ ∀ x r, (x, r) ∈ l ↔ (c r = x ∧ x ≠ 0)
theorem isTerms_of {c : Int → Int} {ts l : List (Int × Int)} (h : IsColl c ts) (hp : l.Perm ts) (hs : l.Pairwise (fun a b => a.2 ≤ b.2)) : IsTerms c l := by
  have hn : (l.map (·.2)).Nodup := (hp.map _).nodup_iff.2 h.1
  constructor
  · have hn2 : l.Pairwise (fun a b => a.2 ≠ b.2) := List.pairwise_map.1 hn
    refine (hs.and hn2).imp ?_
    intro a b ⟨h1, h2⟩
    omega
  · intro x r
    rw [hp.mem_iff]
    constructor
    · intro hm; exact h.2.1 (x, r) hm
    · rintro ⟨rfl, h0⟩; exact h.2.2 r h0

def divS (s : Int) (l : List (Int × Int)) : List (Int × Int) := l.map fun t => (t.1.tdiv s, t.2)
def divUp (s : Int) (l : List (Int × Int)) (k : Nat) : List (Int × Int) := divS s (l.take k) ++ l.drop k
def sgnDv (den : Int) (l : List (Int × Int)) : Int := if den < 0 then -(dvF den l : Int) else dvF den l
/-- A sum divided by den, in lowest terms. -/
def RedTo (den : Int) (c : Int → Int) (w : World) (e : Ending) (w' : World) : Prop :=
  ∃ l v, IsTerms c l ∧ l.length ≤ 1000 ∧ e = .returned (.agg #[.int .i64 (den.tdiv (sgnDv den l)), v]) ∧ TermsAt w' v (divS (sgnDv den l) l) ∧ Below w.heap.size w w' ∧ ∀ k, v.ownBlock = some k → w.heap.size ≤ k


theorem dv_dvd (den : Int) (l : List (Int × Int)) : (dvF den l : Int) ∣ den ∧ ∀ t ∈ l, (dvF den l : Int) ∣ t.1 := by
  unfold dvF
  have key : ∀ (l : List (Int × Int)) (g : Nat), (l.foldl (fun g t => Int.gcd g t.1) g) ∣ g ∧ ∀ t ∈ l, ((l.foldl (fun g t => Int.gcd g t.1) g : Nat) : Int) ∣ t.1 := by
    intro l
    induction l with
    | nil => intro g; simp
    | cons t l ih =>
      intro g
      obtain ⟨h1, h2⟩ := ih (Int.gcd g t.1)
      simp only [List.foldl_cons]
      have hg : Int.gcd g t.1 ∣ g := by have := Int.gcd_dvd_natAbs_left (g : Int) t.1; simpa using this
      refine ⟨Nat.dvd_trans h1 hg, fun u hu => ?_⟩
      rcases List.mem_cons.1 hu with rfl | hu
      · exact Int.dvd_trans (Int.natCast_dvd_natCast.2 h1) (Int.gcd_dvd_right _ _)
      · exact h2 u hu
  obtain ⟨h1, h2⟩ := key l (Int.gcd den 0)
  exact ⟨Int.dvd_trans (Int.natCast_dvd_natCast.2 h1) (Int.gcd_dvd_left _ _), h2⟩
theorem dv_pos (den : Int) (l : List (Int × Int)) (h : den ≠ 0) : 1 ≤ (dvF den l : Int) := by
  have := (dv_dvd den l).1
  rcases Nat.eq_zero_or_pos (dvF den l) with h0 | h0
  · rw [h0] at this; simp at this; exact absurd this h
  · omega
def DomQ2 (x y : Int) : Prop := -9000000000000000000 ≤ x ∧ x ≤ 9000000000000000000 ∧ y ≠ 0
theorem tdiv_abs (x y : Int) (h : y ≠ 0) (M : Int) (h1 : -M ≤ x) (h2 : x ≤ M) : -M ≤ x.tdiv y ∧ x.tdiv y ≤ M := by
  have h3 : (x.tdiv y).natAbs = x.natAbs / y.natAbs := Int.natAbs_tdiv x y
  have h4 : x.natAbs / y.natAbs ≤ x.natAbs := Nat.div_le_self _ _
  omega
theorem domQ2_wrap : ∀ x y : Int, DomQ2 x y → IntKind.i64.wrap (x.tdiv y) = x.tdiv y := fun x y h => IntWalk.i64_in _ (by have := tdiv_abs x y h.2.2 _ h.1 h.2.1; omega)

theorem divUp_len (s : Int) (l : List (Int × Int)) (k : Nat) (h : k ≤ l.length) : (divUp s l k).length = l.length := by
  unfold divUp divS; simp; omega
theorem divUp_at (s : Int) (l : List (Int × Int)) (k : Nat) (h : k < l.length) : (divUp s l k)[k]?.getD (0, 0) = l[k]?.getD (0, 0) := by
  unfold divUp divS
  rw [List.getElem?_append_right (by simp; omega)]
  simp [Nat.min_eq_left (Nat.le_of_lt h)]
theorem flatT_set (l : List (Int × Int)) (k : Nat) (q : Int) (h : k < l.length) : (flatT l).set (k * 2) (.int .i64 q) = flatT (l.set k (q, (l[k]?.getD (0, 0)).2)) := by
  induction l generalizing k with
  | nil => simp at h
  | cons t l ih =>
    cases k with
    | zero => simp [flatT]
    | succ k =>
      have := ih k (by simpa using h)
      unfold flatT at this ⊢
      have e1 : (k + 1) * 2 = k * 2 + 1 + 1 := by omega
      rw [e1]
      simp only [List.flatMap_cons, List.cons_append, List.nil_append, List.set_cons_succ, List.getElem?_cons_succ]
      rw [this]
theorem divUp_set (s : Int) (l : List (Int × Int)) (k : Nat) (h : k < l.length) : (divUp s l k).set k ((l[k]?.getD (0, 0)).1.tdiv s, (l[k]?.getD (0, 0)).2) = divUp s l (k + 1) := by
  unfold divUp divS
  rw [List.set_append_right _ _ (by simp; omega), List.length_map, List.length_take, Nat.min_eq_left (Nat.le_of_lt h), Nat.sub_self, List.drop_eq_getElem_cons h, List.take_succ_eq_append_getElem h, List.map_append, List.append_assoc]
  simp only [List.set_cons_zero, List.map_cons, List.map_nil, List.cons_append, List.nil_append, List.getElem?_eq_getElem h, Option.getD_some]
theorem OwnT.shape {w : World} {base : Nat} {v : Value} {l : List (Int × Int)} (h : OwnT w base v l) : ∃ a cap, v = .slice a l.length cap ∧ ∀ i, i < l.length → ∃ g, a = some ⟨g, 0, none⟩ ∧ base ≤ g := by
  obtain ⟨_, ⟨hv, h0⟩ | ⟨g, cap, cur, rfl, hbase, _⟩⟩ := h
  · exact ⟨none, 0, by rw [hv, h0], fun i hi => by omega⟩
  · exact ⟨_, cap, rfl, fun i hi => ⟨g, rfl, hbase⟩⟩
theorem OwnT.kept {w w' : World} {base : Nat} {v : Value} {l : List (Int × Int)} {row : Option Nat} (h : OwnT w base v l) (hg : w.grownBy w' row) (hne : v.ownBlock = none ∨ v.ownBlock ≠ row) : OwnT w' base v l := World.ownsRow.kept h hg hne
theorem OwnT.below {w w' : World} {base : Nat} {v : Value} {l : List (Int × Int)} (h : OwnT w base v l) (hw : Below w.heap.size w w') : OwnT w' base v l := by
  obtain ⟨h1, h2 | ⟨g, cap, cur, h3, h4, h5, h6⟩⟩ := h
  · exact ⟨h1, .inl h2⟩
  · exact ⟨h1, .inr ⟨g, cap, cur, h3, h4, (hw.block g (Array.getElem?_eq_some_iff.1 h5).1).trans h5, h6⟩⟩
theorem OwnT.store {w : World} {base g cap : Nat} {l : List (Int × Int)} (h : OwnT w base (.slice (some ⟨g, 0, none⟩) l.length cap) l) (k : Nat) (q : Int) (hk : k < l.length) :
    OwnT (w.setCell ⟨g, k * 2, none⟩ (.int .i64 q)) base (.slice (some ⟨g, 0, none⟩) l.length cap) (l.set k (q, (l[k]?.getD (0, 0)).2)) := by
  have := World.ownsRow.stored h (k * 2) (.int .i64 q)
  unfold OwnT
  rw [← flatT_set l k q hk, List.length_set]
  exact this.1

/-- While the terms are divided. -/
def RedJ (w wr : World) (den s : Int) (l : List (Int × Int)) (a : Option Addr) (cap k : Nat) : Prop :=
  OwnT wr (w.heap.size + 3) (.slice a l.length cap) (divUp s l k) ∧ Two wr (w.heap.size + 1) (.int .i64 (den.tdiv s)) (.slice a l.length cap) 24 ∧ Two wr w.heap.size (.int .i64 0) (.slice none 0 0) 24 ∧ Below w.heap.size w wr ∧ w.heap.size + 3 ≤ wr.heap.size

set_option maxRecDepth 100000 in
set_option maxHeartbeats 4000000 in
theorem reduced_any (den : Int) (B n : Nat) (c : Int → Int) (w : World) (hs : OwnSum w B n c) (hn : n ≤ 1000) (hd1 : -9000000000000000000 ≤ den) (hd2 : den ≤ 9000000000000000000) (hd3 : den ≠ 0)
    (hsort : Hid (∀ base v l w, OwnT w base v l → l.length ≤ 1000 → (∀ t ∈ l, 0 ≤ t.2 ∧ t.2 ≤ 1000000000000) → Calls Tryz.prog 114 #[v, .func (.func 115) #[] #[]] w (SortTo base v l w)))
    (hcr : Hid (∀ r, c r ≠ 0 → 0 ≤ r ∧ r ≤ 1000000000000)) (hcb : Hid (∀ r, -9000000000000000000 ≤ c r ∧ c r ≤ 9000000000000000000)) :
    Calls Tryz.prog 89 #[.int .i64 den, .map (some B)] w (RedTo den c w) := by
  obtain ⟨D, hown, hsd⟩ := hs
  have HSD := Lib.hid hsd
  have hBl := hown.lt
  have HD3 := Lib.hid hd3
  clear hsd hd3
  go_enter Tryz.func89, Tryz.ntmps89
  go_wp2_with (first
    | (at_range; refine wpList_range_own _ rfl _ 67 rfl 3 3 law3 und67 _ B n _ rfl (((hown.alloc _).alloc _)) ?_; intro w0 hrg0 hg0 hs0)
    | go_in)
  go_frame
  have e1 : ∀ o1 o2, ((w.alloc o1).alloc o2).heap.size = w.heap.size + 1 + 1 := fun o1 o2 => by simp
  rw [e1] at hrg0 hs0 ⊢
  clear e1
  have HI0 : Hid (RedI w w0 B n D c den (Maps.has D) (Maps.size D) [] (.slice none 0 0)) := by
    have hb0 : Below w.heap.size w w0 := (((Below.refl _ _).alloc (Nat.le_refl _) _).alloc (by simp) _).grown hg0 (by simp; omega) (fun j hj => by cases hj)
    refine Lib.hid ⟨hrg0, World.ownsRow_nil _ _ _ _, ?_, ⟨by simp, by simp, fun r h0 hf => ?_⟩, by simp, by simpa using hown.size_le, hb0, by omega, ((Two.new w (.int .i64 0) (.slice none 0 0) 24).alloc _).kept hg0 (by simp)⟩
    · have := ((Two.new (w.alloc _) (.int .i64 den) (.slice none 0 0) 24)).kept hg0 (by simp)
      simpa using this
    · have := has_true_of_atKey ((HSD.out.2 r).1 h0)
      rw [this] at hf; cases hf
  have HDL : Hid (Maps.has D = Maps.has D) := Lib.hid rfl
  clear hrg0 hg0 hs0
  obtain ⟨i0, hi, hz0, hz1, hz2⟩ := info_parts info34
  go_loopw [6, 7] (fun _ _ wr => ∃ (left : Lit → Bool) (cnt : Nat) (ts : List (Int × Int)) (v : Value), Hid (RedI w wr B n D c den left cnt ts v)) (fun _ _ wr => wr.rangeLeft B (w.heap.size + 1 + 1))
  case atStart => exact ⟨_, _, _, _, HI0⟩
  case round =>
    obtain ⟨left, cnt, ts, v, HI⟩ := hrel
    obtain ⟨hrg, hrow, h2, hcoll, hleft, hcnt, hbw, hsz, hres⟩ := HI.out
    have HCO := Lib.hid hcoll
    have HLE := Lib.hid hleft
    have HBW := Lib.hid hbw
    have HRS := Lib.hid hres
    clear hres
    have HTW := Lib.hid h2
    have HROW := Lib.hid hrow
    clear hcoll hleft hbw h2 hrow
    go_wp2_with (first
      | (at_next; refine wpList_next_ranges_ii _ rfl _ rfl 3 3 .i64 .i64 law3 und3 und3 B (w.heap.size + 1 + 1) n _ _ _ rfl hrg ?_ ?_)
      | go_in)
    · intro hc0 hl0
      have c0 := HTW.out.c0
      have c1 := HTW.out.c1
      have hll : ts.length ≤ 1000 := by omega
      have hco : IsColl c ts := ⟨HCO.out.1, HCO.out.2.1, fun r h0 => HCO.out.2.2 r h0 (hl0 _)⟩
      have HS := Lib.hid (hsort.out _ v ts wr HROW.out hll (fun t ht => by have := hco.2.1 t ht; exact hcr.out t.2 (by rw [this.1]; exact this.2)))
      have HCOL := Lib.hid hco
      have hnb : ∀ k, v.ownBlock = some k → w.heap.size + 3 ≤ k := fun k hk => (HROW.out.lt k hk).1
      have HNB := Lib.hid hnb
      clear hco hnb hl0
      go_wp2_with fail
      refine HS.out.mono ?_
      rintro e w1 ⟨rfl, ⟨l, hp, hpw, hown1⟩, hg1⟩
      have hit := isTerms_of HCOL.out hp hpw
      have hlen : l.length ≤ 1000 := by have := hp.length_eq; omega
      have HIT := Lib.hid hit
      have HO1 := Lib.hid hown1
      have HT1 := Lib.hid (HTW.out.kept hg1 (by intro e; have := HNB.out _ e.symm; omega))
      have HR1 := Lib.hid (HRS.out.kept hg1 (by intro e; have := HNB.out _ e.symm; omega))
      have HB1 := Lib.hid (HBW.out.grown hg1 HBW.out.size (fun k hk => by have := HNB.out k hk; omega))
      have HTA := Lib.hid (HO1.out.at (by omega))
      have hlb : Hid (∀ t ∈ l, -9000000000000000000 ≤ t.1 ∧ t.1 ≤ 9000000000000000000) := Lib.hid (fun t ht => by
        have := (HIT.out.2 t.1 t.2).1 ht
        have := hcb.out t.2
        omega)
      have hsz1 : w.heap.size + 3 ≤ w1.heap.size := by have := hg1.size; omega
      clear hp hpw hown1 hg1 hit c0 c1 hc0 hrg
      have c0 := HT1.out.c0
      have c1 := HT1.out.c1
      go_wp2_with fail
      refine (divisor_at den v l _ HTA.out hd1 hd2 hlb).mono ?_
      rintro e w2 ⟨rfl, hb2⟩
      have hv1 := dv_pos den l HD3.out
      have hv2 := dv_le den l 9000000000000000000 hd1 hd2 hlb.out
      have hsd : sgnDv den l = if den < 0 then -(dvF den l : Int) else dvF den l := rfl
      have hsz2 := hb2.size
      have HB2 := Lib.hid (HB1.out.trans (hb2.mono HB1.out.size))
      have ht2 := HT1.out.below hb2 HT1.out.lt
      have hr2 := HR1.out.below hb2 HR1.out.lt
      have hown2 : OwnT w2 (w.heap.size + 3) v l := HO1.out.below hb2
      obtain ⟨a, cap, rfl, hpl⟩ := hown2.shape
      have HT2 := Lib.hid ht2
      have HR2 := Lib.hid hr2
      have HO2 := Lib.hid hown2
      have HPL := Lib.hid hpl
      generalize (dvF den l : Int) = gg at hv1 hv2 hsd ⊢
      have HSD2 := Lib.hid hsd
      clear c0 c1 hb2 ht2 hr2 hown2 hpl hsd
      have c0 := HT2.out.c0
      have c1 := HT2.out.c1
      have f0 := HT2.out.fr (i := 0)
      have hgg : ¬ gg = 0 := by omega
      have hq := domQ2_wrap
      have HDD := Lib.hid (And.intro hd1 hd2)
      have main : ∀ s : Int, Hid (sgnDv den l = s) → s ≠ 0 → True := fun _ _ _ => trivial
      clear main
      by_cases hneg : den < 0
      · have e41 : wrap64 (-den.tdiv gg) = den.tdiv (-gg) := by
          have := tdiv_abs den gg (by omega) _ hd1 hd2
          rw [IntWalk.wrap64_in _ ⟨by omega, by omega⟩, Int.tdiv_neg]
        have E41 := Lib.hid e41
        have HSG : Hid (sgnDv den l = -gg) := Lib.hid (by rw [HSD2.out, if_pos hneg])
        have hs0 : -gg ≠ 0 := by omega
        have HS0 := Lib.hid hs0
        clear e41 hq hs0
        go_wp2_with fail
        rw [E41.out]
        clear E41 HSD2 hv1 hv2 hgg hneg
        have hq := domQ2_wrap
        have hs0 := HS0.out
        generalize -gg = s at HSG hs0 ⊢
        clear HS0
        obtain ⟨wl, hwl⟩ : ∃ wl, wl = w2.setCell { block := w.heap.size + 1, off := 0 } (Value.int IntKind.i64 (den.tdiv s)) := ⟨_, rfl⟩
        rw [← hwl]
        have HWL := Lib.hid hwl
        clear hwl
        have hg0 : w2.grownBy wl (some (w.heap.size + 1)) := by rw [HWL.out]; exact grownBy_setCell w2 ⟨w.heap.size + 1, 0, none⟩ _
        have HI1 : Hid (RedJ w wl den s l a cap 0) := by
          refine Lib.hid ⟨?_, ?_, HR2.out.kept hg0 (by simp), ?_, by rw [HWL.out]; simp; omega⟩
          · have e : divUp s l 0 = l := by simp [divUp, divS]
            rw [e]
            exact HO2.out.kept hg0 (by cases hv : (Value.slice a l.length cap).ownBlock with
              | none => exact .inl rfl
              | some k => right; have := (HO2.out.lt k hv).1; simp; omega)
          · rw [HWL.out]; exact HT2.out.set0 _
          · exact HB2.out.grown hg0 HB2.out.size (by intro k hk; cases hk; omega)
        clear hg0 HWL c0 c1 f0
        go_loopw [9, 46] (fun _ i wr => ∃ k : Nat, k ≤ l.length ∧ i = .int .i64 k ∧ Hid (RedJ w wr den s l a cap k)) (fun _ i _ => l.length - (intOf i).toNat)
        case atStart => exact ⟨0, Nat.zero_le _, rfl, HI1⟩
        case round =>
          clear HI1
          obtain ⟨k, hk, rfl, HJ⟩ := hrel
          obtain ⟨ho, ht, hr, hbw3, hsz3⟩ := HJ.out
          have c0 := ht.c0
          have c1 := ht.c1
          have r0 := hr.c0
          have r1 := hr.c1
          have q0 := hr.fr (i := 0)
          have q1 := hr.fr (i := 1)
          have HOJ := Lib.hid ho
          have HTJ := Lib.hid ht
          have HRJ := Lib.hid hr
          have HBJ := Lib.hid hbw3
          clear ho ht hr hbw3
          by_cases hlt : k < l.length
          · obtain ⟨g, rfl, hgb⟩ := HPL.out k hlt
            have hll2 : (divUp s l k).length = l.length := divUp_len s l k hk
            have ho1 : OwnT wr (w.heap.size + 3) (.slice (some ⟨g, 0, none⟩) (divUp s l k).length cap) (divUp s l k) := by rw [hll2]; exact HOJ.out
            have hcell : wr.cell? ⟨g, k * 2, none⟩ = some (.int .i64 (l[k]?.getD (0, 0)).1) := by
              have h1 := World.ownsRow.cellAt ho1 (k * 2) (by omega)
              have h2 := (flatT_get (divUp s l k) k (by omega)).1
              rw [divUp_at s l k hlt] at h2
              exact h1.trans h2
            have hfz : wr.frozen? ⟨g, k * 2, none⟩ = false := World.ownsRow.frozenAt ho1 (k * 2)
            have hst := fun q => ho1.store k q (by omega)
            have hbd := hlb.out (l[k]?.getD (0, 0)) (by simp [hlt])
            have hse := divUp_set s l k hlt
            rw [divUp_at s l k hlt] at hst
            obtain ⟨x, r, hel⟩ : ∃ x r, l[k]?.getD (0, 0) = (x, r) := ⟨_, _, rfl⟩
            rw [hel] at hcell hbd hse hst
            dsimp only at hcell hbd hse hst
            have hst2 := hst (x.tdiv s)
            rw [hse, hll2] at hst2
            have hdq : DomQ2 x s := ⟨hbd.1, hbd.2, hs0⟩
            have HST := Lib.hid hst2
            clear hel hst hse hll2 ho1 hst2 hbd
            go_wp2
            go_roundw
            case rel =>
              have hg5 := grownBy_setCell wr ⟨g, k * 2, none⟩ (.int .i64 (x.tdiv s))
              exact ⟨k + 1, by omega, by go_num, Lib.hid ⟨HST.out, HTJ.out.kept hg5 (by simp; omega), HRJ.out.kept hg5 (by simp; omega), HBJ.out.grown hg5 HBJ.out.size (by intro q hq; cases hq; dsimp only; omega), by simp; omega⟩⟩
            case measure => simp [intOf]; omega
          · have hk : k = l.length := by omega
            have HF : Hid (OwnT wr (w.heap.size + 3) (.slice a l.length cap) (divS s l)) := Lib.hid (by
              have := HOJ.out
              have e : divUp s l k = divS s l := by rw [hk]; simp [divUp]
              rwa [e] at this)
            clear hk HOJ
            go_wp2
            have t5 := HRJ.out.set0 (.int .i64 (den.tdiv s))
            have t6 := t5.set1 (.slice a l.length cap) rfl
            have d0 := t5.c0
            have d1 := t6.c0
            have d2 := t6.c1
            have g5 := grownBy_setCell wr ⟨w.heap.size, 0, none⟩ (.int .i64 (den.tdiv s))
            have g6 := grownBy_setCell (wr.setCell ⟨w.heap.size, 0, none⟩ (.int .i64 (den.tdiv s))) ⟨w.heap.size, 1, none⟩ (.slice a l.length cap)
            have hne : (Value.slice a l.length cap).ownBlock = none ∨ (Value.slice a l.length cap).ownBlock ≠ some w.heap.size := by
              cases hv : (Value.slice a l.length cap).ownBlock with
              | none => exact .inl rfl
              | some q => right; have := (HF.out.lt q hv).1; simp; omega
            have hta := (((HF.out.kept g5 hne).kept g6 hne)).at (by unfold divS; simp; omega)
            have hbw := (HBJ.out.grown g5 HBJ.out.size (by intro q hq; cases hq; exact Nat.le_refl _)).grown g6 (by have := HBJ.out.size; simpa using this) (by intro q hq; cases hq; exact Nat.le_refl _)
            refine bodyPost_ret (v := .agg #[.int .i64 (den.tdiv s), .slice a l.length cap]) ?_ rfl ?_
            · simp [results, Tryz.results89, go_sem, d0, d1, d2]
            · refine ⟨l, .slice a l.length cap, HIT.out, hlen, by rw [HSG.out], ?_, hbw, fun q hv => by have := (HF.out.lt q hv).1; omega⟩
              rw [HSG.out]; exact hta
      · have e41 : den / gg = den.tdiv gg := by rw [Int.tdiv_eq_ediv_of_nonneg (by omega)]
        have E41 := Lib.hid e41
        have HSG : Hid (sgnDv den l = gg) := Lib.hid (by rw [HSD2.out, if_neg hneg])
        have hdec : decide (den < 0) = false := by simp; omega
        clear e41 hq
        go_wp2_with fail
        rw [E41.out]
        clear E41 HSD2 hv1 hv2 hneg hdec
        have hq := domQ2_wrap
        have hs0 : gg ≠ 0 := hgg
        clear hgg
        generalize gg = s at HSG hs0 ⊢
        obtain ⟨wl, hwl⟩ : ∃ wl, wl = w2.setCell { block := w.heap.size + 1, off := 0 } (Value.int IntKind.i64 (den.tdiv s)) := ⟨_, rfl⟩
        rw [← hwl]
        have HWL := Lib.hid hwl
        clear hwl
        have hg0 : w2.grownBy wl (some (w.heap.size + 1)) := by rw [HWL.out]; exact grownBy_setCell w2 ⟨w.heap.size + 1, 0, none⟩ _
        have HI1 : Hid (RedJ w wl den s l a cap 0) := by
          refine Lib.hid ⟨?_, ?_, HR2.out.kept hg0 (by simp), ?_, by rw [HWL.out]; simp; omega⟩
          · have e : divUp s l 0 = l := by simp [divUp, divS]
            rw [e]
            exact HO2.out.kept hg0 (by cases hv : (Value.slice a l.length cap).ownBlock with
              | none => exact .inl rfl
              | some k => right; have := (HO2.out.lt k hv).1; simp; omega)
          · rw [HWL.out]; exact HT2.out.set0 _
          · exact HB2.out.grown hg0 HB2.out.size (by intro k hk; cases hk; omega)
        clear hg0 HWL c0 c1 f0
        go_loopw [9, 46] (fun _ i wr => ∃ k : Nat, k ≤ l.length ∧ i = .int .i64 k ∧ Hid (RedJ w wr den s l a cap k)) (fun _ i _ => l.length - (intOf i).toNat)
        case atStart => exact ⟨0, Nat.zero_le _, rfl, HI1⟩
        case round =>
          clear HI1
          obtain ⟨k, hk, rfl, HJ⟩ := hrel
          obtain ⟨ho, ht, hr, hbw3, hsz3⟩ := HJ.out
          have c0 := ht.c0
          have c1 := ht.c1
          have r0 := hr.c0
          have r1 := hr.c1
          have q0 := hr.fr (i := 0)
          have q1 := hr.fr (i := 1)
          have HOJ := Lib.hid ho
          have HTJ := Lib.hid ht
          have HRJ := Lib.hid hr
          have HBJ := Lib.hid hbw3
          clear ho ht hr hbw3
          by_cases hlt : k < l.length
          · obtain ⟨g, rfl, hgb⟩ := HPL.out k hlt
            have hll2 : (divUp s l k).length = l.length := divUp_len s l k hk
            have ho1 : OwnT wr (w.heap.size + 3) (.slice (some ⟨g, 0, none⟩) (divUp s l k).length cap) (divUp s l k) := by rw [hll2]; exact HOJ.out
            have hcell : wr.cell? ⟨g, k * 2, none⟩ = some (.int .i64 (l[k]?.getD (0, 0)).1) := by
              have h1 := World.ownsRow.cellAt ho1 (k * 2) (by omega)
              have h2 := (flatT_get (divUp s l k) k (by omega)).1
              rw [divUp_at s l k hlt] at h2
              exact h1.trans h2
            have hfz : wr.frozen? ⟨g, k * 2, none⟩ = false := World.ownsRow.frozenAt ho1 (k * 2)
            have hst := fun q => ho1.store k q (by omega)
            have hbd := hlb.out (l[k]?.getD (0, 0)) (by simp [hlt])
            have hse := divUp_set s l k hlt
            rw [divUp_at s l k hlt] at hst
            obtain ⟨x, r, hel⟩ : ∃ x r, l[k]?.getD (0, 0) = (x, r) := ⟨_, _, rfl⟩
            rw [hel] at hcell hbd hse hst
            dsimp only at hcell hbd hse hst
            have hst2 := hst (x.tdiv s)
            rw [hse, hll2] at hst2
            have hdq : DomQ2 x s := ⟨hbd.1, hbd.2, hs0⟩
            have HST := Lib.hid hst2
            clear hel hst hse hll2 ho1 hst2 hbd
            go_wp2
            go_roundw
            case rel =>
              have hg5 := grownBy_setCell wr ⟨g, k * 2, none⟩ (.int .i64 (x.tdiv s))
              exact ⟨k + 1, by omega, by go_num, Lib.hid ⟨HST.out, HTJ.out.kept hg5 (by simp; omega), HRJ.out.kept hg5 (by simp; omega), HBJ.out.grown hg5 HBJ.out.size (by intro q hq; cases hq; dsimp only; omega), by simp; omega⟩⟩
            case measure => simp [intOf]; omega
          · have hk : k = l.length := by omega
            have HF : Hid (OwnT wr (w.heap.size + 3) (.slice a l.length cap) (divS s l)) := Lib.hid (by
              have := HOJ.out
              have e : divUp s l k = divS s l := by rw [hk]; simp [divUp]
              rwa [e] at this)
            clear hk HOJ
            go_wp2
            have t5 := HRJ.out.set0 (.int .i64 (den.tdiv s))
            have t6 := t5.set1 (.slice a l.length cap) rfl
            have d0 := t5.c0
            have d1 := t6.c0
            have d2 := t6.c1
            have g5 := grownBy_setCell wr ⟨w.heap.size, 0, none⟩ (.int .i64 (den.tdiv s))
            have g6 := grownBy_setCell (wr.setCell ⟨w.heap.size, 0, none⟩ (.int .i64 (den.tdiv s))) ⟨w.heap.size, 1, none⟩ (.slice a l.length cap)
            have hne : (Value.slice a l.length cap).ownBlock = none ∨ (Value.slice a l.length cap).ownBlock ≠ some w.heap.size := by
              cases hv : (Value.slice a l.length cap).ownBlock with
              | none => exact .inl rfl
              | some q => right; have := (HF.out.lt q hv).1; simp; omega
            have hta := (((HF.out.kept g5 hne).kept g6 hne)).at (by unfold divS; simp; omega)
            have hbw := (HBJ.out.grown g5 HBJ.out.size (by intro q hq; cases hq; exact Nat.le_refl _)).grown g6 (by have := HBJ.out.size; simpa using this) (by intro q hq; cases hq; exact Nat.le_refl _)
            refine bodyPost_ret (v := .agg #[.int .i64 (den.tdiv s), .slice a l.length cap]) ?_ rfl ?_
            · simp [results, Tryz.results89, go_sem, d0, d1, d2]
            · refine ⟨l, .slice a l.length cap, HIT.out, hlen, by rw [HSG.out], ?_, hbw, fun q hv => by have := (HF.out.lt q hv).1; omega⟩
              rw [HSG.out]; exact hta
    · intro x cc w1 cnt1 hwx hwc hlx hat hrg1 hlt hg1 hs1 hen
      have hst := HCO.out.step HLE.out HSD.out hlx hat
      have HST := Lib.hid hst
      have t1 := HTW.out.kept hg1 (by simp)
      have c0 := t1.c0
      have c1 := t1.c1
      have f1 := t1.fr (i := 1)
      have hrow1 : OwnT w1 (w.heap.size + 3) v ts := HROW.out.kept hg1 (by
        cases hv : v.ownBlock with
        | none => exact .inl rfl
        | some k => right; have := (HROW.out.lt k hv).1; simp; omega)
      have hvb : some (w.heap.size + 1) ≠ v.ownBlock := by
        intro e
        have := (HROW.out.lt _ e.symm).1
        omega
      have hvB : some B ≠ v.ownBlock := by
        intro e
        have := (HROW.out.lt _ e.symm).1
        omega
      have hvr : some (w.heap.size + 1 + 1) ≠ v.ownBlock := by
        intro e
        have := (HROW.out.lt _ e.symm).1
        omega
      have hbw1 : Below w.heap.size w w1 := HBW.out.grown hg1 HBW.out.size (by intro k hk; cases hk; omega)
      have HRG1 := Lib.hid hrg1
      have HT1 := Lib.hid t1
      have HBW1 := Lib.hid hbw1
      have HVB := Lib.hid hvb
      have HVV := Lib.hid (And.intro hvB hvr)
      have hlenr : ∀ k, v.ownBlock = some k → w.heap.size + 3 ≤ k := fun k hk => (HROW.out.lt k hk).1
      have HLR := Lib.hid hlenr
      have HS1 : Hid (w1.heap.size = wr.heap.size) := Lib.hid hs1
      have hsz1 : w.heap.size + 3 ≤ w1.heap.size := by omega
      clear hst hat hrg1 t1 hbw1 hvb hvB hvr hlenr hs1
      go_wp2_with (first
        | (at_builtin; refine wpList_append_own _ rfl _ _ 22 rfl (w.heap.size + 3) 34 i0 (.agg #[.int .i64 0, .int .i64 0]) 2 16 und22 hi hz0 hz1 hz2 rfl (by decide) v ts.length (flatT ts) rfl (World.ownsRow.alloc hrow1 _) ⟨w1.heap.size, 0, none⟩ 1 1 [.int .i64 cc, .int .i64 x] rfl rfl (cell_two_new _ _ _ _) (by simp [Value.oneCell']) (by unfold maxLen; omega) (by omega) (by simp; omega) ?_; intro v' w2 hown2 hgrow2 _; have t2 := (HT1.out.alloc (.cells #[.int .i64 cc, .int .i64 x] 34)).kept hgrow2 HVB.out; have d1 := t2.c1; have f2 := t2.fr (i := 1); have HT2 := Lib.hid t2; obtain ⟨g', cap', rfl⟩ := ownsRow_succ hown2; have HGW2 := Lib.hid hgrow2; have HOW2 := Lib.hid hown2; clear t2 hgrow2 hown2 hrow1))
      go_roundw
      case rel =>
        refine ⟨_, cnt1, ts ++ [(cc, x)], _, Lib.hid ⟨(HRG1.out.alloc _ |>.kept HGW2.out HVV.out.1 HVV.out.2).kept (grownBy_setCell _ _ _) (by simp; omega) (by simp), ?_, HT2.out.set1 _ rfl, HST.out.1, HST.out.2.1, by simp; omega, ?_, ?_, ?_⟩⟩
        · have h1 : OwnT w2 (w.heap.size + 3) (.slice (some ⟨g', 0, none⟩) (ts.length + 1) cap') (ts ++ [(cc, x)]) := by unfold OwnT; rw [flatT_snoc, List.length_append]; exact HOW2.out
          exact ownsRow_setCell_other h1 (by have := (HOW2.out.lt g' rfl).1; simp [Value.ownBlock]; omega) _
        · exact ((HBW1.out.alloc HBW1.out.size _).grown HGW2.out (by have := HBW1.out.size; simp; omega) (fun k hk => by have := HLR.out k hk; omega)).setCell (by simp) _
        · have := HGW2.out.size; simp at this ⊢; omega
        · exact ((((HRS.out.kept hg1 (by simp; omega)).alloc _).kept HGW2.out (by intro e; have := HLR.out _ e.symm; omega)).kept (grownBy_setCell _ _ _) (by simp))
      case measure =>
        have hrn := ((HRG1.out.alloc (.cells #[.int .i64 cc, .int .i64 x] 34) |>.kept HGW2.out HVV.out.1 HVV.out.2).kept (grownBy_setCell w2 ⟨w.heap.size + 1, 1, none⟩ (.slice (some ⟨g', 0, none⟩) (ts.length + 1) cap')) (by simp; omega) (by simp))
        rw [hrn.left_eq, hrg.left_eq]
        exact hlt
end Go.Proofs.YtedpafdfecofnaaGreatDoor

/-! ## S9 -/
namespace Go.Proofs.YtedpafdfecofnaaGreatDoor
open Go.RowKit Go.Maps
theorem two_after_alloc {W0 : World} {b : Nat} {u1 u2 : Value} {T : TypeId} (h : Two W0 b u1 u2 T) (x v : Value) (hv : v.cells = #[v]) (o : Obj) :
    (((W0.setCell ⟨b, 0, none⟩ x).setCell ⟨b, 1, none⟩ v).alloc o).cell? ⟨b, 0, none⟩ = some x ∧ (((W0.setCell ⟨b, 0, none⟩ x).setCell ⟨b, 1, none⟩ v).alloc o).cell? ⟨b, 1, none⟩ = some v ∧ W0.grownBy (((W0.setCell ⟨b, 0, none⟩ x).setCell ⟨b, 1, none⟩ v).alloc o) (some b) := by
  have t5 := h.set0 x
  have t6 := (t5.set1 v hv).alloc o
  have g5 := grownBy_setCell W0 ⟨b, 0, none⟩ x
  have g6 := grownBy_setCell (W0.setCell ⟨b, 0, none⟩ x) ⟨b, 1, none⟩ v
  exact ⟨t6.c0, t6.c1, (g5.trans g6).trans (World.grownBy_alloc _ _ _)⟩
def SortC : Prop := ∀ base v l w, OwnT w base v l → l.length ≤ 1000 → (∀ t ∈ l, 0 ≤ t.2 ∧ t.2 ≤ 1000000000000) → Calls Tryz.prog 114 #[v, .func (.func 115) #[] #[]] w (SortTo base v l w)

/-- What a function gives that makes a number: the denominator, the terms, the error. -/
def finF (den : Int) (l : List (Int × Int)) : Int × List (Int × Int) × Int :=
  let s := sgnDv den l
  if 4 < l.length then (0, [], 8) else if 100000 < den.tdiv s ∨ (divS s l).all isPartF = false then (0, [], 10) else (den.tdiv s, divS s l, 0)
/-- A number and an error are returned; what was there is as it was. -/
def NumTo (r : Int × List (Int × Int) × Int) (w : World) (e : Ending) (w' : World) : Prop :=
  ∃ v, e = .returned (.tuple #[.agg #[.int .i64 r.1, v], .int .i64 r.2.2]) ∧ TermsAt w' v r.2.1 ∧ Below w.heap.size w w' ∧ ∀ k, v.ownBlock = some k → w.heap.size ≤ k
def FinTo (den : Int) (c : Int → Int) (w : World) (e : Ending) (w' : World) : Prop := ∃ l, IsTerms c l ∧ l.length ≤ 1000 ∧ NumTo (finF den l) w e w'

theorem termsAt_nil (w : World) : TermsAt w (.slice none 0 0) [] := ⟨by simp, .inl ⟨rfl, none, 0, rfl⟩⟩

set_option maxRecDepth 100000 in
set_option maxHeartbeats 1000000 in
theorem finish_any (hsort : Hid SortC) (den : Int) (B n : Nat) (c : Int → Int) (w : World) (hs : OwnSum w B n c) (hn : n ≤ 1000) (hd1 : -9000000000000000000 ≤ den) (hd2 : den ≤ 9000000000000000000) (hd3 : den ≠ 0)
    (hcr : Hid (∀ r, c r ≠ 0 → 0 ≤ r ∧ r ≤ 1000000000000)) (hcb : Hid (∀ r, -9000000000000000000 ≤ c r ∧ c r ≤ 9000000000000000000)) :
    Calls Tryz.prog 54 #[.int .i64 den, .map (some B)] w (FinTo den c w) := by
  have HOS := Lib.hid hs
  have HD3 := Lib.hid hd3
  clear hs hd3
  go_enter Tryz.func54, Tryz.ntmps54
  go_wp2_with fail
  refine (reduced_any den B n c _ (HOS.out.below ((Below.refl _ _).alloc (Nat.le_refl _) _)) hn hd1 hd2 HD3.out hsort hcr hcb).mono ?_
  rintro e w1 ⟨l, v, hit, hlen, rfl, hta, hbw, hfresh⟩
  obtain ⟨q, hq⟩ : ∃ q, den.tdiv (sgnDv den l) = q := ⟨_, rfl⟩
  rw [hq]
  have t0 := (Two.new w (.int .i64 0) (.slice none 0 0) 24).below hbw (by simp)
  have HQ := Lib.hid hq
  have HIT := Lib.hid hit
  have HB1 : Hid (Below w.heap.size w w1) := Lib.hid (((Below.refl _ _).alloc (Nat.le_refl _) _).trans (hbw.mono (by simp)))
  have HT0 := Lib.hid t0
  have hll : (divS (sgnDv den l) l).length = l.length := by simp [divS]
  obtain ⟨a, cap, rfl, hpl⟩ := hta.placed
  rw [hll] at hfresh ⊢
  have HTA : Hid (TermsAt w1 (.slice a l.length cap) (divS (sgnDv den l) l)) := Lib.hid (by rw [← hll]; exact hta)
  have hw1 : w.heap.size < w1.heap.size := t0.lt
  have HFR := Lib.hid hfresh
  clear hq hit t0 hbw hta hpl hll hfresh
  have HTW := Lib.hid (HT0.out.alloc (.cells #[.int .i64 q, .slice a l.length cap] 24))
  have hend : ∀ W0 : World, Two W0 w.heap.size (.int .i64 0) (.slice none 0 0) 24 → Below w.heap.size w W0 → TermsAt W0 (.slice a l.length cap) (divS (sgnDv den l) l) → ∀ x r v, NumTo (x, r, 0) w (.returned (.tuple #[.agg #[.int .i64 x, v], .int .i64 0])) W0 → True := fun _ _ _ _ _ _ _ _ => trivial
  clear hend
  have c0 := HT0.out.c0
  have c1 := HT0.out.c1
  have f0 := HT0.out.fr (i := 0)
  have f1 := HT0.out.fr (i := 1)
  have HBA : Hid (Below w.heap.size w (w1.alloc (.cells #[.int .i64 q, .slice a l.length cap] 24))) := Lib.hid (HB1.out.alloc HB1.out.size _)
  by_cases h4 : 4 < l.length
  · have HR : Hid (finF den l = (0, [], 8)) := Lib.hid (by simp [finF, h4])
    go_wp2
    obtain ⟨d1, d2, hg⟩ := two_after_alloc HT0.out (.int .i64 0) (.slice none 0 0) rfl (.cells #[.int .i64 q, .slice a l.length cap] 24)
    refine bodyPost_ret (v := .tuple #[.agg #[.int .i64 0, .slice none 0 0], .int .i64 8]) ?_ rfl ?_
    · simp [results, Tryz.results54, go_sem, d1, d2]
    · refine ⟨l, HIT.out, hlen, ?_⟩
      rw [HR.out]
      exact ⟨_, rfl, termsAt_nil _, HB1.out.grown hg HB1.out.size (by intro k hk; cases hk; exact Nat.le_refl _), fun k hk => by cases hk⟩
  · by_cases hd : 100000 < q
    · have HR : Hid (finF den l = (0, [], 10)) := Lib.hid (by simp only [finF]; rw [if_neg h4, if_pos (by left; rw [HQ.out]; exact hd)])
      go_wp2
      obtain ⟨d1, d2, hg⟩ := two_after_alloc HT0.out (.int .i64 0) (.slice none 0 0) rfl (.cells #[.int .i64 q, .slice a l.length cap] 24)
      refine bodyPost_ret (v := .tuple #[.agg #[.int .i64 0, .slice none 0 0], .int .i64 10]) ?_ rfl ?_
      · simp [results, Tryz.results54, go_sem, d1, d2]
      · refine ⟨l, HIT.out, hlen, ?_⟩
        rw [HR.out]
        exact ⟨_, rfl, termsAt_nil _, HB1.out.grown hg HB1.out.size (by intro k hk; cases hk; exact Nat.le_refl _), fun k hk => by cases hk⟩
    · have hdd : decide (100000 < q) = false := by simp; omega
      go_wp2_with fail
      refine (everyPart_at (.slice a l.length cap) (divS (sgnDv den l) l) _ (HTA.out.alloc _)).mono ?_
      rintro e w2 ⟨rfl, hb2⟩
      have HT2 := Lib.hid (HTW.out.below hb2 HTW.out.lt)
      have HB2 : Hid (Below w.heap.size w w2) := Lib.hid (HBA.out.trans (hb2.mono HBA.out.size))
      have HTA2 := Lib.hid ((HTA.out.alloc _).below hb2)
      have HX2 := Lib.hid ((Two.new w1 (.int .i64 q) (.slice a l.length cap) 24).below hb2 (by simp))
      clear hb2 c0 c1 f0 f1
      have c0 := HT2.out.c0
      have c1 := HT2.out.c1
      have f0 := HT2.out.fr (i := 0)
      have f1 := HT2.out.fr (i := 1)
      have x0 := HX2.out.c0
      have x1 := HX2.out.c1
      cases ha : (divS (sgnDv den l) l).all isPartF
      · have HR : Hid (finF den l = (0, [], 10)) := Lib.hid (by simp only [finF]; rw [if_neg h4, if_pos (by right; exact ha)])
        clear ha
        go_wp2
        obtain ⟨d0, d1, d2, hg⟩ := two_after HT2.out (.int .i64 0) (.slice none 0 0) rfl
        refine bodyPost_ret (v := .tuple #[.agg #[.int .i64 0, .slice none 0 0], .int .i64 10]) ?_ rfl ?_
        · simp [results, Tryz.results54, go_sem, d0, d1, d2]
        · refine ⟨l, HIT.out, hlen, ?_⟩
          rw [HR.out]
          exact ⟨_, rfl, termsAt_nil _, HB2.out.grown hg HB2.out.size (by intro k hk; cases hk; exact Nat.le_refl _), fun k hk => by cases hk⟩
      · have HR : Hid (finF den l = (q, divS (sgnDv den l) l, 0)) := Lib.hid (by simp only [finF]; rw [if_neg h4, if_neg (by rw [HQ.out, ha]; simp; omega), HQ.out])
        clear ha
        go_wp2
        obtain ⟨d0, d1, d2, hg⟩ := two_after HT2.out (.int .i64 q) (.slice a l.length cap) rfl
        refine bodyPost_ret (v := .tuple #[.agg #[.int .i64 q, .slice a l.length cap], .int .i64 0]) ?_ rfl ?_
        · simp [results, Tryz.results54, go_sem, d0, d1, d2]
        · refine ⟨l, HIT.out, hlen, ?_⟩
          rw [HR.out]
          refine ⟨_, rfl, HTA2.out.kept hg ?_, HB2.out.grown hg HB2.out.size (by intro k hk; cases hk; exact Nat.le_refl _), fun k hk => by have := HFR.out k hk; simp at this; omega⟩
          cases hv : (Value.slice a l.length cap).ownBlock with
          | none => exact .inl rfl
          | some k => right; have := HFR.out k hv; simp at this ⊢; omega
end Go.Proofs.YtedpafdfecofnaaGreatDoor
