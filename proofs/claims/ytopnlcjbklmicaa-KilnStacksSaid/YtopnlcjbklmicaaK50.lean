import Derived.Test.YtopnlcjbklmicaaK25
import Derived.WalkKit
import Derived.WalkSpells
import Derived.WalkLawsBesides
import Derived.Deep.QuietTactic
import Derived.BigQuiet
import Derived.Lib.Hide
import Derived.WalkSmall
import Derived.Maps.OwnSet
import Derived.Maps.RangeWalk
import Derived.Deep.RegionWith
import Derived.Deep.RegionHeld3
import Derived.Deep.DrawnRows
import Derived.Deep.DeepCutAuto
import Derived.OneCell
import Derived.KernelRfl
import Derived.Laws.StructEq
import Derived.StillTailTactics
import Derived.Laws.Externs
import Derived.RangeFuncBox
import Derived.Outline
import Derived.RangeFuncNested
import Derived.RangeFuncBound
import Derived.RangeFuncCalls
import Derived.RangeFuncLeaves
import Derived.Shelf.RegionOpen
import Derived.OwnWalkIn
import Derived.TacticsInMore
import Derived.LoopNIn
import Derived.LoopIn
import Derived.Test.YtopnlcjbklmicaaProg
namespace Go.Proofs.Ytopnlcjbklmicaa
open Go.RowKit Go.Maps Go.Shelf
set_option linter.unusedVariables false
set_option linter.unusedSimpArgs false
def val (p : Nat × Nat) : Rat := (p.1 : Rat) / (p.2 : Rat)
theorem div_nonneg' {x : Rat} (n : Nat) (h : 0 ≤ x) : 0 ≤ x / n := by
  rw [Rat.div_def]
  rcases Nat.eq_zero_or_pos n with rfl | hn
  · simp [Rat.inv_zero]
  · have h1 : (0 : Rat) < n := by exact_mod_cast hn
    exact Rat.mul_nonneg h (Rat.le_of_lt (Rat.inv_pos.2 h1))
theorem val_nonneg (p : Nat × Nat) : 0 ≤ val p := div_nonneg' _ (by exact_mod_cast Nat.zero_le _)
theorem div_red (n d g a b : Nat) (hn : n = g * a) (hd : d = g * b) (hg : 0 < g) (hb : 0 < b) : (a : Rat) / b = (n : Rat) / d := by
  subst hn hd
  have h1 : (g : Rat) ≠ 0 := by exact_mod_cast (by omega : g ≠ 0)
  have h2 : (b : Rat) ≠ 0 := by exact_mod_cast (by omega : b ≠ 0)
  simp only [Rat.natCast_mul]
  grind
theorem add_val (a b c d : Nat) (hb : 0 < b) (hd : 0 < d) : ((a * d + c * b : Nat) : Rat) / ((b * d : Nat) : Rat) = (a : Rat) / b + (c : Rat) / d := by
  have h1 : (b : Rat) ≠ 0 := by exact_mod_cast (by omega : b ≠ 0)
  have h2 : (d : Rat) ≠ 0 := by exact_mod_cast (by omega : d ≠ 0)
  simp only [Rat.natCast_mul, Rat.natCast_add]
  grind
theorem mul_div' (a b n : Nat) (hb : 0 < b) (hn : 0 < n) : (a : Rat) / ((b * n : Nat) : Rat) = ((a : Rat) / b) / n := by
  have h1 : (b : Rat) ≠ 0 := by exact_mod_cast (by omega : b ≠ 0)
  have h2 : (n : Rat) ≠ 0 := by exact_mod_cast (by omega : n ≠ 0)
  simp only [Rat.natCast_mul]
  grind
theorem div_mono {x y : Rat} (n : Nat) (hn : 0 < n) (h : x ≤ y) : x / n ≤ y / n := by
  have h1 : (0 : Rat) < n := by exact_mod_cast hn
  rw [Rat.div_def, Rat.div_def]
  exact Rat.mul_le_mul_of_nonneg_right h (Rat.le_of_lt (Rat.inv_pos.2 h1))
theorem n_div {x : Rat} (n : Nat) (hn : 0 < n) : n * (x / n) = x := by
  have h1 : (n : Rat) ≠ 0 := by exact_mod_cast (by omega : n ≠ 0)
  grind
theorem le_cross (a b c d : Nat) (hb : 0 < b) (hd : 0 < d) : (a : Rat) / b ≤ (c : Rat) / d ↔ a * d ≤ c * b := by
  have h1 : (0 : Rat) < b := by exact_mod_cast hb
  have h2 : (0 : Rat) < d := by exact_mod_cast hd
  constructor
  · intro h
    have h3 := Rat.mul_le_mul_of_nonneg_right h (Rat.le_of_lt (Rat.mul_pos h1 h2))
    have e1 : (a : Rat) / b * (b * d) = a * d := by grind
    have e2 : (c : Rat) / d * (b * d) = c * b := by grind
    rw [e1, e2] at h3
    exact_mod_cast h3
  · intro h
    have h3 : (a : Rat) * d ≤ c * b := by exact_mod_cast h
    have h4 := Rat.mul_le_mul_of_nonneg_right h3 (Rat.le_of_lt (Rat.inv_pos.2 (Rat.mul_pos h1 h2)))
    have e1 : (a : Rat) * d * (b * d : Rat)⁻¹ = a / b := by rw [Rat.inv_mul_rev]; grind
    have e2 : (c : Rat) * b * (b * d : Rat)⁻¹ = c / d := by rw [Rat.inv_mul_rev]; grind
    rw [e1, e2] at h4
    exact h4
theorem val_zero {p : Nat × Nat} (hp : 0 < p.2) (h : val p = 0) : p.1 = 0 := by
  have h1 : (p.2 : Rat) ≠ 0 := by exact_mod_cast (by omega : p.2 ≠ 0)
  unfold val at h
  have h2 : (p.1 : Rat) = 0 := by grind
  exact_mod_cast h2
/-- A sum over a list of numbers. -/
def sumR (f : Nat → Rat) : List Nat → Rat
  | [] => 0
  | x :: l => f x + sumR f l
theorem sumR_append (f : Nat → Rat) (l m : List Nat) : sumR f (l ++ m) = sumR f l + sumR f m := by
  induction l with
  | nil => simp [sumR]; grind
  | cons x l ih => simp only [List.cons_append, sumR, ih]; grind
theorem sumR_mono {f g : Nat → Rat} {l : List Nat} (h : ∀ x ∈ l, f x ≤ g x) : sumR f l ≤ sumR g l := by
  induction l with
  | nil => exact Rat.le_refl
  | cons x l ih =>
    have h1 := h x (by simp)
    have h2 := ih (fun y hy => h y (by simp [hy]))
    simp only [sumR]; grind
theorem sumR_congr {f g : Nat → Rat} {l : List Nat} (h : ∀ x ∈ l, f x = g x) : sumR f l = sumR g l := by
  induction l with
  | nil => rfl
  | cons x l ih => simp only [sumR]; rw [h x (by simp), ih (fun y hy => h y (by simp [hy]))]
theorem sumR_zero {f : Nat → Rat} {l : List Nat} (h : ∀ x ∈ l, f x = 0) : sumR f l = 0 := by
  induction l with
  | nil => rfl
  | cons x l ih => simp only [sumR]; rw [h x (by simp), ih (fun y hy => h y (by simp [hy]))]; grind
theorem sumR_nonneg {f : Nat → Rat} {l : List Nat} (h : ∀ x ∈ l, 0 ≤ f x) : 0 ≤ sumR f l := by
  have := sumR_mono (f := fun _ => 0) (g := f) (l := l) h
  rwa [sumR_zero (fun _ _ => rfl)] at this
theorem sumR_const (x : Rat) (l : List Nat) : sumR (fun _ => x) l = l.length * x := by
  induction l with
  | nil => simp [sumR]
  | cons y l ih => simp only [sumR, ih, List.length_cons, Rat.natCast_add]; grind
theorem sumR_add (f g : Nat → Rat) (l : List Nat) : sumR (fun x => f x + g x) l = sumR f l + sumR g l := by
  induction l with
  | nil => simp [sumR]; grind
  | cons y l ih => simp only [sumR, ih]; grind
theorem sumR_filter (f : Nat → Rat) (p : Nat → Bool) (l : List Nat) : sumR f (l.filter p) = sumR (fun x => if p x then f x else 0) l := by
  induction l with
  | nil => rfl
  | cons y l ih =>
    by_cases h : p y = true
    · simp [h, sumR, ih]
    · simp [h, sumR, ih]; grind
/-- A term of a sum of terms that are not below 0. -/
theorem sumR_le {f : Nat → Rat} {l : List Nat} {x : Nat} (h : ∀ y ∈ l, 0 ≤ f y) (hx : x ∈ l) : f x ≤ sumR f l := by
  induction l with
  | nil => simp at hx
  | cons y l ih =>
    have h1 := h y (by simp)
    have h2 := sumR_nonneg (fun z hz => h z (List.mem_cons_of_mem _ hz))
    simp only [sumR]
    rcases List.mem_cons.1 hx with rfl | hx
    · grind
    · have := ih (fun z hz => h z (by simp [hz])) hx
      grind
theorem sumR_range_succ (f : Nat → Rat) (n : Nat) : sumR f (List.range (n + 1)) = sumR f (List.range n) + f n := by
  rw [List.range_succ, sumR_append]; simp only [sumR]; grind
/-- Cells by their bricks. -/
theorem sumR_by (f : Nat → Rat) (key : Nat → Int) (nb : Nat) (l : List Nat) :
    sumR (fun b => sumR f (l.filter fun c => decide (key c = (b : Int)))) (List.range nb) = sumR (fun c => if 0 ≤ key c ∧ key c < nb then f c else 0) l := by
  induction nb with
  | zero =>
    rw [sumR_zero (l := l) (fun c _ => if_neg (by omega))]
    rfl
  | succ nb ih =>
    rw [sumR_range_succ, ih, sumR_filter, ← sumR_add]
    refine sumR_congr fun c _ => ?_
    by_cases h1 : 0 ≤ key c ∧ key c < nb
    · rw [if_pos h1, if_neg (by simp; omega), if_pos (by omega)]; grind
    · rw [if_neg h1]
      by_cases h2 : key c = nb
      · rw [if_pos (by simpa using h2), if_pos (by omega)]; grind
      · rw [if_neg (by simpa using h2), if_neg (by omega)]; grind
/-- What presses on a cell, as a number. -/
def P (pr : List (Nat × Nat)) (c : Nat) : Rat := val (pr[c]?.getD (0, 1))
theorem P_nonneg (pr : List (Nat × Nat)) (c : Nat) : 0 ≤ P pr c := val_nonneg _
def Cop (p : Nat × Nat) : Prop := 1 ≤ p.2 ∧ Nat.gcd p.1 p.2 = 1
theorem gcd_red {n d : Nat} (hg : 0 < Nat.gcd n d) : Nat.gcd (n / Nat.gcd n d) (d / Nat.gcd n d) = 1 := by
  rw [Nat.gcd_div (Nat.gcd_dvd_left _ _) (Nat.gcd_dvd_right _ _), Nat.div_self hg]
theorem low_val {n d : Nat} (hd : 1 ≤ d) (h : (lowestF n d).2.2 = 0) : val ((lowestF n d).1.toNat, (lowestF n d).2.1.toNat) = (n : Rat) / d ∧ Cop ((lowestF n d).1.toNat, (lowestF n d).2.1.toNat) := by
  unfold lowestF at h ⊢
  split at h
  · cases h
  · rename_i h2
    rw [if_neg h2]
    have hg : 0 < Nat.gcd n d := Nat.gcd_pos_of_pos_right _ (by omega)
    have hb : 1 ≤ d / Nat.gcd n d := Nat.div_pos (Nat.gcd_le_right _ (by omega)) hg
    simp only [Int.toNat_natCast]
    exact ⟨div_red n d (Nat.gcd n d) _ _ (Nat.mul_div_cancel' (Nat.gcd_dvd_left _ _)).symm (Nat.mul_div_cancel' (Nat.gcd_dvd_right _ _)).symm hg hb, hb, gcd_red hg⟩
theorem addF_val {a b : Nat × Nat} (ha : 1 ≤ a.2) (hb : 1 ≤ b.2) (h : (addF a b).2 = 0) : val (addF a b).1 = val a + val b ∧ Cop (addF a b).1 := by
  have h1 := low_val (n := a.1 * b.2 + b.1 * a.2) (d := a.2 * b.2) (Nat.mul_le_mul ha hb) h
  exact ⟨h1.1.trans (add_val _ _ _ _ ha hb), h1.2⟩
theorem sumF_val {pr : List (Nat × Nat)} : ∀ (cs : List Nat) (acc : Nat × Nat), (∀ c ∈ cs, 1 ≤ (pr[c]?.getD (0, 1)).2) → Cop acc → (sumF pr cs acc).2 = 0 → val (sumF pr cs acc).1 = val acc + sumR (P pr) cs ∧ Cop (sumF pr cs acc).1 := by
  intro cs
  induction cs with
  | nil => intro acc _ h _; exact ⟨by simp only [sumF, sumR]; grind, h⟩
  | cons c cs ih =>
    intro acc hcs ha h
    simp only [sumF] at h ⊢
    split at h
    · rename_i h2
      rw [if_pos h2]
      obtain ⟨h3, h4⟩ := addF_val ha.1 (hcs c (by simp)) h2
      obtain ⟨h5, h6⟩ := ih _ (fun d hd => hcs d (by simp [hd])) h4 h
      refine ⟨?_, h6⟩
      rw [h5, h3]
      simp only [sumR, P]
      grind
    · rename_i h2
      exact absurd h h2
theorem pressF_val {n d wt c : Nat} (hd : 1 ≤ d) (hc : 1 ≤ c) (h : (pressF n d wt c).2.2 = 0) : val ((pressF n d wt c).1.toNat, (pressF n d wt c).2.1.toNat) = ((n : Rat) / d + wt) / c ∧ Cop ((pressF n d wt c).1.toNat, (pressF n d wt c).2.1.toNat) := by
  unfold pressF at h ⊢
  split at h
  · rename_i h2
    exact absurd h h2
  · rename_i h2
    rw [if_neg h2]
    have h2' : (lowestF (n * 1 + wt * d) (d * 1)).2.2 = 0 := Classical.byContradiction h2
    obtain ⟨h3, h4⟩ := low_val (n := n * 1 + wt * d) (d := d * 1) (by omega) h2'
    have h5 := add_val n d wt 1 hd (by decide)
    rw [show ((1 : Nat) : Rat) = 1 by rfl, show (wt : Rat) / 1 = wt by grind] at h5
    obtain ⟨h6, h7⟩ := low_val (n := (lowestF (n * 1 + wt * d) (d * 1)).1.toNat) (d := (lowestF (n * 1 + wt * d) (d * 1)).2.1.toNat * c) (Nat.mul_le_mul h4.1 hc) h
    refine ⟨?_, h7⟩
    rw [h6, mul_div' _ _ _ h4.1 hc, show ((lowestF (n * 1 + wt * d) (d * 1)).1.toNat : Rat) / ((lowestF (n * 1 + wt * d) (d * 1)).2.1.toNat : Rat) = _ from h3, h5]
/-- The number of the brick at a cell. -/
def keyAt (ts : List (List Int × List Int)) (ti c : Nat) : Int := (ts[ti]?.getD ([], [])).1[c]?.getD 0
def nbAt (ts : List (List Int × List Int)) (ti : Nat) : Nat := (ts[ti]?.getD ([], [])).2.length
def wtAt (ts : List (List Int × List Int)) (ti b : Nat) : Nat := ((ts[ti]?.getD ([], [])).2[b]?.getD 0).toNat
def borneP (ts : List (List Int × List Int)) (ti c : Nat) : Bool := decide (ti = 0) || decide (keyAt ts (ti - 1) c ≠ -1)
theorem cellsL_eq {ts : List (List Int × List Int)} {ti N : Nat} (hN : (ts[ti]?.getD ([], [])).1.length = N) (b : Int) : cellsL (ts[ti]?.getD ([], [])).1 b = (List.range N).filter fun c => decide (keyAt ts ti c = b) := by
  unfold cellsL keyAt; rw [hN]
theorem restsL_eq {ts : List (List Int × List Int)} {ti N : Nat} (hN : (ts[ti]?.getD ([], [])).1.length = N) (b : Int) : restsL ts ti b = ((List.range N).filter fun c => decide (keyAt ts ti c = b)).filter (borneP ts ti) := by
  unfold restsL; rw [cellsL_eq hN]; rfl
theorem mem_rests {ts : List (List Int × List Int)} {ti N : Nat} (hN : (ts[ti]?.getD ([], [])).1.length = N) {b : Int} {c : Nat} : c ∈ restsL ts ti b ↔ c < N ∧ keyAt ts ti c = b ∧ borneP ts ti c = true := by
  rw [restsL_eq hN]; simp [List.mem_filter]; grind
theorem setAll_get (cs : List Nat) (E d : Nat × Nat) (c : Nat) : ∀ bl : List (Nat × Nat), (setAll bl cs E)[c]?.getD d = if c ∈ cs ∧ c < bl.length then E else bl[c]?.getD d := by
  induction cs with
  | nil => intro bl; simp [setAll]
  | cons x cs ih =>
    intro bl
    have h1 := ih (bl.set x E)
    unfold setAll at h1 ⊢
    rw [List.foldl_cons, h1, List.length_set]
    by_cases hc : c < bl.length
    · by_cases h2 : c ∈ cs
      · simp [h2, hc]
      · by_cases h3 : c = x
        · subst h3; simp [h2, hc]
        · rw [if_neg (fun h => h2 h.1), if_neg (by simp [h2, h3]), List.getElem?_set_ne (Ne.symm h3)]
    · rw [if_neg (fun h => hc h.2), if_neg (fun h => hc h.2), List.getElem?_eq_none (by simpa using hc), List.getElem?_eq_none (by simpa using hc)]
theorem brickF_val {ts : List (List Int × List Int)} {ti N b : Nat} {pr : List (Nat × Nat)} (hN : (ts[ti]?.getD ([], [])).1.length = N) (hpr : ∀ c, c < N → 1 ≤ (pr[c]?.getD (0, 1)).2) (hr : 1 ≤ (restsL ts ti b).length) (h : (brickF ts ti pr b).2.2 = 0) :
    val (brickF ts ti pr b).1 = sumR (P pr) (cellsL (ts[ti]?.getD ([], [])).1 b) ∧ Cop (brickF ts ti pr b).1 ∧ val (brickF ts ti pr b).2.1 = (val (brickF ts ti pr b).1 + (wtAt ts ti b : Rat)) / ((restsL ts ti b).length : Rat) ∧ Cop (brickF ts ti pr b).2.1 := by
  unfold brickF at h ⊢
  dsimp only at h ⊢
  split at h
  · rename_i h2
    rw [if_pos h2]
    obtain ⟨h3, h4⟩ := sumF_val (cellsL (ts[ti]?.getD ([], [])).1 b) (0, 1) (fun c hc => hpr c (by rw [← hN]; exact cellsL_lt hc)) ⟨by decide, by decide⟩ h2
    have h0 : val (0, 1) = 0 := by unfold val; grind
    rw [h0] at h3
    obtain ⟨h5, h6⟩ := pressF_val h4.1 hr h
    exact ⟨by rw [h3]; grind, h4, h5, h6⟩
  · rename_i h2
    exact absurd h h2
theorem passS_val {ts : List (List Int × List Int)} {ti N : Nat} {pr : List (Nat × Nat)} (hN : (ts[ti]?.getD ([], [])).1.length = N) :
    ∀ (bs : List Nat) (ls bl ls' bl' : List (Nat × Nat)), bl.length = N → passS ts ti pr bs ls bl = (ls', bl', 0) →
      ls' = ls ++ bs.map (fun b => (brickF ts ti pr b).1) ∧ (∀ b ∈ bs, (brickF ts ti pr b).2.2 = 0) ∧ bl'.length = N ∧
      ∀ c, c < N → bl'[c]?.getD (0, 1) = if 0 ≤ keyAt ts ti c ∧ (keyAt ts ti c).toNat ∈ bs ∧ borneP ts ti c = true then (brickF ts ti pr (keyAt ts ti c).toNat).2.1 else bl[c]?.getD (0, 1) := by
  intro bs
  induction bs with
  | nil => intro ls bl ls' bl' hb h; simp only [passS] at h; cases h; exact ⟨by simp, by simp, hb, fun c hc => by simp⟩
  | cons b bs ih =>
    intro ls bl ls' bl' hb h
    simp only [passS] at h
    split at h
    · rename_i h2
      obtain ⟨a1, a2, a3, a4⟩ := ih _ _ _ _ (by rw [setAll_len]; exact hb) h
      refine ⟨by rw [a1]; simp, fun x hx => ?_, a3, fun c hc => ?_⟩
      · rcases List.mem_cons.1 hx with rfl | hx
        · exact h2
        · exact a2 x hx
      · rw [a4 c hc, setAll_get, hb]
        by_cases h3 : 0 ≤ keyAt ts ti c ∧ (keyAt ts ti c).toNat ∈ bs ∧ borneP ts ti c = true
        · rw [if_pos h3, if_pos ⟨h3.1, by simp [h3.2.1], h3.2.2⟩]
        · rw [if_neg h3]
          by_cases h4 : c ∈ restsL ts ti b
          · obtain ⟨_, h6, h7⟩ := (mem_rests hN).1 h4
            rw [if_pos ⟨h4, hc⟩, if_pos ⟨by omega, by rw [h6]; simp, h7⟩, h6]
            rfl
          · rw [if_neg (fun h => h4 h.1), if_neg]
            rintro ⟨h5, h6, h7⟩
            rcases List.mem_cons.1 h6 with h6 | h6
            · exact h4 ((mem_rests hN).2 ⟨hc, by omega, h7⟩)
            · exact h3 ⟨h5, h6, h7⟩
    · rename_i h2
      exact absurd (congrArg (·.2.2) h) h2
/-- A tier, with what its bricks are: as they must be, and each rests on something. -/
structure TierV (ts : List (List Int × List Int)) (N ti : Nat) : Prop where
  len : (ts[ti]?.getD ([], [])).1.length = N
  key : ∀ c, c < N → -1 ≤ keyAt ts ti c ∧ keyAt ts ti c < nbAt ts ti
  rs : ∀ b, b < nbAt ts ti → 1 ≤ (restsL ts ti b).length
def wsum (ts : List (List Int × List Int)) (ti : Nat) : Rat := sumR (fun b => (wtAt ts ti b : Rat)) (List.range (nbAt ts ti))
theorem sumR_mul (x : Rat) (p : Nat → Bool) (l : List Nat) : sumR (fun c => if p c then x else 0) l = (l.filter p).length * x := by
  rw [← sumR_filter (fun _ => x), sumR_const]
/-- What a tier passes on: each load, and all together. -/
theorem passF_val {ts : List (List Int × List Int)} {ti N : Nat} {pr ls bl : List (Nat × Nat)} (hT : TierV ts N ti) (hpr : ∀ c, c < N → 1 ≤ (pr[c]?.getD (0, 1)).2) (h : passF ts ti N pr = (ls, bl, 0)) :
    ls.length = nbAt ts ti ∧ (∀ b, b < nbAt ts ti → (ls[b]?.getD (0, 1)) = (brickF ts ti pr b).1 ∧ (brickF ts ti pr b).2.2 = 0 ∧ Cop (ls[b]?.getD (0, 1)) ∧ val (ls[b]?.getD (0, 1)) = sumR (P pr) (cellsL (ts[ti]?.getD ([], [])).1 b)) ∧ bl.length = N ∧
    (∀ c, c < N → 1 ≤ (bl[c]?.getD (0, 1)).2 ∧ Nat.gcd (bl[c]?.getD (0, 1)).1 (bl[c]?.getD (0, 1)).2 = 1) ∧ (∀ c, c < N → P bl c = if 0 ≤ keyAt ts ti c ∧ borneP ts ti c = true then (val (ls[(keyAt ts ti c).toNat]?.getD (0, 1)) + (wtAt ts ti (keyAt ts ti c).toNat : Rat)) / ((restsL ts ti (keyAt ts ti c).toNat).length : Rat) else 0) ∧
    sumR (P bl) (List.range N) = sumR (fun c => if 0 ≤ keyAt ts ti c then P pr c else 0) (List.range N) + wsum ts ti := by
  unfold passF at h
  obtain ⟨a1, a2, a3, a4⟩ := passS_val hT.len _ _ _ _ _ (by simp) h
  have hv := fun b (hb : b < nbAt ts ti) => brickF_val hT.len hpr (hT.rs b hb) (a2 b (List.mem_range.2 hb))
  have hls : ∀ b, b < nbAt ts ti → ls[b]?.getD (0, 1) = (brickF ts ti pr b).1 := fun b hb => by
    rw [a1]
    have : b < (ts[ti]?.getD ([], [])).2.length := hb
    simp [this]
  have hbl : ∀ c, c < N → bl[c]?.getD (0, 1) = if 0 ≤ keyAt ts ti c ∧ borneP ts ti c = true then (brickF ts ti pr (keyAt ts ti c).toNat).2.1 else (0, 1) := fun c hc => by
    rw [a4 c hc]
    have := hT.key c hc
    by_cases hk : 0 ≤ keyAt ts ti c ∧ borneP ts ti c = true
    · rw [if_pos hk, if_pos ⟨hk.1, List.mem_range.2 (by have : (ts[ti]?.getD ([], [])).2.length = nbAt ts ti := rfl; omega), hk.2⟩]
    · rw [if_neg hk, if_neg (fun h => hk ⟨h.1, h.2.2⟩)]
      simp [hc]
  have hP : ∀ c, c < N → P bl c = if 0 ≤ keyAt ts ti c ∧ borneP ts ti c = true then (val (ls[(keyAt ts ti c).toNat]?.getD (0, 1)) + (wtAt ts ti (keyAt ts ti c).toNat : Rat)) / ((restsL ts ti (keyAt ts ti c).toNat).length : Rat) else 0 := fun c hc => by
    unfold P
    rw [hbl c hc]
    have := hT.key c hc
    by_cases hk : 0 ≤ keyAt ts ti c ∧ borneP ts ti c = true
    · rw [if_pos hk, if_pos hk, hls _ (by omega)]
      exact (hv _ (by omega)).2.2.1
    · rw [if_neg hk, if_neg hk]
      unfold val; grind
  refine ⟨by rw [a1]; simp [nbAt], fun b hb => ⟨hls b hb, a2 b (List.mem_range.2 hb), by rw [hls b hb]; exact (hv b hb).2.1, by rw [hls b hb]; exact (hv b hb).1⟩, a3, fun c hc => ?_, hP, ?_⟩
  · rw [hbl c hc]
    have := hT.key c hc
    by_cases hk : 0 ≤ keyAt ts ti c ∧ borneP ts ti c = true
    · rw [if_pos hk]; exact (hv _ (by omega)).2.2.2
    · rw [if_neg hk]; exact ⟨by decide, by decide⟩
  · have e1 : sumR (P bl) (List.range N) = sumR (fun c => if 0 ≤ keyAt ts ti c ∧ keyAt ts ti c < nbAt ts ti then (if borneP ts ti c then (val (ls[(keyAt ts ti c).toNat]?.getD (0, 1)) + (wtAt ts ti (keyAt ts ti c).toNat : Rat)) / ((restsL ts ti (keyAt ts ti c).toNat).length : Rat) else 0) else 0) (List.range N) :=
      sumR_congr fun c hc => by
        have hc := List.mem_range.1 hc
        have := hT.key c hc
        rw [hP c hc]
        by_cases h1 : 0 ≤ keyAt ts ti c
        · rw [if_pos (c := 0 ≤ keyAt ts ti c ∧ keyAt ts ti c < nbAt ts ti) ⟨h1, this.2⟩]
          by_cases h2 : borneP ts ti c = true
          · rw [if_pos ⟨h1, h2⟩, if_pos h2]
          · rw [if_neg (fun h => h2 h.2), if_neg h2]
        · rw [if_neg (fun h => h1 h.1), if_neg (fun h => h1 h.1)]
    rw [e1, ← sumR_by]
    have e2 : ∀ b ∈ List.range (nbAt ts ti), sumR (fun c => if borneP ts ti c then (val (ls[(keyAt ts ti c).toNat]?.getD (0, 1)) + (wtAt ts ti (keyAt ts ti c).toNat : Rat)) / ((restsL ts ti (keyAt ts ti c).toNat).length : Rat) else 0) ((List.range N).filter fun c => decide (keyAt ts ti c = (b : Int))) = sumR (P pr) (cellsL (ts[ti]?.getD ([], [])).1 b) + (wtAt ts ti b : Rat) := fun b hb => by
      have hb := List.mem_range.1 hb
      rw [sumR_congr (g := fun c => if borneP ts ti c then (val (ls[b]?.getD (0, 1)) + (wtAt ts ti b : Rat)) / ((restsL ts ti b).length : Rat) else 0) (fun c hc => by
        have : keyAt ts ti c = (b : Int) := by simpa using (List.mem_filter.1 hc).2
        rw [this]; rfl), sumR_mul, ← restsL_eq hT.len, n_div _ (hT.rs b hb), hls b hb, (hv b hb).1]
    rw [sumR_congr e2, sumR_add]
    congr 1
    rw [sumR_congr (g := fun b => sumR (P pr) ((List.range N).filter fun c => decide (keyAt ts ti c = (b : Int)))) (fun b _ => by rw [cellsL_eq hT.len]), sumR_by]
    refine sumR_congr fun c hc => ?_
    have := hT.key c (List.mem_range.1 hc)
    by_cases h1 : 0 ≤ keyAt ts ti c
    · rw [if_pos h1, if_pos ⟨h1, this.2⟩]
    · rw [if_neg h1, if_neg (fun h => h1 h.1)]
/-- A brick on which no brick lies. -/
def freeP (ts : List (List Int × List Int)) (t b : Nat) : Bool := decide (t + 1 = ts.length) || (cellsL (ts[t]?.getD ([], [])).1 b).all fun c => decide (keyAt ts (t + 1) c = -1)
/-- What presses on the tiers below n. -/
structure PrI (ts : List (List Int × List Int)) (N n : Nat) (pr : List (Nat × Nat)) : Prop where
  len : pr.length = N
  den : ∀ c, c < N → 1 ≤ (pr[c]?.getD (0, 1)).2
  cop : ∀ c, c < N → Nat.gcd (pr[c]?.getD (0, 1)).1 (pr[c]?.getD (0, 1)).2 = 1
  on : ∀ c, c < N → P pr c ≠ 0 → n = 0 ∨ keyAt ts (n - 1) c ≠ -1
  of : ∀ c, c < N → P pr c ≠ 0 → n < ts.length ∧ keyAt ts n c ≠ -1
/-- The loads of a tier. -/
structure RowV (ts : List (List Int × List Int)) (t : Nat) (row : List (Nat × Nat)) (B : Rat) : Prop where
  len : row.length = nbAt ts t
  cop : ∀ b, b < nbAt ts t → Cop (row[b]?.getD (0, 1))
  le : ∀ b, b < nbAt ts t → val (row[b]?.getD (0, 1)) ≤ B
  free : ∀ b, b < nbAt ts t → freeP ts t b = true → (row[b]?.getD (0, 1)).1 = 0
theorem cellsL_key {ts : List (List Int × List Int)} {t N : Nat} {b c : Nat} (hN : (ts[t]?.getD ([], [])).1.length = N) (h : c ∈ cellsL (ts[t]?.getD ([], [])).1 b) : c < N ∧ keyAt ts t c = b := by
  rw [cellsL_eq hN] at h
  have := List.mem_filter.1 h
  exact ⟨List.mem_range.1 this.1, by simpa using this.2⟩
theorem sumR_sub {f : Nat → Rat} (p : Nat → Bool) (l : List Nat) (h : ∀ x ∈ l, 0 ≤ f x) : sumR f (l.filter p) ≤ sumR f l := by
  rw [sumR_filter]
  refine sumR_mono fun x hx => ?_
  have := h x hx
  split <;> grind
theorem wsum_nonneg (ts : List (List Int × List Int)) (t : Nat) : 0 ≤ wsum ts t := sumR_nonneg fun _ _ => by exact_mod_cast Nat.zero_le _
theorem passF_row {ts : List (List Int × List Int)} {t N : Nat} {pr ls bl : List (Nat × Nat)} (hT : TierV ts N t) (ht : t < ts.length) (hI : PrI ts N (t + 1) pr) (h : passF ts t N pr = (ls, bl, 0)) :
    RowV ts t ls (sumR (P pr) (List.range N)) ∧ PrI ts N t bl ∧ sumR (P bl) (List.range N) = sumR (P pr) (List.range N) + wsum ts t := by
  obtain ⟨a1, a2, a3, a4, a5, a6⟩ := passF_val hT hI.den h
  refine ⟨⟨a1, fun b hb => (a2 b hb).2.2.1, fun b hb => ?_, fun b hb hf => ?_⟩, ⟨a3, fun c hc => (a4 c hc).1, fun c hc => (a4 c hc).2, fun c hc hne => ?_, fun c hc hne => ?_⟩, ?_⟩
  · rw [(a2 b hb).2.2.2, cellsL_eq hT.len]
    exact sumR_sub _ _ fun _ _ => P_nonneg _ _
  · have h1 := (a2 b hb).2.2.2
    rw [sumR_zero (fun c hc => ?_)] at h1
    · exact val_zero (a2 b hb).2.2.1.1 h1
    · obtain ⟨hc1, hc2⟩ := cellsL_key hT.len hc
      refine Classical.byContradiction fun hne => ?_
      obtain ⟨h2, h3⟩ := hI.of c hc1 hne
      simp only [freeP, Bool.or_eq_true, decide_eq_true_eq, List.all_eq_true] at hf
      rcases hf with hf | hf
      · omega
      · exact h3 (hf c hc)
  · rw [a5 c hc] at hne
    by_cases hk : 0 ≤ keyAt ts t c ∧ borneP ts t c = true
    · have h2 := hk.2
      unfold borneP at h2
      simpa using h2
    · rw [if_neg hk] at hne; exact absurd rfl hne
  · rw [a5 c hc] at hne
    by_cases hk : 0 ≤ keyAt ts t c ∧ borneP ts t c = true
    · exact ⟨ht, by omega⟩
    · rw [if_neg hk] at hne; exact absurd rfl hne
  · rw [a6]
    congr 1
    refine sumR_congr fun c hc => ?_
    have hc := List.mem_range.1 hc
    by_cases hk : 0 ≤ keyAt ts t c
    · rw [if_pos hk]
    · rw [if_neg hk]
      refine Classical.byContradiction fun hne => ?_
      have := hI.on c hc (fun e => hne e.symm)
      have h2 := hT.key c hc
      rcases this with h3 | h3
      · omega
      · exact h3 (by simp; omega)
theorem range_rev_succ (n : Nat) : (List.range (n + 1)).reverse = n :: (List.range n).reverse := by rw [List.range_succ]; simp
/-- The loads of all tiers below n. -/
theorem loads_rows {ts : List (List Int × List Int)} {N : Nat} : ∀ (n : Nat) (rows rows' : List (List (Nat × Nat))) (pr pr' : List (Nat × Nat)), n ≤ ts.length → n ≤ rows.length → (∀ t, t < n → TierV ts N t) → PrI ts N n pr → loadsS ts N (List.range n).reverse rows pr = (rows', pr', 0) →
    PrI ts N 0 pr' ∧ sumR (P pr') (List.range N) = sumR (P pr) (List.range N) + sumR (wsum ts) (List.range n) ∧ rows'.length = rows.length ∧ (∀ t, n ≤ t → rows'[t]? = rows[t]?) ∧
      ∀ t, t < n → RowV ts t (rows'[t]?.getD []) (sumR (P pr) (List.range N) + sumR (wsum ts) (List.range n)) := by
  intro n
  induction n with
  | zero =>
    intro rows rows' pr pr' _ _ _ hI h
    simp only [List.range_zero, List.reverse_nil, loadsS] at h
    cases h
    exact ⟨hI, by simp only [List.range_zero, sumR]; grind, rfl, fun _ _ => rfl, fun t ht => by omega⟩
  | succ n ih =>
    intro rows rows' pr pr' hn hr hT hI h
    rw [range_rev_succ] at h
    simp only [loadsS] at h
    split at h
    · rename_i h2
      obtain ⟨ls, bl, er, hpf⟩ : ∃ ls bl er, passF ts n N pr = (ls, bl, er) := ⟨_, _, _, rfl⟩
      rw [hpf] at h h2
      obtain rfl : er = 0 := h2
      obtain ⟨b1, b2, b3⟩ := passF_row (hT n (by omega)) (by omega) hI hpf
      obtain ⟨c1, c2, c3, c4, c5⟩ := ih _ _ _ _ (by omega) (by simp; omega) (fun t ht => hT t (by omega)) b2 h
      have e : sumR (P bl) (List.range N) + sumR (wsum ts) (List.range n) = sumR (P pr) (List.range N) + sumR (wsum ts) (List.range (n + 1)) := by rw [b3, sumR_range_succ]; grind
      rw [List.length_set] at c3
      refine ⟨c1, c2.trans e, c3, fun t ht => ?_, fun t ht => ?_⟩
      · rw [c4 t (by omega), List.getElem?_set_ne (by omega)]
      · by_cases hlt : t < n
        · exact e ▸ c5 t hlt
        · obtain rfl : t = n := by omega
          rw [c4 t (by omega), List.getElem?_set_self (by omega)]
          refine ⟨b1.len, b1.cop, fun b hb => ?_, b1.free⟩
          have h3 := b1.le b hb
          have h4 : 0 ≤ sumR (wsum ts) (List.range (t + 1)) := sumR_nonneg fun x _ => wsum_nonneg ts x
          simp only [Option.getD_some]
          grind
    · rename_i h2
      exact absurd (congrArg (·.2.2) h) h2
/-- With less that presses no load is greater. -/
theorem passF_mono {ts : List (List Int × List Int)} {t N : Nat} {pr ls bl qr ms cl : List (Nat × Nat)} (hT : TierV ts N t) (hp : ∀ c, c < N → 1 ≤ (pr[c]?.getD (0, 1)).2) (hq : ∀ c, c < N → 1 ≤ (qr[c]?.getD (0, 1)).2)
    (h : passF ts t N pr = (ls, bl, 0)) (k : passF ts t N qr = (ms, cl, 0)) (hle : ∀ c, c < N → P qr c ≤ P pr c) :
    (∀ b, b < nbAt ts t → val (ms[b]?.getD (0, 1)) ≤ val (ls[b]?.getD (0, 1))) ∧ (∀ c, c < N → 1 ≤ (bl[c]?.getD (0, 1)).2) ∧ (∀ c, c < N → 1 ≤ (cl[c]?.getD (0, 1)).2) ∧ ∀ c, c < N → P cl c ≤ P bl c := by
  obtain ⟨a1, a2, a3, a4, a5, a6⟩ := passF_val hT hp h
  obtain ⟨b1, b2, b3, b4, b5, b6⟩ := passF_val hT hq k
  have hv : ∀ b, b < nbAt ts t → val (ms[b]?.getD (0, 1)) ≤ val (ls[b]?.getD (0, 1)) := fun b hb => by
    rw [(a2 b hb).2.2.2, (b2 b hb).2.2.2]
    exact sumR_mono fun c hc => hle c (cellsL_key hT.len hc).1
  refine ⟨hv, fun c hc => (a4 c hc).1, fun c hc => (b4 c hc).1, fun c hc => ?_⟩
  rw [a5 c hc, b5 c hc]
  have := hT.key c hc
  by_cases hk : 0 ≤ keyAt ts t c ∧ borneP ts t c = true
  · rw [if_pos hk, if_pos hk]
    have h3 := hv (keyAt ts t c).toNat (by omega)
    exact div_mono _ (hT.rs _ (by omega)) (by grind)
  · rw [if_neg hk, if_neg hk]; exact Rat.le_refl
theorem loads_mono {ts : List (List Int × List Int)} {N : Nat} : ∀ (n : Nat) (rows rows' qrows qrows' : List (List (Nat × Nat))) (pr pr' qr qr' : List (Nat × Nat)), n ≤ rows.length → n ≤ qrows.length → (∀ t, t < n → TierV ts N t) → (∀ c, c < N → 1 ≤ (pr[c]?.getD (0, 1)).2) → (∀ c, c < N → 1 ≤ (qr[c]?.getD (0, 1)).2) → (∀ c, c < N → P qr c ≤ P pr c) →
    loadsS ts N (List.range n).reverse rows pr = (rows', pr', 0) → loadsS ts N (List.range n).reverse qrows qr = (qrows', qr', 0) →
      (∀ t, n ≤ t → rows'[t]? = rows[t]? ∧ qrows'[t]? = qrows[t]?) ∧ ∀ t, t < n → ∀ b, b < nbAt ts t → val ((qrows'[t]?.getD [])[b]?.getD (0, 1)) ≤ val ((rows'[t]?.getD [])[b]?.getD (0, 1)) := by
  intro n
  induction n with
  | zero =>
    intro rows rows' qrows qrows' pr pr' qr qr' _ _ _ _ _ _ h k
    simp only [List.range_zero, List.reverse_nil, loadsS] at h k
    cases h
    cases k
    exact ⟨fun _ _ => ⟨rfl, rfl⟩, fun t ht => by omega⟩
  | succ n ih =>
    intro rows rows' qrows qrows' pr pr' qr qr' hr hq hT hp hq2 hle h k
    rw [range_rev_succ] at h k
    simp only [loadsS] at h k
    split at h
    · rename_i h2
      split at k
      · rename_i k2
        obtain ⟨ls, bl, er, hpf⟩ : ∃ ls bl er, passF ts n N pr = (ls, bl, er) := ⟨_, _, _, rfl⟩
        obtain ⟨ms, cl, es, kpf⟩ : ∃ ls bl er, passF ts n N qr = (ls, bl, er) := ⟨_, _, _, rfl⟩
        rw [hpf] at h h2
        rw [kpf] at k k2
        obtain rfl : er = 0 := h2
        obtain rfl : es = 0 := k2
        obtain ⟨d1, d2, d3, d4⟩ := passF_mono (hT n (by omega)) hp hq2 hpf kpf hle
        obtain ⟨c1, c2⟩ := ih _ _ _ _ _ _ _ _ (by simp; omega) (by simp; omega) (fun t ht => hT t (by omega)) d2 d3 d4 h k
        refine ⟨fun t ht => ?_, fun t ht b hb => ?_⟩
        · rw [(c1 t (by omega)).1, (c1 t (by omega)).2, List.getElem?_set_ne (by omega), List.getElem?_set_ne (by omega)]
          exact ⟨rfl, rfl⟩
        · by_cases hlt : t < n
          · exact c2 t hlt b hb
          · obtain rfl : t = n := by omega
            rw [(c1 t (by omega)).1, (c1 t (by omega)).2, List.getElem?_set_self (by omega), List.getElem?_set_self (by omega)]
            exact d1 b hb
      · rename_i k2
        exact absurd (congrArg (·.2.2) k) k2
    · rename_i h2
      exact absurd (congrArg (·.2.2) h) h2
theorem zeros_pr (ts : List (List Int × List Int)) (N n : Nat) : PrI ts N n (List.replicate N (0, 1)) := by
  have hz : ∀ c, c < N → (List.replicate N ((0, 1) : Nat × Nat))[c]?.getD (0, 1) = (0, 1) := fun c hc => by simp [hc]
  have hP : ∀ c, c < N → P (List.replicate N (0, 1)) c = 0 := fun c hc => by unfold P; rw [hz c hc]; unfold val; grind
  exact ⟨by simp, fun c hc => by rw [hz c hc]; decide, fun c hc => by rw [hz c hc]; decide, fun c hc h => absurd (hP c hc) h, fun c hc h => absurd (hP c hc) h⟩
theorem zeros_sum (N : Nat) : sumR (P (List.replicate N (0, 1))) (List.range N) = 0 := sumR_zero fun c hc => by
  unfold P; rw [show (List.replicate N ((0, 1) : Nat × Nat))[c]?.getD (0, 1) = (0, 1) by simp [List.mem_range.1 hc]]; unfold val; grind
/-- All that Loads returns. -/
theorem loadsF_val {ts : List (List Int × List Int)} {N : Nat} {rows : List (List (Nat × Nat))} {fl : List (Nat × Nat)} (hT : ∀ t, t < ts.length → TierV ts N t) (h : loadsF ts N = (rows, fl, 0)) :
    rows.length = ts.length ∧ PrI ts N 0 fl ∧ sumR (P fl) (List.range N) = sumR (wsum ts) (List.range ts.length) ∧ ∀ t, t < ts.length → RowV ts t (rows[t]?.getD []) (sumR (wsum ts) (List.range ts.length)) := by
  obtain ⟨c1, c2, c3, c4, c5⟩ := loads_rows ts.length _ _ _ _ (Nat.le_refl _) (by simp) hT (zeros_pr ts N _) h
  rw [zeros_sum] at c2 c5
  have e : (0 : Rat) + sumR (wsum ts) (List.range ts.length) = sumR (wsum ts) (List.range ts.length) := by grind
  exact ⟨by simpa using c3, c1, by rw [c2, e], fun t ht => e ▸ c5 t ht⟩
theorem loadsS_take {ts : List (List Int × List Int)} {N h : Nat} : ∀ (n : Nat), n ≤ h → ∀ (rows : List (List (Nat × Nat))) (pr : List (Nat × Nat)), loadsS (ts.take h) N (List.range n).reverse rows pr = loadsS ts N (List.range n).reverse rows pr := by
  have hg : ∀ t, t < h → (ts.take h)[t]? = ts[t]? := fun t ht => by rw [List.getElem?_take]; simp [ht]
  have hp : ∀ t, t < h → ∀ pr, passF (ts.take h) t N pr = passF ts t N pr := fun t ht pr => by
    have hr : ∀ b : Int, restsL (ts.take h) t b = restsL ts t b := fun b => by
      unfold restsL
      rw [hg t ht]
      refine List.filter_congr fun c _ => ?_
      by_cases h0 : t = 0
      · simp [h0]
      · rw [hg (t - 1) (by omega)]
    have hb : ∀ pr b, brickF (ts.take h) t pr b = brickF ts t pr b := fun pr b => by
      unfold brickF
      rw [hg t ht, hr]
    have hs : ∀ bs ls bl, passS (ts.take h) t pr bs ls bl = passS ts t pr bs ls bl := fun bs => by
      induction bs with
      | nil => intro ls bl; rfl
      | cons b bs ih => intro ls bl; simp only [passS]; rw [hb, hr, ih]
    unfold passF
    rw [hs, hg t ht]
  intro n
  induction n with
  | zero => intro _ rows pr; rfl
  | succ n ih =>
    intro hn rows pr
    rw [range_rev_succ]
    simp only [loadsS]
    rw [hp n (by omega), ih (by omega)]
/-- Without the highest tier no load is greater. -/
theorem loadsF_less {ts : List (List Int × List Int)} {N h : Nat} {rows qrows : List (List (Nat × Nat))} {fl gl : List (Nat × Nat)} (hT : ∀ t, t < ts.length → TierV ts N t) (hh : ts.length = h + 1) (k : loadsF ts N = (rows, fl, 0)) (q : loadsF (ts.take h) N = (qrows, gl, 0)) :
    ∀ t, t < h → ∀ b, b < nbAt ts t → val ((qrows[t]?.getD [])[b]?.getD (0, 1)) ≤ val ((rows[t]?.getD [])[b]?.getD (0, 1)) := by
  unfold loadsF at k q
  rw [List.length_take, Nat.min_eq_left (by omega), loadsS_take h (Nat.le_refl _)] at q
  rw [hh, range_rev_succ] at k
  simp only [loadsS] at k
  split at k
  · rename_i k2
    obtain ⟨ls, bl, er, hpf⟩ : ∃ ls bl er, passF ts h N (List.replicate N (0, 1)) = (ls, bl, er) := ⟨_, _, _, rfl⟩
    rw [hpf] at k k2
    obtain rfl : er = 0 := k2
    have z := zeros_pr ts N (h + 1)
    obtain ⟨_, b2, _⟩ := passF_row (hT h (by omega)) (by omega) z hpf
    exact (loads_mono h _ _ _ _ _ _ _ _ (by simp) (by simp) (fun t ht => hT t (by omega)) b2.den z.den (fun c hc => by
      have h0 : P (List.replicate N (0, 1)) c = 0 := by unfold P; rw [show (List.replicate N ((0, 1) : Nat × Nat))[c]?.getD (0, 1) = (0, 1) by simp [hc]]; unfold val; grind
      rw [h0]; exact P_nonneg _ _) k q).2
  · rename_i k2
    exact absurd (congrArg (·.2.2) k) k2
theorem tierV_of {W H : Int} {ts : List (List Int × List Int)} (h : checkF W H ts = 0) (hf : FirstB ts (hangP ts) none) : ∀ t, t < ts.length → TierV ts (W * H).toNat t := by
  unfold checkF at h
  split at h
  · rename_i hc
    intro t ht
    have h1 : isTierF (W * H) (ts[t]?.getD ([], [])).1 (ts[t]?.getD ([], [])).2 = true := List.all_eq_true.1 hc.2.2 (ts[t]?.getD ([], [])) (by rw [List.getElem?_eq_getElem ht]; exact List.getElem_mem ht)
    unfold isTierF at h1
    simp only [Bool.and_eq_true, decide_eq_true_eq] at h1
    obtain ⟨⟨⟨h2, h3⟩, _⟩, _⟩ := h1
    have hl : (ts[t]?.getD ([], [])).1.length = (W * H).toNat := by omega
    refine ⟨hl, fun c hc => ?_, fun b hb => ?_⟩
    · have h4 := List.all_eq_true.1 h3 (keyAt ts t c) (by
        have hlt : c < (ts[t]?.getD ([], [])).1.length := by omega
        unfold keyAt
        rw [List.getElem?_eq_getElem hlt]
        exact List.getElem_mem hlt)
      simp only [inB, Bool.and_eq_true, decide_eq_true_eq] at h4
      exact ⟨h4.1, by have : nbAt ts t = (ts[t]?.getD ([], [])).2.length := rfl; omega⟩
    · have h5 : hangP ts t b = false := hf t ht b hb
      have : ¬ (restsL ts t b).length = 0 := by simpa [hangP] using h5
      omega
  · cases h
end Go.Proofs.Ytopnlcjbklmicaa
