/-
  Contracts of the program's own functions (and their plain mathematics), on the way to the law: each for all arguments that its hypotheses let.
-/
import Derived.Test.YtedpafdfecofnaaGreatDoorF2
import Derived.WalkKit
import Derived.WalkSpells
import Derived.WalkLawsBesides
import Derived.Deep.QuietTactic
import Derived.BigQuiet
import Derived.Lib.Hide
import Derived.WalkSmall
import Derived.Maps.OwnSet
import Derived.Maps.RangeWalk
import Derived.Deep.RegionWith
import Derived.Deep.RegionHeld3
import Derived.OneCell
import Derived.RangeFuncBox
import Derived.Test.YtedpafdfecofnaaGreatDoorPlain
import Derived.StillTailTactics
import Derived.Laws.Externs
set_option linter.unusedSimpArgs false
set_option linter.unusedVariables false

/-! ## S22 -/
namespace Go.Proofs.YtedpafdfecofnaaGreatDoor
open Go.RowKit Go.Maps Go.Shelf Go.Sort
def W64 : Nat := 18446744073709551616
/-- The words of a number, the lowest one first, none too many. -/
def toW (n : Nat) : List Nat := if h : n = 0 then [] else n % 18446744073709551616 :: toW (n / 18446744073709551616)
termination_by n
decreasing_by exact Nat.div_lt_self (Nat.pos_of_ne_zero h) (by decide)
def valW : List Nat → Nat
  | [] => 0
  | x :: r => x + 18446744073709551616 * valW r
def trimW (ws : List Nat) : List Nat := toW (valW ws)
def WordsC (w : World) (b off : Nat) (ws : List Nat) : Prop := ∀ i, i < ws.length → w.cell? ⟨b, off + i, none⟩ = some (.int .u64 (ws.getD i 0 : Nat))
def WordsAt (w : World) (v : Value) (ws : List Nat) : Prop :=
  ws.length ≤ 1000000 ∧ ((ws = [] ∧ ∃ a cap, v = .slice a 0 cap) ∨ ∃ b off cap, v = .slice (some ⟨b, off, none⟩) ws.length cap ∧ ws.length ≤ cap ∧ b < w.heap.size ∧ WordsC w b off ws)
def Small (ws : List Nat) : Prop := ∀ x ∈ ws, x < 18446744073709551616

theorem WordsAt.below {w w' : World} {v : Value} {ws : List Nat} (h : WordsAt w v ws) (hw : Below w.heap.size w w') : WordsAt w' v ws := by
  obtain ⟨hl, h | ⟨b, off, cap, hv, hcap, hb, hc⟩⟩ := h
  · exact ⟨hl, .inl h⟩
  · exact ⟨hl, .inr ⟨b, off, cap, hv, hcap, Nat.lt_of_lt_of_le hb hw.size, fun i hi => (hw.cell (p := ⟨b, _, none⟩) hb).trans (hc i hi)⟩⟩
theorem WordsAt.shape {w : World} {v : Value} {ws : List Nat} (h : WordsAt w v ws) : ∃ a cap, v = .slice a ws.length cap := by
  obtain ⟨_, ⟨rfl, a, cap, rfl⟩ | ⟨b, off, cap, rfl, _⟩⟩ := h
  · exact ⟨a, cap, rfl⟩
  · exact ⟨_, cap, rfl⟩

theorem toW_zero : toW 0 = [] := by unfold toW; simp
theorem toW_pos {n : Nat} (h : n ≠ 0) : toW n = n % 18446744073709551616 :: toW (n / 18446744073709551616) := by rw [toW]; simp [h]
theorem valW_toW (n : Nat) : valW (toW n) = n := by
  induction n using Nat.strongRecOn with
  | ind n ih =>
    by_cases h : n = 0
    · subst h; rw [toW_zero]; rfl
    · rw [toW_pos h, valW, ih _ (Nat.div_lt_self (Nat.pos_of_ne_zero h) (by decide))]; omega
theorem toW_small (n : Nat) : Small (toW n) := by
  induction n using Nat.strongRecOn with
  | ind n ih =>
    by_cases h : n = 0
    · subst h; rw [toW_zero]; intro x hx; cases hx
    · rw [toW_pos h]
      intro x hx
      rcases List.mem_cons.1 hx with rfl | hx
      · omega
      · exact ih _ (Nat.div_lt_self (Nat.pos_of_ne_zero h) (by decide)) x hx
theorem valW_append (a b : List Nat) : valW (a ++ b) = valW a + 18446744073709551616 ^ a.length * valW b := by
  induction a with
  | nil => simp [valW]
  | cons x r ih => simp only [List.cons_append, valW, ih, List.length_cons, Nat.pow_succ]; rw [Nat.mul_add, Nat.add_assoc, ← Nat.mul_assoc, Nat.mul_comm (18446744073709551616 ^ r.length)]
theorem valW_lt {a : List Nat} (h : Small a) : valW a < 18446744073709551616 ^ a.length := by
  induction a with
  | nil => simp [valW]
  | cons x r ih =>
    have h1 := ih (fun y hy => h y (List.mem_cons_of_mem _ hy))
    have h2 := h x (List.mem_cons_self ..)
    simp only [valW, List.length_cons, Nat.pow_succ]
    omega
/-- Words whose last one is not 0 are those of their number. -/
theorem toW_valW {a : List Nat} (h : Small a) (hl : a = [] ∨ a.getD (a.length - 1) 0 ≠ 0) : toW (valW a) = a := by
  induction a with
  | nil => exact toW_zero
  | cons x r ih =>
    have h2 := h x (List.mem_cons_self ..)
    have hl' : (x :: r).getD ((x :: r).length - 1) 0 ≠ 0 := by rcases hl with hl | hl; exact absurd hl (by simp); exact hl
    have hr : r = [] ∨ r.getD (r.length - 1) 0 ≠ 0 := by
      cases r with
      | nil => exact .inl rfl
      | cons y s => right; simpa using hl'
    have h1 := ih (fun y hy => h y (List.mem_cons_of_mem _ hy)) hr
    have hne : x + 18446744073709551616 * valW r ≠ 0 := by
      cases r with
      | nil => simp at hl'; simp [valW]; exact hl'
      | cons y s =>
        intro e
        have : valW (y :: s) = 0 := by omega
        rw [this, toW_zero] at h1; cases h1
    rw [valW, toW_pos hne]
    congr 1
    · omega
    · rw [show (x + 18446744073709551616 * valW r) / 18446744073709551616 = valW r by omega]; exact h1
theorem trimW_toW (n : Nat) : trimW (toW n) = toW n := by unfold trimW; rw [valW_toW]
theorem valW_take_zero {ws : List Nat} {k : Nat} (hk : k < ws.length) (h : ws.getD k 0 = 0) : valW (ws.take (k + 1)) = valW (ws.take k) := by
  rw [List.take_succ_eq_append_getElem hk, valW_append]
  have : ws[k] = 0 := by simpa [List.getD_eq_getElem?_getD, hk] using h
  simp [this, valW]
theorem toW_len_le {n k : Nat} (h : n < 18446744073709551616 ^ k) : (toW n).length ≤ k := by
  induction k generalizing n with
  | zero => have : n = 0 := by simpa using h
            subst this; rw [toW_zero]; simp
  | succ k ih =>
    by_cases h0 : n = 0
    · subst h0; rw [toW_zero]; simp
    · rw [toW_pos h0]
      have : n / 18446744073709551616 < 18446744073709551616 ^ k := by rw [Nat.pow_succ] at h; exact Nat.div_lt_of_lt_mul (by rw [Nat.mul_comm]; exact h)
      have := ih this
      simp; omega

set_option maxHeartbeats 1000000 in
theorem word_any (v : Value) (ws : List Nat) (i : Nat) (w : World) (h : WordsAt w v ws) (hi : i ≤ 1000000000) :
    Calls Tryz.prog 105 #[v, .int .i64 i] w fun e w' => e = .returned (.int .u64 (ws.getD i 0 : Nat)) ∧ w' = w := by
  obtain ⟨hl, h⟩ := h
  obtain ⟨x, hx⟩ : ∃ x, ws.getD i 0 = x := ⟨_, rfl⟩
  by_cases hc : ws.length ≤ i
  · have hx0 : x = 0 := by rw [← hx]; simp [List.getD_eq_getElem?_getD, hc]
    rw [hx, hx0]
    have hv : ∃ a cap, v = .slice a ws.length cap := by
      rcases h with ⟨rfl, a, cap, rfl⟩ | ⟨b, off, cap, rfl, _⟩
      · exact ⟨a, cap, rfl⟩
      · exact ⟨_, cap, rfl⟩
    obtain ⟨a, cap, rfl⟩ := hv
    clear h hx hx0
    go_enter Tryz.func105, Tryz.ntmps105
    go_wp2
    go_ret
    exact ⟨rfl, rfl⟩
  · rcases h with ⟨rfl, _⟩ | ⟨b, off, cap, rfl, hcap, hb, hcells⟩
    · simp at hc
    · have hci := hcells i (by omega)
      rw [hx] at hci ⊢
      clear hcells hx
      go_enter Tryz.func105, Tryz.ntmps105
      go_wp2
      go_ret
      exact ⟨rfl, rfl⟩

theorem trim_take {ws : List Nat} {k : Nat} (hs : Small ws) (hk : k ≤ ws.length) (hv : valW (ws.take k) = valW ws) (hl : k = 0 ∨ 0 < k ∧ ws.getD (k - 1) 0 ≠ 0) : trimW ws = ws.take k := by
  unfold trimW
  rw [← hv]
  apply toW_valW (fun x hx => hs x (List.mem_of_mem_take hx))
  rcases hl with rfl | hl
  · exact .inl (by simp)
  · right
    rw [List.length_take, Nat.min_eq_left hk]
    simpa [List.getD_eq_getElem?_getD, List.getElem?_take, show k - 1 < k by omega] using hl.2
theorem trim_fin {w : World} {ws : List Nat} {b off cap k : Nat} (hl : ws.length ≤ 1000000) (hk : k ≤ ws.length) (hcap : ws.length ≤ cap) (hb : b < w.heap.size)
    (hc : ∀ i, i < ws.length → w.cell? ⟨b, off + i, none⟩ = some (.int .u64 (ws.getD i 0 : Nat))) (ht : trimW ws = ws.take k) :
    (trimW ws).length = k ∧ WordsAt w (.slice (some ⟨b, off, none⟩) k cap) (trimW ws) := by
  have e : (trimW ws).length = k := by rw [ht, List.length_take, Nat.min_eq_left hk]
  refine ⟨e, by omega, .inr ⟨b, off, cap, by rw [e], by omega, hb, fun i hi => ?_⟩⟩
  rw [hc i (by omega), ht]
  have : i < k := by omega
  simp [List.getD_eq_getElem?_getD, List.getElem?_take, this]
theorem getD_small {ws : List Nat} (h : Small ws) (i : Nat) : ws.getD i 0 < 18446744073709551616 := by
  rw [List.getD_eq_getElem?_getD]
  cases e : ws[i]? with
  | none => simp
  | some x => exact h x (List.mem_of_getElem? e)
def intOf : Value → Int
  | .int _ x => x
  | _ => 0
def sliceLen : Value → Nat
  | .slice _ n _ => n
  | _ => 0
set_option maxRecDepth 100000 in
set_option maxHeartbeats 1000000 in
/-- 'trimmed' gives the first words of what it is given: those of the number. -/
theorem trimmed_any (a : Option Addr) (cap : Nat) (ws : List Nat) (w : World) (h : WordsAt w (.slice a ws.length cap) ws) (hs : Small ws) :
    Calls Tryz.prog 121 #[.slice a ws.length cap] w fun e w' => e = .returned (.slice a (trimW ws).length cap) ∧ WordsAt w' (.slice a (trimW ws).length cap) (trimW ws) ∧ w' = w := by
  obtain ⟨hl, h⟩ := h
  rcases h with ⟨rfl, a', cap', hv⟩ | ⟨b, off, cap', hv, hcap, hb, hcells⟩
  · clear hv
    have e0 : trimW [] = [] := by unfold trimW; exact toW_zero
    rw [e0]
    have HS := Lib.hid hs
    clear hs
    go_enter Tryz.func121, Tryz.ntmps121
    go_wp2_with fail
    go_loopw [0] (fun s wr => wr = w ∧ s = .slice a 0 cap) (fun s _ => sliceLen s)
    case atStart => exact ⟨rfl, rfl⟩
    case round =>
      obtain ⟨rfl, rfl⟩ := hrel
      go_wp2
      go_ret
      exact ⟨rfl, ⟨by simp, .inl ⟨rfl, a, cap, rfl⟩⟩, rfl⟩
  · injection hv with e1 _ e2
    subst e1 e2
    have HC : Hid (∀ i, i < ws.length → w.cell? ⟨b, off + i, none⟩ = some (.int .u64 (ws.getD i 0 : Nat))) := Lib.hid hcells
    have HT : Hid (Small ws) := Lib.hid hs
    clear hcells hs
    go_enter Tryz.func121, Tryz.ntmps121
    go_wp2_with fail
    go_loopw [0] (fun s wr => wr = w ∧ ∃ k : Nat, s = .slice (some ⟨b, off, none⟩) k cap ∧ k ≤ ws.length ∧ Hid (valW (ws.take k) = valW ws)) (fun s _ => sliceLen s)
    case atStart => exact ⟨rfl, ws.length, rfl, Nat.le_refl _, Lib.hid (by rw [List.take_length])⟩
    case round =>
      obtain ⟨rfl, k, rfl, hk, HV⟩ := hrel
      cases k with
      | zero =>
        have ht : trimW ws = ws.take 0 := trim_take HT.out (by omega) HV.out (.inl rfl)
        obtain ⟨e1, e2⟩ := trim_fin hl hk hcap hb HC.out ht
        have HE := Lib.hid e1
        have HE2 := Lib.hid e2
        clear ht e1 e2
        go_wp2
        go_ret
        exact ⟨by rw [HE.out]; rfl, by rw [HE.out]; exact HE2.out, rfl⟩
      | succ j =>
        have hcj := HC.out j (by omega)
        cases hx : ws.getD j 0 with
        | zero =>
          rw [hx] at hcj
          have HV2 : Hid (valW (ws.take j) = valW ws) := Lib.hid (by rw [← valW_take_zero (by omega) hx]; exact HV.out)
          clear hx
          go_wp2
          exact ⟨⟨trivial, j, rfl, by omega, HV2⟩, by simp [sliceLen]⟩
        | succ y =>
          rw [hx] at hcj
          have ht : trimW ws = ws.take (j + 1) := trim_take HT.out hk HV.out (.inr ⟨by omega, by rw [Nat.add_sub_cancel, hx]; omega⟩)
          obtain ⟨e1, e2⟩ := trim_fin hl hk hcap hb HC.out ht
          have HE := Lib.hid e1
          have HE2 := Lib.hid e2
          clear ht e1 e2 hx
          go_wp2
          go_ret
          exact ⟨by rw [HE.out]; rfl, by rw [HE.out]; exact HE2.out, rfl⟩

def cmpN (a b : Nat) : Int := if a < b then -1 else if b < a then 1 else 0
theorem cmp64_any (x y : Nat) (hx : x < 18446744073709551616) (hy : y < 18446744073709551616) (w : World) :
    Calls Tryz.prog 123 #[.int .u64 x, .int .u64 y] w fun e w' => e = .returned (.int .i64 (cmpN x y)) ∧ w' = w := by
  rcases Nat.lt_trichotomy x y with h | h | h
  · have e : cmpN x y = -1 := by unfold cmpN; rw [if_pos h]
    rw [e]
    go_enter Tryz.func123, Tryz.ntmps123
    go_wp2
    go_ret
    exact ⟨rfl, rfl⟩
  · have e : cmpN x y = 0 := by unfold cmpN; rw [if_neg (by omega), if_neg (by omega)]
    rw [e]
    subst h
    go_enter Tryz.func123, Tryz.ntmps123
    go_wp2
    go_ret
    exact ⟨rfl, rfl⟩
  · have e : cmpN x y = 1 := by unfold cmpN; rw [if_neg (by omega), if_pos h]
    rw [e]
    go_enter Tryz.func123, Tryz.ntmps123
    go_wp2
    go_ret
    exact ⟨rfl, rfl⟩

theorem valW_split {ws : List Nat} {i : Nat} (hi : i < ws.length) : valW ws = valW (ws.take i) + 18446744073709551616 ^ i * (ws.getD i 0 + 18446744073709551616 * valW (ws.drop (i + 1))) := by
  have h1 : ws = ws.take i ++ (ws[i] :: ws.drop (i + 1)) := by rw [← List.drop_eq_getElem_cons hi, List.take_append_drop]
  have h2 : ws.getD i 0 = ws[i] := by simp [List.getD_eq_getElem?_getD, hi]
  rw [h2]
  conv => lhs; rw [h1]
  rw [valW_append, valW, List.length_take, Nat.min_eq_left (Nat.le_of_lt hi)]
theorem small_take {ws : List Nat} (h : Small ws) (i : Nat) : Small (ws.take i) := fun x hx => h x (List.mem_of_mem_take hx)
theorem valW_cmp {ws us : List Nat} {i : Nat} (hw : i < ws.length) (hu : i < us.length) (hs : Small ws) (hd : ws.drop (i + 1) = us.drop (i + 1)) (hlt : ws.getD i 0 < us.getD i 0) : valW ws < valW us := by
  rw [valW_split hw, valW_split hu, hd]
  have h1 := valW_lt (small_take hs i)
  rw [List.length_take, Nat.min_eq_left (Nat.le_of_lt hw)] at h1
  generalize 18446744073709551616 ^ i = P at h1 ⊢
  generalize valW (us.drop (i + 1)) = D
  generalize ws.getD i 0 = x at hlt ⊢
  obtain ⟨k, hk⟩ := Nat.exists_eq_add_of_lt hlt
  rw [hk, show x + k + 1 + 18446744073709551616 * D = (x + 18446744073709551616 * D) + (1 + k) by omega, Nat.mul_add P (x + 18446744073709551616 * D) (1 + k), Nat.mul_add P 1 k, Nat.mul_one]
  have : 0 ≤ P * k := Nat.zero_le _
  omega
/-- Words that are a number's: none too many. -/
def Trim (ws : List Nat) : Prop := ws = [] ∨ ws.getD (ws.length - 1) 0 ≠ 0
theorem trim_toW (n : Nat) : Trim (toW n) := by
  induction n using Nat.strongRecOn with
  | ind n ih =>
    by_cases h : n = 0
    · subst h; exact .inl toW_zero
    · right
      have h1 := ih _ (Nat.div_lt_self (Nat.pos_of_ne_zero h) (by decide : 1 < 18446744073709551616))
      rw [toW_pos h]
      rcases h1 with h1 | h1
      · rw [h1]
        have h2 := valW_toW (n / 18446744073709551616)
        rw [h1] at h2
        simp [valW] at h2
        simp; omega
      · generalize hr : toW (n / 18446744073709551616) = r at h1
        cases r with
        | nil => simp at h1
        | cons y s => simpa using h1
theorem pow_le_val {ws : List Nat} (ht : Trim ws) (h : ws ≠ []) : 18446744073709551616 ^ (ws.length - 1) ≤ valW ws := by
  have hp : 0 < ws.length := List.length_pos_iff.2 h
  have h2 := ht.resolve_left h
  rw [valW_split (show ws.length - 1 < ws.length by omega)]
  refine Nat.le_trans ?_ (Nat.le_add_left _ _)
  exact Nat.le_mul_of_pos_right _ (by omega)
theorem val_len {ws us : List Nat} (hs : Small ws) (ht : Trim us) (hl : ws.length < us.length) : valW ws < valW us := by
  have hne : us ≠ [] := by intro e; subst e; simp at hl
  refine Nat.lt_of_lt_of_le (valW_lt hs) (Nat.le_trans (Nat.pow_le_pow_right (by decide) (by omega)) (pow_le_val ht hne))

set_option maxRecDepth 100000 in
set_option maxHeartbeats 1000000 in
theorem compare_any (v u : Value) (a b : Nat) (w : World) (h : WordsAt w v (toW a)) (g : WordsAt w u (toW b)) :
    Calls Tryz.prog 106 #[v, u] w fun e w' => e = .returned (.int .i64 (cmpN a b)) ∧ Below w.heap.size w w' := by
  obtain ⟨ws, hws⟩ : ∃ ws, toW a = ws := ⟨_, rfl⟩
  obtain ⟨us, hus⟩ : ∃ us, toW b = us := ⟨_, rfl⟩
  have ha : valW ws = a := by rw [← hws, valW_toW]
  have hb : valW us = b := by rw [← hus, valW_toW]
  have hsa : Small ws := by rw [← hws]; exact toW_small a
  have hsb : Small us := by rw [← hus]; exact toW_small b
  have hta : Trim ws := by rw [← hws]; exact trim_toW a
  have htb : Trim us := by rw [← hus]; exact trim_toW b
  rw [hws] at h
  rw [hus] at g
  clear hws hus
  by_cases hlen : ws.length = us.length
  · obtain ⟨hl1, h⟩ := h
    obtain ⟨hl2, g⟩ := g
    have h' : ∃ p cap, v = .slice p ws.length cap ∧ ∀ i, i < ws.length → ∃ bk off, p = some ⟨bk, off, none⟩ ∧ ws.length ≤ cap ∧ bk < w.heap.size ∧ w.cell? ⟨bk, off + i, none⟩ = some (.int .u64 (ws.getD i 0 : Nat)) := by
      rcases h with ⟨rfl, a', cap', rfl⟩ | ⟨bk, off, cap, rfl, hcap, hbk, hcells⟩
      · exact ⟨a', cap', rfl, fun i hi => absurd hi (by simp)⟩
      · exact ⟨_, cap, rfl, fun i hi => ⟨bk, off, rfl, hcap, hbk, hcells i hi⟩⟩
    have g' : ∃ p cap, u = .slice p us.length cap ∧ ∀ i, i < us.length → ∃ bk off, p = some ⟨bk, off, none⟩ ∧ us.length ≤ cap ∧ bk < w.heap.size ∧ w.cell? ⟨bk, off + i, none⟩ = some (.int .u64 (us.getD i 0 : Nat)) := by
      rcases g with ⟨rfl, a', cap', rfl⟩ | ⟨bk, off, cap, rfl, hcap, hbk, hcells⟩
      · exact ⟨a', cap', rfl, fun i hi => absurd hi (by simp)⟩
      · exact ⟨_, cap, rfl, fun i hi => ⟨bk, off, rfl, hcap, hbk, hcells i hi⟩⟩
    obtain ⟨p, cap, rfl, hp⟩ := h'
    obtain ⟨q, cap2, rfl, hq⟩ := g'
    have HP := Lib.hid hp
    have HQ := Lib.hid hq
    have HA := Lib.hid ha
    have HB := Lib.hid hb
    have HSA := Lib.hid hsa
    have HSB := Lib.hid hsb
    have HL := Lib.hid hlen
    rw [← hlen]
    clear h g hp hq ha hb hsa hsb hta htb hlen
    go_enter Tryz.func106, Tryz.ntmps106
    go_wp2_with fail
    go_loopw [5] (fun s wr => Hid (Below w.heap.size w wr) ∧ ∃ (x : Int) (k : Nat), s = .int .i64 x ∧ x = (k : Int) - 1 ∧ k ≤ ws.length ∧ Hid (ws.drop k = us.drop k)) (fun s _ => (intOf s + 1).toNat)
    case atStart => exact ⟨Lib.hid (Below.refl _ _), _, ws.length, rfl, rfl, Nat.le_refl _, Lib.hid (by rw [List.drop_of_length_le (Nat.le_refl _), List.drop_of_length_le (by rw [HL.out]; exact Nat.le_refl _)])⟩
    case round =>
      obtain ⟨HBW, x, k, rfl, hx, hk, HD⟩ := hrel
      cases k with
      | zero =>
        have hx' : x = -1 := by omega
        subst hx'
        have HR : Hid (cmpN a b = 0) := Lib.hid (by
          have h1 : ws = us := by have := HD.out; simpa using this
          rw [← HA.out, ← HB.out, h1]; unfold cmpN; rw [if_neg (by omega), if_neg (by omega)])
        clear hx
        go_wp2
        go_ret
        exact ⟨by rw [HR.out]; rfl, HBW.out⟩
      | succ j =>
        have hx' : x = (j : Int) := by omega
        subst hx'
        obtain ⟨bk, off, rfl, hcap1, hbk, hc1⟩ := HP.out j (by omega)
        obtain ⟨bk2, off2, rfl, hcap2, hbk2, hc2⟩ := HQ.out j (by rw [← HL.out]; omega)
        obtain ⟨y, hy⟩ : ∃ y, ws.getD j 0 = y := ⟨_, rfl⟩
        obtain ⟨z, hz⟩ : ∃ z, us.getD j 0 = z := ⟨_, rfl⟩
        have hc1 := (HBW.out.cell (p := ⟨bk, off + j, none⟩) hbk).trans hc1
        have hc2 := (HBW.out.cell (p := ⟨bk2, off2 + j, none⟩) hbk2).trans hc2
        have hj0 : (j : Int) < (ws.length : Int) := by omega
        have hj1 : (0 : Int) ≤ (j : Int) := by omega
        rw [hy] at hc1
        rw [hz] at hc2
        have HY := Lib.hid hy
        have HZ := Lib.hid hz
        rw [← HL.out] at hcap2
        clear hx hy hz
        by_cases hyz : y = z
        · subst hyz
          have HD2 : Hid (ws.drop j = us.drop j) := Lib.hid (by
            rw [List.drop_eq_getElem_cons (by omega : j < ws.length), List.drop_eq_getElem_cons (by rw [← HL.out]; omega : j < us.length), HD.out]
            congr 1
            have e1 := HY.out
            have e2 := HZ.out
            rw [List.getD_eq_getElem?_getD, List.getElem?_eq_getElem (by omega : j < ws.length)] at e1
            rw [List.getD_eq_getElem?_getD, List.getElem?_eq_getElem (by rw [← HL.out]; omega : j < us.length)] at e2
            simp at e1 e2
            rw [e1, e2])
          go_wp2
          go_quiet (fail)
          go_wp2
          exact ⟨⟨Lib.hid (below_drewN HBW.out _), _, j, rfl, rfl, by omega, HD2⟩, by simp [intOf]⟩
        · have hy1 : y < 18446744073709551616 := by rw [← HY.out]; exact getD_small HSA.out _
          have hz1 : z < 18446744073709551616 := by rw [← HZ.out]; exact getD_small HSB.out _
          have HR : Hid (cmpN y z = cmpN a b) := Lib.hid (by
            rw [← HA.out, ← HB.out]
            have hjw : j < ws.length := by omega
            have hju : j < us.length := by rw [← HL.out]; omega
            rcases Nat.lt_or_ge y z with hl | hl
            · have := valW_cmp hjw hju HSA.out HD.out (by rw [HY.out, HZ.out]; exact hl)
              unfold cmpN; rw [if_pos hl, if_pos this]
            · have hl' : z < y := by omega
              have := valW_cmp hju hjw HSB.out HD.out.symm (by rw [HY.out, HZ.out]; exact hl')
              unfold cmpN; rw [if_neg (by omega), if_pos hl', if_neg (by omega), if_pos this])
          go_wp2
          go_quiet (fail)
          go_wp2_with fail
          have HB2 := Lib.hid (below_drewN HBW.out nq)
          have d1 := ((below_drewN (Below.refl _ wr) nq).cell (p := ⟨bk, off + j, none⟩) (by have := HBW.out.size; show bk < _; omega)).trans hc1
          have d2 := ((below_drewN (Below.refl _ wr) nq).cell (p := ⟨bk2, off2 + j, none⟩) (by have := HBW.out.size; show bk2 < _; omega)).trans hc2
          clear hc1 hc2
          generalize wr.drewN nq = wq at d1 d2 HB2 ⊢
          go_quiet (first | (go_at_call 123; refine Calls.quiet_of_same (cmp64_any y z hy1 hz1 _)))
          go_wp2
          go_ret
          exact ⟨by rw [← HR.out]; rfl, below_drewN HB2.out _⟩
  · obtain ⟨a', cap', rfl⟩ := h.shape
    obtain ⟨b', cap2, rfl⟩ := g.shape
    have hc : Lib.compareInt (ws.length : Int) (us.length : Int) = cmpN a b := by
      rcases Nat.lt_or_ge ws.length us.length with hl | hl
      · have := val_len hsa htb hl
        rw [ha, hb] at this
        unfold Lib.compareInt cmpN
        rw [if_pos (by omega), if_pos this]
      · have := val_len hsb hta (show us.length < ws.length by omega)
        rw [ha, hb] at this
        unfold Lib.compareInt cmpN
        rw [if_neg (by omega), if_pos (by omega), if_neg (by omega), if_pos this]
    have HC := Lib.hid hc
    have hne : ¬ (ws.length : Int) = us.length := by omega
    clear h g hc ha hb hsa hsb hta htb
    go_enter Tryz.func106, Tryz.ntmps106
    go_wp2_with fail
    refine (Tryz.cmp_Compare_int _ _ _).mono ?_
    rintro e w' ⟨rfl, rfl⟩
    rw [HC.out]
    go_wp2
    go_ret
    exact ⟨rfl, Below.refl _ _⟩
end Go.Proofs.YtedpafdfecofnaaGreatDoor

/-! ## S23 -/
namespace Go.Proofs.YtedpafdfecofnaaGreatDoor
open Go.RowKit Go.Maps Go.Shelf Go.Sort
theorem WordsAt.reads {w : World} {v : Value} {ws : List Nat} (h : WordsAt w v ws) : ∃ p cap, v = .slice p ws.length cap ∧ ∀ i, i < ws.length → ∃ bk off, p = some ⟨bk, off, none⟩ ∧ ws.length ≤ cap ∧ bk < w.heap.size ∧ w.cell? ⟨bk, off + i, none⟩ = some (.int .u64 (ws.getD i 0 : Nat)) := by
  rcases h.2 with ⟨rfl, a', cap', rfl⟩ | ⟨bk, off, cap, rfl, hcap, hbk, hcells⟩
  · exact ⟨a', cap', rfl, fun i hi => absurd hi (by simp)⟩
  · exact ⟨_, cap, rfl, fun i hi => ⟨bk, off, rfl, hcap, hbk, hcells i hi⟩⟩
def uv (ws : List Nat) : List Value := ws.map fun n => Value.int .u64 (n : Nat)
theorem uv_get (ws : List Nat) (i : Nat) (h : i < ws.length) : (uv ws)[i]? = some (.int .u64 (ws.getD i 0 : Nat)) := by
  simp [uv, List.getD_eq_getElem?_getD, h]
def OwnW (w : World) (base : Nat) (v : Value) (ws : List Nat) : Prop := w.ownsRow base 114 1 v ws.length (uv ws)
theorem OwnW.at {w : World} {base : Nat} {v : Value} {ws : List Nat} (h : OwnW w base v ws) (hl : ws.length ≤ 1000000) : WordsAt w v ws := by
  refine ⟨hl, ?_⟩
  have h' := h
  obtain ⟨_, ⟨hv, h0⟩ | ⟨g, cap, cur, rfl, hbase, hb, hcap, _⟩⟩ := h
  · exact .inl ⟨List.length_eq_zero_iff.1 h0, none, 0, hv⟩
  · refine .inr ⟨g, 0, cap, rfl, hcap, (Array.getElem?_eq_some_iff.1 hb).1, fun i hi => ?_⟩
    have := World.ownsRow.cells h' (g := g) rfl i _ (uv_get ws i hi)
    have hadd : (⟨g, 0, none⟩ : Addr).add i = ⟨g, i, none⟩ := by unfold Addr.add; split <;> simp_all
    rw [hadd] at this
    rw [Nat.zero_add]; exact this
theorem OwnW.cellAt {w : World} {base g cap : Nat} {ws : List Nat} (h : OwnW w base (.slice (some ⟨g, 0, none⟩) ws.length cap) ws) (i : Nat) (hi : i < ws.length) :
    w.cell? ⟨g, i, none⟩ = some (.int .u64 (ws.getD i 0 : Nat)) := by
  rw [World.ownsRow.cellAt h i (by omega), uv_get ws i hi]
theorem uv_set (ws : List Nat) (k x : Nat) : uv (ws.set k x) = (uv ws).set k (.int .u64 (x : Nat)) := by
  simp [uv, List.map_set]
theorem OwnW.store {w : World} {base g cap : Nat} {ws : List Nat} (h : OwnW w base (.slice (some ⟨g, 0, none⟩) ws.length cap) ws) (k x : Nat) :
    OwnW (w.setCell ⟨g, k, none⟩ (.int .u64 (x : Nat))) base (.slice (some ⟨g, 0, none⟩) ws.length cap) (ws.set k x) := by
  have := World.ownsRow.stored h k (.int .u64 (x : Nat))
  unfold OwnW
  rw [uv_set, List.length_set]
  exact this.1
theorem made_zero (n : Nat) : (madeCells (Value.int .u64 0).cells (n * 1)).toList = uv (List.replicate n 0) := by
  rw [Nat.mul_one]
  apply List.ext_getElem?
  intro i
  by_cases h : i < n <;> simp [madeCells, uv, Value.cells, h, Nat.mod_one]
theorem und104 : Tryz.prog.underlying 104 = some (.slice 114) := by kernel_rfl
theorem valW_take_succ (us : List Nat) (i : Nat) : valW (us.take (i + 1)) = valW (us.take i) + 18446744073709551616 ^ i * us.getD i 0 := by
  by_cases h : i < us.length
  · rw [List.take_succ_eq_append_getElem h, valW_append, List.length_take, Nat.min_eq_left (Nat.le_of_lt h)]
    simp [valW, List.getD_eq_getElem?_getD, h]
  · rw [List.take_of_length_le (by omega), List.take_of_length_le (by omega)]
    simp [List.getD_eq_getElem?_getD, show us.length ≤ i by omega]
theorem take_set_ge {ws : List Nat} {i k x : Nat} (h : i ≤ k) : (ws.set k x).take i = ws.take i := by
  apply List.ext_getElem?
  intro j
  simp only [List.getElem?_take, List.getElem?_set]
  split <;> rename_i h1
  · rw [if_neg (by omega)]
  · rfl
theorem getD_set_eq {ws : List Nat} {k x : Nat} (h : k < ws.length) : (ws.set k x).getD k 0 = x := by
  simp [List.getD_eq_getElem?_getD, h]
theorem small_set {ws : List Nat} {k x : Nat} (h : Small ws) (hx : x < 18446744073709551616) : Small (ws.set k x) := fun y hy => by
  rcases List.mem_or_eq_of_mem_set hy with h1 | rfl
  · exact h y h1
  · exact hx
def NatTo (n : Nat) (w : World) (e : Ending) (w' : World) : Prop := ∃ v, e = .returned v ∧ WordsAt w' v (toW n) ∧ Below w.heap.size w w'
theorem add64_run (x y c : Nat) (hc : c ≤ 1) (w : World) :
    (callFunc 156 #[.int .u64 x, .int .u64 y, .int .u64 c]).run Tryz.prog w =
      .ok (.value (.tuple #[.int .u64 ((x + y + c) % 18446744073709551616 : Nat), .int .u64 ((x + y + c) / 18446744073709551616 : Nat)])) w := by
  rw [run_callFunc_extern Tryz.func156 (by kernel_rfl) (by kernel_rfl) (by kernel_rfl) (e := add64Entry) (by kernel_rfl), run_add64 x y c (by omega) (by omega) (by omega) (by omega)]
  simp only [Result.andThen]
  congr 5 <;> omega

theorem info114 : (Tryz.prog.info? 114).map (fun i => (i.zero, i.size, i.bytes)) = some (some (.int .u64 0), 1, 8) := by kernel_rfl
def PlusI (w wr : World) (g cap : Nat) (ws us : List Nat) (i c : Nat) : Prop :=
  ∃ L, OwnW wr w.heap.size (.slice (some ⟨g, 0, none⟩) (ws.length + 1) (ws.length + 1)) L ∧ L.length = ws.length + 1 ∧ Small L ∧ valW (L.take i) + 18446744073709551616 ^ i * c = valW (ws.take i) + valW (us.take i) ∧ c ≤ 1 ∧ Below w.heap.size w wr

set_option maxRecDepth 100000 in
set_option maxHeartbeats 2000000 in
theorem plus_long (v u : Value) (a b : Nat) (w : World) (h : WordsAt w v (toW a)) (g : WordsAt w u (toW b)) (hla : (toW a).length ≤ 1000) (hlb : (toW b).length ≤ (toW a).length) :
    Calls Tryz.prog 133 #[v, u] w (NatTo (a + b) w) := by
  obtain ⟨ws, hws⟩ : ∃ ws, toW a = ws := ⟨_, rfl⟩
  obtain ⟨us, hus⟩ : ∃ us, toW b = us := ⟨_, rfl⟩
  have ha : valW ws = a := by rw [← hws, valW_toW]
  have hb : valW us = b := by rw [← hus, valW_toW]
  have hsa : Small ws := by rw [← hws]; exact toW_small a
  have hsb : Small us := by rw [← hus]; exact toW_small b
  rw [hws] at h hla hlb
  rw [hus] at g hlb
  clear hws hus
  obtain ⟨p, cap, rfl, hp⟩ := h.reads
  obtain ⟨q, cap2, rfl⟩ := g.shape
  have HP := Lib.hid hp
  have HG := Lib.hid g
  have HA := Lib.hid ha
  have HB := Lib.hid hb
  have HSA := Lib.hid hsa
  have HSB := Lib.hid hsb
  clear h g hp ha hb hsa hsb
  go_enter Tryz.func133, Tryz.ntmps133
  obtain ⟨i0, hi, hz0, hz1, hz2⟩ := info_parts info114
  go_wp2_with (first | (at_make; refine wpList_make_full _ rfl _ _ 104 rfl w.heap.size 114 i0 (.int .u64 0) 1 und104 hi hz0 hz1 .i64 .i64 _ _ (ws.length + 1) rfl rfl (by simp) (by simp) (by rw [hz2]; omega) (by unfold maxLen; omega) (Nat.le_refl _) ?_; intro w1 hown hgrow; rw [made_zero] at hown; have HOW := Lib.hid hown; have HGR := Lib.hid hgrow; clear hown hgrow))
  have HI0 : Hid (PlusI w w1 w.heap.size 0 ws us 0 0) := by
    refine Lib.hid ⟨List.replicate (ws.length + 1) 0, ?_, by simp, ?_, by simp [valW], by omega, ?_⟩
    · have := HOW.out
      unfold OwnW
      rw [List.length_replicate]
      exact this
    · intro x hx; rw [List.eq_of_mem_replicate hx]; omega
    · exact (Below.refl _ w).grown HGR.out (Nat.le_refl _) (by intro q hq; cases hq)
  go_loopw [6, 21] (fun s t wr => ∃ i c : Nat, s = .int .u64 (c : Nat) ∧ t = .int .i64 (i : Nat) ∧ i ≤ ws.length ∧ Hid (PlusI w wr w.heap.size 0 ws us i c)) (fun _ t _ => ws.length - (intOf t).toNat)
  case atStart => exact ⟨0, 0, rfl, rfl, Nat.zero_le _, HI0⟩
  case round =>
    obtain ⟨i, c, rfl, rfl, hi', HI⟩ := hrel
    by_cases hlt : i < ws.length
    · obtain ⟨L, ho, hL, hsm, hval, hc, hbw⟩ := HI.out
      obtain ⟨bk, off, rfl, hcap1, hbk, hc1⟩ := HP.out i hlt
      have hc1 := (hbw.cell (p := ⟨bk, off + i, none⟩) hbk).trans hc1
      obtain ⟨x, hx⟩ : ∃ x, ws.getD i 0 = x := ⟨_, rfl⟩
      obtain ⟨y, hy⟩ : ∃ y, us.getD i 0 = y := ⟨_, rfl⟩
      rw [hx] at hc1
      have HX := Lib.hid hx
      have HY := Lib.hid hy
      have hwd := fun w0 h0 => word_any (.slice q us.length cap2) us i w0 h0 (by omega)
      rw [hy] at hwd
      have HWD := Lib.hid hwd
      obtain ⟨lo, co, hadd, hlc⟩ : ∃ lo co : Nat, (∀ w0, (callFunc 156 #[.int .u64 x, .int .u64 y, .int .u64 c]).run Tryz.prog w0 = .ok (.value (.tuple #[.int .u64 lo, .int .u64 co])) w0) ∧ Hid (lo + 18446744073709551616 * co = x + y + c ∧ lo < 18446744073709551616) :=
        ⟨_, _, fun w0 => add64_run x y c hc w0, Lib.hid ⟨by omega, by omega⟩⟩
      have HGW := Lib.hid (HG.out.below hbw)
      have hij : (i : Int) < (ws.length : Int) := by omega
      have hij2 : (i : Int) < (ws.length : Int) + 1 := by omega
      have hij3 : (0 : Int) ≤ (i : Int) := by omega
      have ho' : OwnW wr w.heap.size (.slice (some ⟨w.heap.size, 0, none⟩) L.length (ws.length + 1)) L := by rw [hL]; exact ho
      clear hx hy hwd
      have hci := ho'.cellAt i (by rw [hL]; omega)
      have hfi : wr.frozen? ⟨w.heap.size, i, none⟩ = false := World.ownsRow.frozenAt ho' i
      obtain ⟨z, hz⟩ : ∃ z, L.getD i 0 = z := ⟨_, rfl⟩
      rw [hz] at hci
      have HO' := Lib.hid ho'
      have HBW := Lib.hid hbw
      have HSM := Lib.hid hsm
      have HVAL := Lib.hid hval
      clear ho ho' hbw hsm hval hz
      go_wp2
      have hk1 : ∀ u', (wr.setCell ⟨w.heap.size, i, none⟩ u').drew.cell? ⟨bk, off + i, none⟩ = some (.int .u64 (x : Nat)) := fun u' => ((((Below.refl w.heap.size wr).setCell (by simp) u').drew).cell (p := ⟨bk, off + i, none⟩) hbk).trans hc1
      have hk2 : ∀ u', WordsAt (wr.setCell ⟨w.heap.size, i, none⟩ u').drew (.slice q us.length cap2) us := fun u' => HG.out.below ((HBW.out.setCell (by simp) u').drew)
      have HK1 := Lib.hid hk1
      have HK2 := Lib.hid hk2
      clear hk1 hk2
      go_region_held3 (fun w' => w'.cell? ⟨bk, off + i, none⟩ = some (.int .u64 (x : Nat)) ∧ WordsAt w' (.slice q us.length cap2) us) (first | exact ⟨hc1, HGW.out⟩ | exact ⟨HK1.out _, HK2.out _⟩ | go_keep) (first | (go_at_call 105; refine (HWD.out _ (by assumption)).mono ?_; rintro e w3 ⟨rfl, rfl⟩))
      have HI2 : Hid (PlusI w ((wr.setCell ⟨w.heap.size, i, none⟩ (.int .u64 (lo : Nat))).drew) w.heap.size 0 ws us (i + 1) co) := by
        have h1 : OwnW (wr.setCell ⟨w.heap.size, i, none⟩ (.int .u64 (lo : Nat))) w.heap.size (.slice (some ⟨w.heap.size, 0, none⟩) L.length (ws.length + 1)) (L.set i lo) := HO'.out.store i lo
        rw [hL] at h1
        obtain ⟨hq1, hq2⟩ := hlc.out
        refine Lib.hid ⟨L.set i lo, h1, by rw [List.length_set, hL], small_set HSM.out hq2, ?_, ?_, (HBW.out.setCell (by simp) _).drew⟩
        · rw [valW_take_succ, valW_take_succ ws, valW_take_succ us, take_set_ge (Nat.le_refl i), getD_set_eq (by omega), HX.out, HY.out]
          have hv := HVAL.out
          have hp : 18446744073709551616 ^ (i + 1) * co = 18446744073709551616 ^ i * (18446744073709551616 * co) := by rw [Nat.pow_succ, Nat.mul_assoc]
          rw [hp]
          generalize 18446744073709551616 ^ i = P at hv ⊢
          have e1 : P * lo + P * (18446744073709551616 * co) = P * (x + y + c) := by rw [← Nat.mul_add, hq1]
          have e2 : P * (x + y + c) = P * x + P * y + P * c := by rw [Nat.mul_add, Nat.mul_add]
          omega
        · have hx : x < 18446744073709551616 := by rw [← HX.out]; exact getD_small HSA.out _
          have hy : y < 18446744073709551616 := by rw [← HY.out]; exact getD_small HSB.out _
          omega
      clear hlc hci hfi HK1 HK2 hadd HI
      go_wp2
      go_roundw
      case rel => exact ⟨i + 1, co, rfl, by go_num, by omega, HI2⟩
      case measure => simp [intOf]; omega
    · have hie : i = ws.length := by omega
      subst hie
      obtain ⟨L, ho, hL, hsm, hval, hc, hbw⟩ := HI.out
      have ho' : OwnW wr w.heap.size (.slice (some ⟨w.heap.size, 0, none⟩) L.length (ws.length + 1)) L := by rw [hL]; exact ho
      have hci := ho'.cellAt ws.length (by rw [hL]; omega)
      have hfi : wr.frozen? ⟨w.heap.size, ws.length, none⟩ = false := World.ownsRow.frozenAt ho' ws.length
      obtain ⟨z, hz⟩ : ∃ z, L.getD ws.length 0 = z := ⟨_, rfl⟩
      rw [hz] at hci
      have HEND : Hid (WordsAt (wr.setCell ⟨w.heap.size, ws.length, none⟩ (.int .u64 (c : Nat))) (.slice (some ⟨w.heap.size, 0, none⟩) (L.set ws.length c).length (ws.length + 1)) (L.set ws.length c)) := by
        have h1 := ho'.store ws.length c
        have el : L.length = (L.set ws.length c).length := by rw [List.length_set]
        rw [el] at h1
        exact Lib.hid (h1.at (by rw [List.length_set, hL]; omega))
      have HSM := Lib.hid (small_set hsm (show c < 18446744073709551616 by omega) (k := ws.length))
      have HV : Hid (trimW (L.set ws.length c) = toW (a + b)) := by
        have e : L.set ws.length c = (L.set ws.length c).take (ws.length + 1) := by rw [List.take_of_length_le (by rw [List.length_set, hL]; exact Nat.le_refl _)]
        refine Lib.hid ?_
        unfold trimW
        rw [e, valW_take_succ, take_set_ge (Nat.le_refl _), getD_set_eq (by omega), hval, List.take_of_length_le (Nat.le_refl _), List.take_of_length_le hlb, HA.out, HB.out]
      have hlen2 : (L.set ws.length c).length = ws.length + 1 := by rw [List.length_set, hL]
      have htr := trimmed_any (some ⟨w.heap.size, 0, none⟩) (ws.length + 1) (L.set ws.length c) _ HEND.out HSM.out
      rw [hlen2, HV.out] at htr
      have HTR := Lib.hid htr
      have HBW : Hid (Below w.heap.size w (wr.setCell ⟨w.heap.size, ws.length, none⟩ (.int .u64 (c : Nat)))) := Lib.hid (hbw.setCell (by simp) _)
      clear ho ho' hbw hsm hval hz htr hlen2 HEND HI hlt
      go_wp2_with fail
      refine HTR.out.mono ?_
      rintro e w2 ⟨rfl, hwt, rfl⟩
      have HWT := Lib.hid hwt
      clear hwt HTR
      go_wp2
      go_ret
      exact ⟨_, rfl, HWT.out, HBW.out⟩

set_option maxRecDepth 100000 in
set_option maxHeartbeats 2000000 in
theorem plus_short (v u : Value) (a b : Nat) (w : World) (h : WordsAt w v (toW a)) (g : WordsAt w u (toW b)) (hla : (toW a).length ≤ 1000) (hlt0 : (toW b).length < (toW a).length) :
    Calls Tryz.prog 133 #[u, v] w (NatTo (a + b) w) := by
  obtain ⟨ws, hws⟩ : ∃ ws, toW a = ws := ⟨_, rfl⟩
  obtain ⟨us, hus⟩ : ∃ us, toW b = us := ⟨_, rfl⟩
  have ha : valW ws = a := by rw [← hws, valW_toW]
  have hb : valW us = b := by rw [← hus, valW_toW]
  have hsa : Small ws := by rw [← hws]; exact toW_small a
  have hsb : Small us := by rw [← hus]; exact toW_small b
  rw [hws] at h hla hlt0
  rw [hus] at g hlt0
  have hlb : us.length ≤ ws.length := Nat.le_of_lt hlt0
  clear hws hus
  obtain ⟨p, cap, rfl, hp⟩ := h.reads
  obtain ⟨q, cap2, rfl⟩ := g.shape
  have HP := Lib.hid hp
  have HG := Lib.hid g
  have HA := Lib.hid ha
  have HB := Lib.hid hb
  have HSA := Lib.hid hsa
  have HSB := Lib.hid hsb
  clear h g hp ha hb hsa hsb
  go_enter Tryz.func133, Tryz.ntmps133
  obtain ⟨i0, hi, hz0, hz1, hz2⟩ := info_parts info114
  go_wp2_with (first | (at_make; refine wpList_make_full _ rfl _ _ 104 rfl w.heap.size 114 i0 (.int .u64 0) 1 und104 hi hz0 hz1 .i64 .i64 _ _ (ws.length + 1) rfl rfl (by simp) (by simp) (by rw [hz2]; omega) (by unfold maxLen; omega) (Nat.le_refl _) ?_; intro w1 hown hgrow; rw [made_zero] at hown; have HOW := Lib.hid hown; have HGR := Lib.hid hgrow; clear hown hgrow))
  have HI0 : Hid (PlusI w w1 w.heap.size 0 ws us 0 0) := by
    refine Lib.hid ⟨List.replicate (ws.length + 1) 0, ?_, by simp, ?_, by simp [valW], by omega, ?_⟩
    · have := HOW.out
      unfold OwnW
      rw [List.length_replicate]
      exact this
    · intro x hx; rw [List.eq_of_mem_replicate hx]; omega
    · exact (Below.refl _ w).grown HGR.out (Nat.le_refl _) (by intro q hq; cases hq)
  go_loopw [6, 21] (fun s t wr => ∃ i c : Nat, s = .int .u64 (c : Nat) ∧ t = .int .i64 (i : Nat) ∧ i ≤ ws.length ∧ Hid (PlusI w wr w.heap.size 0 ws us i c)) (fun _ t _ => ws.length - (intOf t).toNat)
  case atStart => exact ⟨0, 0, rfl, rfl, Nat.zero_le _, HI0⟩
  case round =>
    obtain ⟨i, c, rfl, rfl, hi', HI⟩ := hrel
    by_cases hlt : i < ws.length
    · obtain ⟨L, ho, hL, hsm, hval, hc, hbw⟩ := HI.out
      obtain ⟨bk, off, rfl, hcap1, hbk, hc1⟩ := HP.out i hlt
      have hc1 := (hbw.cell (p := ⟨bk, off + i, none⟩) hbk).trans hc1
      obtain ⟨x, hx⟩ : ∃ x, ws.getD i 0 = x := ⟨_, rfl⟩
      obtain ⟨y, hy⟩ : ∃ y, us.getD i 0 = y := ⟨_, rfl⟩
      rw [hx] at hc1
      have HX := Lib.hid hx
      have HY := Lib.hid hy
      have hwd := fun w0 h0 => word_any (.slice q us.length cap2) us i w0 h0 (by omega)
      rw [hy] at hwd
      have HWD := Lib.hid hwd
      obtain ⟨lo, co, hadd, hlc⟩ : ∃ lo co : Nat, (∀ w0, (callFunc 156 #[.int .u64 x, .int .u64 y, .int .u64 c]).run Tryz.prog w0 = .ok (.value (.tuple #[.int .u64 lo, .int .u64 co])) w0) ∧ Hid (lo + 18446744073709551616 * co = x + y + c ∧ lo < 18446744073709551616) :=
        ⟨_, _, fun w0 => add64_run x y c hc w0, Lib.hid ⟨by omega, by omega⟩⟩
      have HGW := Lib.hid (HG.out.below hbw)
      have hij : (i : Int) < (ws.length : Int) := by omega
      have hij2 : (i : Int) < (ws.length : Int) + 1 := by omega
      have hij3 : (0 : Int) ≤ (i : Int) := by omega
      have ho' : OwnW wr w.heap.size (.slice (some ⟨w.heap.size, 0, none⟩) L.length (ws.length + 1)) L := by rw [hL]; exact ho
      clear hx hy hwd
      have hci := ho'.cellAt i (by rw [hL]; omega)
      have hfi : wr.frozen? ⟨w.heap.size, i, none⟩ = false := World.ownsRow.frozenAt ho' i
      obtain ⟨z, hz⟩ : ∃ z, L.getD i 0 = z := ⟨_, rfl⟩
      rw [hz] at hci
      have HO' := Lib.hid ho'
      have HBW := Lib.hid hbw
      have HSM := Lib.hid hsm
      have HVAL := Lib.hid hval
      clear ho ho' hbw hsm hval hz
      go_wp2
      have hk1 : ∀ u', (wr.setCell ⟨w.heap.size, i, none⟩ u').drew.cell? ⟨bk, off + i, none⟩ = some (.int .u64 (x : Nat)) := fun u' => ((((Below.refl w.heap.size wr).setCell (by simp) u').drew).cell (p := ⟨bk, off + i, none⟩) hbk).trans hc1
      have hk2 : ∀ u', WordsAt (wr.setCell ⟨w.heap.size, i, none⟩ u').drew (.slice q us.length cap2) us := fun u' => HG.out.below ((HBW.out.setCell (by simp) u').drew)
      have HK1 := Lib.hid hk1
      have HK2 := Lib.hid hk2
      clear hk1 hk2
      go_region_held3 (fun w' => w'.cell? ⟨bk, off + i, none⟩ = some (.int .u64 (x : Nat)) ∧ WordsAt w' (.slice q us.length cap2) us) (first | exact ⟨hc1, HGW.out⟩ | exact ⟨HK1.out _, HK2.out _⟩ | go_keep) (first | (go_at_call 105; refine (HWD.out _ (by assumption)).mono ?_; rintro e w3 ⟨rfl, rfl⟩))
      have HI2 : Hid (PlusI w ((wr.setCell ⟨w.heap.size, i, none⟩ (.int .u64 (lo : Nat))).drew) w.heap.size 0 ws us (i + 1) co) := by
        have h1 : OwnW (wr.setCell ⟨w.heap.size, i, none⟩ (.int .u64 (lo : Nat))) w.heap.size (.slice (some ⟨w.heap.size, 0, none⟩) L.length (ws.length + 1)) (L.set i lo) := HO'.out.store i lo
        rw [hL] at h1
        obtain ⟨hq1, hq2⟩ := hlc.out
        refine Lib.hid ⟨L.set i lo, h1, by rw [List.length_set, hL], small_set HSM.out hq2, ?_, ?_, (HBW.out.setCell (by simp) _).drew⟩
        · rw [valW_take_succ, valW_take_succ ws, valW_take_succ us, take_set_ge (Nat.le_refl i), getD_set_eq (by omega), HX.out, HY.out]
          have hv := HVAL.out
          have hp : 18446744073709551616 ^ (i + 1) * co = 18446744073709551616 ^ i * (18446744073709551616 * co) := by rw [Nat.pow_succ, Nat.mul_assoc]
          rw [hp]
          generalize 18446744073709551616 ^ i = P at hv ⊢
          have e1 : P * lo + P * (18446744073709551616 * co) = P * (x + y + c) := by rw [← Nat.mul_add, hq1]
          have e2 : P * (x + y + c) = P * x + P * y + P * c := by rw [Nat.mul_add, Nat.mul_add]
          omega
        · have hx : x < 18446744073709551616 := by rw [← HX.out]; exact getD_small HSA.out _
          have hy : y < 18446744073709551616 := by rw [← HY.out]; exact getD_small HSB.out _
          omega
      clear hlc hci hfi HK1 HK2 hadd HI
      go_wp2
      go_roundw
      case rel => exact ⟨i + 1, co, rfl, by go_num, by omega, HI2⟩
      case measure => simp [intOf]; omega
    · have hie : i = ws.length := by omega
      subst hie
      obtain ⟨L, ho, hL, hsm, hval, hc, hbw⟩ := HI.out
      have ho' : OwnW wr w.heap.size (.slice (some ⟨w.heap.size, 0, none⟩) L.length (ws.length + 1)) L := by rw [hL]; exact ho
      have hci := ho'.cellAt ws.length (by rw [hL]; omega)
      have hfi : wr.frozen? ⟨w.heap.size, ws.length, none⟩ = false := World.ownsRow.frozenAt ho' ws.length
      obtain ⟨z, hz⟩ : ∃ z, L.getD ws.length 0 = z := ⟨_, rfl⟩
      rw [hz] at hci
      have HEND : Hid (WordsAt (wr.setCell ⟨w.heap.size, ws.length, none⟩ (.int .u64 (c : Nat))) (.slice (some ⟨w.heap.size, 0, none⟩) (L.set ws.length c).length (ws.length + 1)) (L.set ws.length c)) := by
        have h1 := ho'.store ws.length c
        have el : L.length = (L.set ws.length c).length := by rw [List.length_set]
        rw [el] at h1
        exact Lib.hid (h1.at (by rw [List.length_set, hL]; omega))
      have HSM := Lib.hid (small_set hsm (show c < 18446744073709551616 by omega) (k := ws.length))
      have HV : Hid (trimW (L.set ws.length c) = toW (a + b)) := by
        have e : L.set ws.length c = (L.set ws.length c).take (ws.length + 1) := by rw [List.take_of_length_le (by rw [List.length_set, hL]; exact Nat.le_refl _)]
        refine Lib.hid ?_
        unfold trimW
        rw [e, valW_take_succ, take_set_ge (Nat.le_refl _), getD_set_eq (by omega), hval, List.take_of_length_le (Nat.le_refl _), List.take_of_length_le hlb, HA.out, HB.out]
      have hlen2 : (L.set ws.length c).length = ws.length + 1 := by rw [List.length_set, hL]
      have htr := trimmed_any (some ⟨w.heap.size, 0, none⟩) (ws.length + 1) (L.set ws.length c) _ HEND.out HSM.out
      rw [hlen2, HV.out] at htr
      have HTR := Lib.hid htr
      have HBW : Hid (Below w.heap.size w (wr.setCell ⟨w.heap.size, ws.length, none⟩ (.int .u64 (c : Nat)))) := Lib.hid (hbw.setCell (by simp) _)
      clear ho ho' hbw hsm hval hz htr hlen2 HEND HI hlt
      go_wp2_with fail
      refine HTR.out.mono ?_
      rintro e w2 ⟨rfl, hwt, rfl⟩
      have HWT := Lib.hid hwt
      clear hwt HTR
      go_wp2
      go_ret
      exact ⟨_, rfl, HWT.out, HBW.out⟩

theorem plus_any (v u : Value) (a b : Nat) (w : World) (h : WordsAt w v (toW a)) (g : WordsAt w u (toW b)) (hla : (toW a).length ≤ 1000) (hlb : (toW b).length ≤ 1000) :
    Calls Tryz.prog 133 #[v, u] w (NatTo (a + b) w) := by
  rcases Nat.lt_or_ge (toW a).length (toW b).length with hl | hl
  · rw [Nat.add_comm]; exact plus_short u v b a w g h hlb hl
  · exact plus_long v u a b w h g hla hl
end Go.Proofs.YtedpafdfecofnaaGreatDoor

/-! ## S24 -/
namespace Go.Proofs.YtedpafdfecofnaaGreatDoor
open Go.RowKit Go.Maps Go.Shelf Go.Sort
def sub64Entry : Array Value → Sem Value := fun args => do
  let (x, y, b) ← Extern.MathBitsCarry.three "Sub64" args
  pure (Extern.MathBitsCarry.pair ((x + Extern.MathBitsCarry.m64 - y - b) % Extern.MathBitsCarry.m64) (if x < y + b then 1 else 0))
theorem sub64_run (x y c : Nat) (hc : c ≤ 1) (w : World) :
    (callFunc 135 #[.int .u64 x, .int .u64 y, .int .u64 c]).run Tryz.prog w =
      .ok (.value (.tuple #[.int .u64 ((x + 18446744073709551616 - y - c) % 18446744073709551616 : Nat), .int .u64 ((if x < y + c then 1 else 0 : Nat) : Nat)])) w := by
  rw [run_callFunc_extern Tryz.func135 (by kernel_rfl) (by kernel_rfl) (by kernel_rfl) (e := sub64Entry) (by kernel_rfl)]
  have : c = 0 ∨ c = 1 := by omega
  rcases this with rfl | rfl <;> rfl
def MinusI (w wr : World) (g cap : Nat) (ws us : List Nat) (i c : Nat) : Prop :=
  ∃ L, OwnW wr w.heap.size (.slice (some ⟨g, 0, none⟩) ws.length ws.length) L ∧ L.length = ws.length ∧ Small L ∧ valW (L.take i) + valW (us.take i) = valW (ws.take i) + 18446744073709551616 ^ i * c ∧ c ≤ 1 ∧ Below w.heap.size w wr

set_option maxRecDepth 100000 in
set_option maxHeartbeats 2000000 in
theorem minus_any (v u : Value) (a b : Nat) (w : World) (h : WordsAt w v (toW a)) (g : WordsAt w u (toW b)) (hla : (toW a).length ≤ 1000) (hba : b ≤ a) :
    Calls Tryz.prog 119 #[v, u] w (NatTo (a - b) w) := by
  obtain ⟨ws, hws⟩ : ∃ ws, toW a = ws := ⟨_, rfl⟩
  obtain ⟨us, hus⟩ : ∃ us, toW b = us := ⟨_, rfl⟩
  have ha : valW ws = a := by rw [← hws, valW_toW]
  have hb : valW us = b := by rw [← hus, valW_toW]
  have hsa : Small ws := by rw [← hws]; exact toW_small a
  have hsb : Small us := by rw [← hus]; exact toW_small b
  rw [hws] at h hla
  rw [hus] at g
  have htb : Trim us := by rw [← hus]; exact trim_toW b
  have hlb : us.length ≤ ws.length := by
    rcases Nat.lt_or_ge ws.length us.length with hl | hl
    · have := val_len hsa htb hl
      omega
    · exact hl
  have HBA := Lib.hid hba
  clear hws hus htb hba
  obtain ⟨p, cap, rfl, hp⟩ := h.reads
  obtain ⟨q, cap2, rfl⟩ := g.shape
  have HP := Lib.hid hp
  have HG := Lib.hid g
  have HA := Lib.hid ha
  have HB := Lib.hid hb
  have HSA := Lib.hid hsa
  have HSB := Lib.hid hsb
  clear h g hp ha hb hsa hsb
  go_enter Tryz.func119, Tryz.ntmps119
  obtain ⟨i0, hi, hz0, hz1, hz2⟩ := info_parts info114
  go_wp2_with (first | (at_make; refine wpList_make_full _ rfl _ _ 104 rfl w.heap.size 114 i0 (.int .u64 0) 1 und104 hi hz0 hz1 .i64 .i64 _ _ ws.length rfl rfl (by simp) (by simp) (by rw [hz2]; omega) (by unfold maxLen; omega) (Nat.le_refl _) ?_; intro w1 hown hgrow; rw [made_zero] at hown; have HOW := Lib.hid hown; have HGR := Lib.hid hgrow; clear hown hgrow))
  have HI0 : Hid (MinusI w w1 w.heap.size 0 ws us 0 0) := by
    refine Lib.hid ⟨List.replicate ws.length 0, ?_, by simp, ?_, by simp [valW], by omega, ?_⟩
    · have := HOW.out
      unfold OwnW
      rw [List.length_replicate]
      exact this
    · intro x hx; rw [List.eq_of_mem_replicate hx]; omega
    · exact (Below.refl _ w).grown HGR.out (Nat.le_refl _) (by intro q hq; cases hq)
  go_loopw [6, 13] (fun s t wr => ∃ i c : Nat, s = .int .u64 (c : Nat) ∧ t = .int .i64 (i : Nat) ∧ i ≤ ws.length ∧ Hid (MinusI w wr w.heap.size 0 ws us i c)) (fun _ t _ => ws.length - (intOf t).toNat)
  case atStart => exact ⟨0, 0, rfl, rfl, Nat.zero_le _, HI0⟩
  case round =>
    obtain ⟨i, c, rfl, rfl, hi', HI⟩ := hrel
    by_cases hlt : i < ws.length
    · obtain ⟨L, ho, hL, hsm, hval, hc, hbw⟩ := HI.out
      obtain ⟨bk, off, rfl, hcap1, hbk, hc1⟩ := HP.out i hlt
      have hc1 := (hbw.cell (p := ⟨bk, off + i, none⟩) hbk).trans hc1
      obtain ⟨x, hx⟩ : ∃ x, ws.getD i 0 = x := ⟨_, rfl⟩
      obtain ⟨y, hy⟩ : ∃ y, us.getD i 0 = y := ⟨_, rfl⟩
      rw [hx] at hc1
      have HX := Lib.hid hx
      have HY := Lib.hid hy
      have hwd := fun w0 h0 => word_any (.slice q us.length cap2) us i w0 h0 (by omega)
      rw [hy] at hwd
      have HWD := Lib.hid hwd
      have hx' : x < 18446744073709551616 := by rw [← HX.out]; exact getD_small HSA.out _
      have hy' : y < 18446744073709551616 := by rw [← HY.out]; exact getD_small HSB.out _
      obtain ⟨lo, co, hadd, hlc⟩ : ∃ lo co : Nat, (∀ w0, (callFunc 135 #[.int .u64 x, .int .u64 y, .int .u64 c]).run Tryz.prog w0 = .ok (.value (.tuple #[.int .u64 lo, .int .u64 co])) w0) ∧ Hid (lo + y + c = x + 18446744073709551616 * co ∧ lo < 18446744073709551616 ∧ co ≤ 1) :=
        ⟨_, _, fun w0 => sub64_run x y c hc w0, Lib.hid (by split <;> refine ⟨by omega, by omega, by omega⟩)⟩
      have HGW := Lib.hid (HG.out.below hbw)
      have hij : (i : Int) < (ws.length : Int) := by omega
      have hij3 : (0 : Int) ≤ (i : Int) := by omega
      have ho' : OwnW wr w.heap.size (.slice (some ⟨w.heap.size, 0, none⟩) L.length ws.length) L := by rw [hL]; exact ho
      clear hx hy hwd
      have hci := ho'.cellAt i (by rw [hL]; omega)
      have hfi : wr.frozen? ⟨w.heap.size, i, none⟩ = false := World.ownsRow.frozenAt ho' i
      obtain ⟨z, hz⟩ : ∃ z, L.getD i 0 = z := ⟨_, rfl⟩
      rw [hz] at hci
      have HO' := Lib.hid ho'
      have HBW := Lib.hid hbw
      have HSM := Lib.hid hsm
      have HVAL := Lib.hid hval
      clear ho ho' hbw hsm hval hz
      go_wp2
      have hk1 : ∀ u', (wr.setCell ⟨w.heap.size, i, none⟩ u').drew.cell? ⟨bk, off + i, none⟩ = some (.int .u64 (x : Nat)) := fun u' => ((((Below.refl w.heap.size wr).setCell (by simp) u').drew).cell (p := ⟨bk, off + i, none⟩) hbk).trans hc1
      have hk2 : ∀ u', WordsAt (wr.setCell ⟨w.heap.size, i, none⟩ u').drew (.slice q us.length cap2) us := fun u' => HG.out.below ((HBW.out.setCell (by simp) u').drew)
      have HK1 := Lib.hid hk1
      have HK2 := Lib.hid hk2
      clear hk1 hk2
      go_region_held3 (fun w' => w'.cell? ⟨bk, off + i, none⟩ = some (.int .u64 (x : Nat)) ∧ WordsAt w' (.slice q us.length cap2) us) (first | exact ⟨hc1, HGW.out⟩ | exact ⟨HK1.out _, HK2.out _⟩ | go_keep) (first | (go_at_call 105; refine (HWD.out _ (by assumption)).mono ?_; rintro e w3 ⟨rfl, rfl⟩))
      have HI2 : Hid (MinusI w ((wr.setCell ⟨w.heap.size, i, none⟩ (.int .u64 (lo : Nat))).drew) w.heap.size 0 ws us (i + 1) co) := by
        have h1 : OwnW (wr.setCell ⟨w.heap.size, i, none⟩ (.int .u64 (lo : Nat))) w.heap.size (.slice (some ⟨w.heap.size, 0, none⟩) L.length ws.length) (L.set i lo) := HO'.out.store i lo
        rw [hL] at h1
        obtain ⟨hq1, hq2, hq3⟩ := hlc.out
        refine Lib.hid ⟨L.set i lo, h1, by rw [List.length_set, hL], small_set HSM.out hq2, ?_, hq3, (HBW.out.setCell (by simp) _).drew⟩
        rw [valW_take_succ, valW_take_succ ws, valW_take_succ us, take_set_ge (Nat.le_refl i), getD_set_eq (by omega), HX.out, HY.out]
        have hv := HVAL.out
        have hp : 18446744073709551616 ^ (i + 1) * co = 18446744073709551616 ^ i * (18446744073709551616 * co) := by rw [Nat.pow_succ, Nat.mul_assoc]
        rw [hp]
        generalize 18446744073709551616 ^ i = P at hv ⊢
        have e1 : P * x + P * (18446744073709551616 * co) = P * (lo + y + c) := by rw [← Nat.mul_add, hq1]
        have e2 : P * (lo + y + c) = P * lo + P * y + P * c := by rw [Nat.mul_add, Nat.mul_add]
        omega
      clear hlc hci hfi HK1 HK2 hadd HI
      go_wp2
      go_roundw
      case rel => exact ⟨i + 1, co, rfl, by go_num, by omega, HI2⟩
      case measure => simp [intOf]; omega
    · have hie : i = ws.length := by omega
      subst hie
      obtain ⟨L, ho, hL, hsm, hval, hc, hbw⟩ := HI.out
      have ho' : OwnW wr w.heap.size (.slice (some ⟨w.heap.size, 0, none⟩) L.length ws.length) L := by rw [hL]; exact ho
      have hL' : L.take ws.length = L := List.take_of_length_le (by omega)
      have HV : Hid (trimW L = toW (a - b)) := by
        refine Lib.hid ?_
        unfold trimW
        rw [hL', List.take_of_length_le (Nat.le_refl _), List.take_of_length_le hlb, HA.out, HB.out] at hval
        have h1 := valW_lt hsm
        rw [hL] at h1
        have h2 := HBA.out
        have h3 : c = 0 := by
          have : c = 0 ∨ c = 1 := by omega
          rcases this with h | h
          · exact h
          · subst h; rw [Nat.mul_one] at hval; omega
        subst h3
        congr 1
        omega
      have htr := trimmed_any (some ⟨w.heap.size, 0, none⟩) ws.length L _ (ho'.at (by omega)) hsm
      rw [hL, HV.out] at htr
      have HTR := Lib.hid htr
      have HBW := Lib.hid hbw
      clear ho ho' hbw hsm hval htr HI hlt hL'
      go_wp2_with fail
      refine HTR.out.mono ?_
      rintro e w2 ⟨rfl, hwt, rfl⟩
      have HWT := Lib.hid hwt
      clear hwt HTR
      go_wp2
      go_ret
      exact ⟨_, rfl, HWT.out, HBW.out⟩
end Go.Proofs.YtedpafdfecofnaaGreatDoor
