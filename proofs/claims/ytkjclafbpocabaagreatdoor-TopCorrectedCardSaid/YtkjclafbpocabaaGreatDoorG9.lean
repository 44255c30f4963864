/-
  Contracts of the program's own functions (and their plain mathematics), on the way to the law: each for all arguments that its hypotheses let.
-/
import Derived.Test.YtkjclafbpocabaaGreatDoorG5
import Derived.WalkKit
import Derived.WalkSpells
import Derived.WalkLawsBesides
import Derived.Deep.QuietTactic
import Derived.BigQuiet
import Derived.Lib.Hide
import Derived.WalkSmall
import Derived.Maps.OwnSet
import Derived.Maps.RangeWalk
import Derived.Deep.RegionWith
import Derived.Deep.RegionHeld3
import Derived.OneCell
import Derived.RangeFuncBox
import Derived.Test.YtkjclafbpocabaaGreatDoorPlain
set_option linter.unusedSimpArgs false
set_option linter.unusedVariables false

/-! ## S22 -/
namespace Go.Proofs.YtkjclafbpocabaaGreatDoor
open Go.RowKit Go.Maps Go.Shelf Go.Sort
def W64 : Nat := 18446744073709551616
/-- The words of a number, the lowest one first, none too many. -/
def toW (n : Nat) : List Nat := if h : n = 0 then [] else n % 18446744073709551616 :: toW (n / 18446744073709551616)
termination_by n
decreasing_by exact Nat.div_lt_self (Nat.pos_of_ne_zero h) (by decide)
def valW : List Nat → Nat
  | [] => 0
  | x :: r => x + 18446744073709551616 * valW r
def trimW (ws : List Nat) : List Nat := toW (valW ws)
def WordsC (w : World) (b off : Nat) (ws : List Nat) : Prop := ∀ i, i < ws.length → w.cell? ⟨b, off + i, none⟩ = some (.int .u64 (ws.getD i 0 : Nat))
def WordsAt (w : World) (v : Value) (ws : List Nat) : Prop :=
  ws.length ≤ 1000000 ∧ ((ws = [] ∧ ∃ a cap, v = .slice a 0 cap) ∨ ∃ b off cap, v = .slice (some ⟨b, off, none⟩) ws.length cap ∧ ws.length ≤ cap ∧ b < w.heap.size ∧ WordsC w b off ws)
def Small (ws : List Nat) : Prop := ∀ x ∈ ws, x < 18446744073709551616

theorem WordsAt.below {w w' : World} {v : Value} {ws : List Nat} (h : WordsAt w v ws) (hw : Below w.heap.size w w') : WordsAt w' v ws := by
  obtain ⟨hl, h | ⟨b, off, cap, hv, hcap, hb, hc⟩⟩ := h
  · exact ⟨hl, .inl h⟩
  · exact ⟨hl, .inr ⟨b, off, cap, hv, hcap, Nat.lt_of_lt_of_le hb hw.size, fun i hi => (hw.cell (p := ⟨b, _, none⟩) hb).trans (hc i hi)⟩⟩
theorem WordsAt.shape {w : World} {v : Value} {ws : List Nat} (h : WordsAt w v ws) : ∃ a cap, v = .slice a ws.length cap := by
  obtain ⟨_, ⟨rfl, a, cap, rfl⟩ | ⟨b, off, cap, rfl, _⟩⟩ := h
  · exact ⟨a, cap, rfl⟩
  · exact ⟨_, cap, rfl⟩

theorem toW_zero : toW 0 = [] := by unfold toW; simp
theorem toW_pos {n : Nat} (h : n ≠ 0) : toW n = n % 18446744073709551616 :: toW (n / 18446744073709551616) := by rw [toW]; simp [h]
theorem valW_toW (n : Nat) : valW (toW n) = n := by
  induction n using Nat.strongRecOn with
  | ind n ih =>
    by_cases h : n = 0
    · subst h; rw [toW_zero]; rfl
    · rw [toW_pos h, valW, ih _ (Nat.div_lt_self (Nat.pos_of_ne_zero h) (by decide))]; omega
theorem toW_small (n : Nat) : Small (toW n) := by
  induction n using Nat.strongRecOn with
  | ind n ih =>
    by_cases h : n = 0
    · subst h; rw [toW_zero]; intro x hx; cases hx
    · rw [toW_pos h]
      intro x hx
      rcases List.mem_cons.1 hx with rfl | hx
      · omega
      · exact ih _ (Nat.div_lt_self (Nat.pos_of_ne_zero h) (by decide)) x hx
theorem valW_append (a b : List Nat) : valW (a ++ b) = valW a + 18446744073709551616 ^ a.length * valW b := by
  induction a with
  | nil => simp [valW]
  | cons x r ih => simp only [List.cons_append, valW, ih, List.length_cons, Nat.pow_succ]; rw [Nat.mul_add, Nat.add_assoc, ← Nat.mul_assoc, Nat.mul_comm (18446744073709551616 ^ r.length)]
theorem valW_lt {a : List Nat} (h : Small a) : valW a < 18446744073709551616 ^ a.length := by
  induction a with
  | nil => simp [valW]
  | cons x r ih =>
    have h1 := ih (fun y hy => h y (List.mem_cons_of_mem _ hy))
    have h2 := h x (List.mem_cons_self ..)
    simp only [valW, List.length_cons, Nat.pow_succ]
    omega
/-- Words whose last one is not 0 are those of their number. -/
theorem toW_valW {a : List Nat} (h : Small a) (hl : a = [] ∨ a.getD (a.length - 1) 0 ≠ 0) : toW (valW a) = a := by
  induction a with
  | nil => exact toW_zero
  | cons x r ih =>
    have h2 := h x (List.mem_cons_self ..)
    have hl' : (x :: r).getD ((x :: r).length - 1) 0 ≠ 0 := by rcases hl with hl | hl; exact absurd hl (by simp); exact hl
    have hr : r = [] ∨ r.getD (r.length - 1) 0 ≠ 0 := by
      cases r with
      | nil => exact .inl rfl
      | cons y s => right; simpa using hl'
    have h1 := ih (fun y hy => h y (List.mem_cons_of_mem _ hy)) hr
    have hne : x + 18446744073709551616 * valW r ≠ 0 := by
      cases r with
      | nil => simp at hl'; simp [valW]; exact hl'
      | cons y s =>
        intro e
        have : valW (y :: s) = 0 := by omega
        rw [this, toW_zero] at h1; cases h1
    rw [valW, toW_pos hne]
    congr 1
    · omega
    · rw [show (x + 18446744073709551616 * valW r) / 18446744073709551616 = valW r by omega]; exact h1
theorem trimW_toW (n : Nat) : trimW (toW n) = toW n := by unfold trimW; rw [valW_toW]
theorem valW_take_zero {ws : List Nat} {k : Nat} (hk : k < ws.length) (h : ws.getD k 0 = 0) : valW (ws.take (k + 1)) = valW (ws.take k) := by
  rw [List.take_succ_eq_append_getElem hk, valW_append]
  have : ws[k] = 0 := by simpa [List.getD_eq_getElem?_getD, hk] using h
  simp [this, valW]
theorem toW_len_le {n k : Nat} (h : n < 18446744073709551616 ^ k) : (toW n).length ≤ k := by
  induction k generalizing n with
  | zero => have : n = 0 := by simpa using h
            subst this; rw [toW_zero]; simp
  | succ k ih =>
    by_cases h0 : n = 0
    · subst h0; rw [toW_zero]; simp
    · rw [toW_pos h0]
      have : n / 18446744073709551616 < 18446744073709551616 ^ k := by rw [Nat.pow_succ] at h; exact Nat.div_lt_of_lt_mul (by rw [Nat.mul_comm]; exact h)
      have := ih this
      simp; omega

set_option maxHeartbeats 1000000 in
theorem word_any (v : Value) (ws : List Nat) (i : Nat) (w : World) (h : WordsAt w v ws) (hi : i ≤ 1000000000) :
    Calls Tryz.prog 201 #[v, .int .i64 i] w fun e w' => e = .returned (.int .u64 (ws.getD i 0 : Nat)) ∧ w' = w := by
  obtain ⟨hl, h⟩ := h
  obtain ⟨x, hx⟩ : ∃ x, ws.getD i 0 = x := ⟨_, rfl⟩
  by_cases hc : ws.length ≤ i
  · have hx0 : x = 0 := by rw [← hx]; simp [List.getD_eq_getElem?_getD, hc]
    rw [hx, hx0]
    have hv : ∃ a cap, v = .slice a ws.length cap := by
      rcases h with ⟨rfl, a, cap, rfl⟩ | ⟨b, off, cap, rfl, _⟩
      · exact ⟨a, cap, rfl⟩
      · exact ⟨_, cap, rfl⟩
    obtain ⟨a, cap, rfl⟩ := hv
    clear h hx hx0
    go_enter Tryz.func201, Tryz.ntmps201
    go_wp2
    go_ret
    exact ⟨rfl, rfl⟩
  · rcases h with ⟨rfl, _⟩ | ⟨b, off, cap, rfl, hcap, hb, hcells⟩
    · simp at hc
    · have hci := hcells i (by omega)
      rw [hx] at hci ⊢
      clear hcells hx
      go_enter Tryz.func201, Tryz.ntmps201
      go_wp2
      go_ret
      exact ⟨rfl, rfl⟩

theorem trim_take {ws : List Nat} {k : Nat} (hs : Small ws) (hk : k ≤ ws.length) (hv : valW (ws.take k) = valW ws) (hl : k = 0 ∨ 0 < k ∧ ws.getD (k - 1) 0 ≠ 0) : trimW ws = ws.take k := by
  unfold trimW
  rw [← hv]
  apply toW_valW (fun x hx => hs x (List.mem_of_mem_take hx))
  rcases hl with rfl | hl
  · exact .inl (by simp)
  · right
    rw [List.length_take, Nat.min_eq_left hk]
    simpa [List.getD_eq_getElem?_getD, List.getElem?_take, show k - 1 < k by omega] using hl.2
theorem trim_fin {w : World} {ws : List Nat} {b off cap k : Nat} (hl : ws.length ≤ 1000000) (hk : k ≤ ws.length) (hcap : ws.length ≤ cap) (hb : b < w.heap.size)
    (hc : ∀ i, i < ws.length → w.cell? ⟨b, off + i, none⟩ = some (.int .u64 (ws.getD i 0 : Nat))) (ht : trimW ws = ws.take k) :
    (trimW ws).length = k ∧ WordsAt w (.slice (some ⟨b, off, none⟩) k cap) (trimW ws) := by
  have e : (trimW ws).length = k := by rw [ht, List.length_take, Nat.min_eq_left hk]
  refine ⟨e, by omega, .inr ⟨b, off, cap, by rw [e], by omega, hb, fun i hi => ?_⟩⟩
  rw [hc i (by omega), ht]
  have : i < k := by omega
  simp [List.getD_eq_getElem?_getD, List.getElem?_take, this]
theorem getD_small {ws : List Nat} (h : Small ws) (i : Nat) : ws.getD i 0 < 18446744073709551616 := by
  rw [List.getD_eq_getElem?_getD]
  cases e : ws[i]? with
  | none => simp
  | some x => exact h x (List.mem_of_getElem? e)
def intOf : Value → Int
  | .int _ x => x
  | _ => 0
def sliceLen : Value → Nat
  | .slice _ n _ => n
  | _ => 0
set_option maxRecDepth 100000 in
set_option maxHeartbeats 1000000 in
/-- 'trimmed' gives the first words of what it is given: those of the number. -/
theorem trimmed_any (a : Option Addr) (cap : Nat) (ws : List Nat) (w : World) (h : WordsAt w (.slice a ws.length cap) ws) (hs : Small ws) :
    Calls Tryz.prog 229 #[.slice a ws.length cap] w fun e w' => e = .returned (.slice a (trimW ws).length cap) ∧ WordsAt w' (.slice a (trimW ws).length cap) (trimW ws) ∧ w' = w := by
  obtain ⟨hl, h⟩ := h
  rcases h with ⟨rfl, a', cap', hv⟩ | ⟨b, off, cap', hv, hcap, hb, hcells⟩
  · clear hv
    have e0 : trimW [] = [] := by unfold trimW; exact toW_zero
    rw [e0]
    have HS := Lib.hid hs
    clear hs
    go_enter Tryz.func229, Tryz.ntmps229
    go_wp2_with fail
    go_loopw [0] (fun s wr => wr = w ∧ s = .slice a 0 cap) (fun s _ => sliceLen s)
    case atStart => exact ⟨rfl, rfl⟩
    case round =>
      obtain ⟨rfl, rfl⟩ := hrel
      go_wp2
      go_ret
      exact ⟨rfl, ⟨by simp, .inl ⟨rfl, a, cap, rfl⟩⟩, rfl⟩
  · injection hv with e1 _ e2
    subst e1 e2
    have HC : Hid (∀ i, i < ws.length → w.cell? ⟨b, off + i, none⟩ = some (.int .u64 (ws.getD i 0 : Nat))) := Lib.hid hcells
    have HT : Hid (Small ws) := Lib.hid hs
    clear hcells hs
    go_enter Tryz.func229, Tryz.ntmps229
    go_wp2_with fail
    go_loopw [0] (fun s wr => wr = w ∧ ∃ k : Nat, s = .slice (some ⟨b, off, none⟩) k cap ∧ k ≤ ws.length ∧ Hid (valW (ws.take k) = valW ws)) (fun s _ => sliceLen s)
    case atStart => exact ⟨rfl, ws.length, rfl, Nat.le_refl _, Lib.hid (by rw [List.take_length])⟩
    case round =>
      obtain ⟨rfl, k, rfl, hk, HV⟩ := hrel
      cases k with
      | zero =>
        have ht : trimW ws = ws.take 0 := trim_take HT.out (by omega) HV.out (.inl rfl)
        obtain ⟨e1, e2⟩ := trim_fin hl hk hcap hb HC.out ht
        have HE := Lib.hid e1
        have HE2 := Lib.hid e2
        clear ht e1 e2
        go_wp2
        go_ret
        exact ⟨by rw [HE.out]; rfl, by rw [HE.out]; exact HE2.out, rfl⟩
      | succ j =>
        have hcj := HC.out j (by omega)
        cases hx : ws.getD j 0 with
        | zero =>
          rw [hx] at hcj
          have HV2 : Hid (valW (ws.take j) = valW ws) := Lib.hid (by rw [← valW_take_zero (by omega) hx]; exact HV.out)
          clear hx
          go_wp2
          exact ⟨⟨trivial, j, rfl, by omega, HV2⟩, by simp [sliceLen]⟩
        | succ y =>
          rw [hx] at hcj
          have ht : trimW ws = ws.take (j + 1) := trim_take HT.out hk HV.out (.inr ⟨by omega, by rw [Nat.add_sub_cancel, hx]; omega⟩)
          obtain ⟨e1, e2⟩ := trim_fin hl hk hcap hb HC.out ht
          have HE := Lib.hid e1
          have HE2 := Lib.hid e2
          clear ht e1 e2 hx
          go_wp2
          go_ret
          exact ⟨by rw [HE.out]; rfl, by rw [HE.out]; exact HE2.out, rfl⟩

def cmpN (a b : Nat) : Int := if a < b then -1 else if b < a then 1 else 0
theorem cmp64_any (x y : Nat) (hx : x < 18446744073709551616) (hy : y < 18446744073709551616) (w : World) :
    Calls Tryz.prog 230 #[.int .u64 x, .int .u64 y] w fun e w' => e = .returned (.int .i64 (cmpN x y)) ∧ w' = w := by
  rcases Nat.lt_trichotomy x y with h | h | h
  · have e : cmpN x y = -1 := by unfold cmpN; rw [if_pos h]
    rw [e]
    go_enter Tryz.func230, Tryz.ntmps230
    go_wp2
    go_ret
    exact ⟨rfl, rfl⟩
  · have e : cmpN x y = 0 := by unfold cmpN; rw [if_neg (by omega), if_neg (by omega)]
    rw [e]
    subst h
    go_enter Tryz.func230, Tryz.ntmps230
    go_wp2
    go_ret
    exact ⟨rfl, rfl⟩
  · have e : cmpN x y = 1 := by unfold cmpN; rw [if_neg (by omega), if_pos h]
    rw [e]
    go_enter Tryz.func230, Tryz.ntmps230
    go_wp2
    go_ret
    exact ⟨rfl, rfl⟩

theorem valW_split {ws : List Nat} {i : Nat} (hi : i < ws.length) : valW ws = valW (ws.take i) + 18446744073709551616 ^ i * (ws.getD i 0 + 18446744073709551616 * valW (ws.drop (i + 1))) := by
  have h1 : ws = ws.take i ++ (ws[i] :: ws.drop (i + 1)) := by rw [← List.drop_eq_getElem_cons hi, List.take_append_drop]
  have h2 : ws.getD i 0 = ws[i] := by simp [List.getD_eq_getElem?_getD, hi]
  rw [h2]
  conv => lhs; rw [h1]
  rw [valW_append, valW, List.length_take, Nat.min_eq_left (Nat.le_of_lt hi)]
theorem small_take {ws : List Nat} (h : Small ws) (i : Nat) : Small (ws.take i) := fun x hx => h x (List.mem_of_mem_take hx)
theorem valW_cmp {ws us : List Nat} {i : Nat} (hw : i < ws.length) (hu : i < us.length) (hs : Small ws) (hd : ws.drop (i + 1) = us.drop (i + 1)) (hlt : ws.getD i 0 < us.getD i 0) : valW ws < valW us := by
  rw [valW_split hw, valW_split hu, hd]
  have h1 := valW_lt (small_take hs i)
  rw [List.length_take, Nat.min_eq_left (Nat.le_of_lt hw)] at h1
  generalize 18446744073709551616 ^ i = P at h1 ⊢
  generalize valW (us.drop (i + 1)) = D
  generalize ws.getD i 0 = x at hlt ⊢
  obtain ⟨k, hk⟩ := Nat.exists_eq_add_of_lt hlt
  rw [hk, show x + k + 1 + 18446744073709551616 * D = (x + 18446744073709551616 * D) + (1 + k) by omega, Nat.mul_add P (x + 18446744073709551616 * D) (1 + k), Nat.mul_add P 1 k, Nat.mul_one]
  have : 0 ≤ P * k := Nat.zero_le _
  omega
/-- Words that are a number's: none too many. -/
def Trim (ws : List Nat) : Prop := ws = [] ∨ ws.getD (ws.length - 1) 0 ≠ 0
theorem trim_toW (n : Nat) : Trim (toW n) := by
  induction n using Nat.strongRecOn with
  | ind n ih =>
    by_cases h : n = 0
    · subst h; exact .inl toW_zero
    · right
      have h1 := ih _ (Nat.div_lt_self (Nat.pos_of_ne_zero h) (by decide : 1 < 18446744073709551616))
      rw [toW_pos h]
      rcases h1 with h1 | h1
      · rw [h1]
        have h2 := valW_toW (n / 18446744073709551616)
        rw [h1] at h2
        simp [valW] at h2
        simp; omega
      · generalize hr : toW (n / 18446744073709551616) = r at h1
        cases r with
        | nil => simp at h1
        | cons y s => simpa using h1
theorem pow_le_val {ws : List Nat} (ht : Trim ws) (h : ws ≠ []) : 18446744073709551616 ^ (ws.length - 1) ≤ valW ws := by
  have hp : 0 < ws.length := List.length_pos_iff.2 h
  have h2 := ht.resolve_left h
  rw [valW_split (show ws.length - 1 < ws.length by omega)]
  refine Nat.le_trans ?_ (Nat.le_add_left _ _)
  exact Nat.le_mul_of_pos_right _ (by omega)
theorem val_len {ws us : List Nat} (hs : Small ws) (ht : Trim us) (hl : ws.length < us.length) : valW ws < valW us := by
  have hne : us ≠ [] := by intro e; subst e; simp at hl
  refine Nat.lt_of_lt_of_le (valW_lt hs) (Nat.le_trans (Nat.pow_le_pow_right (by decide) (by omega)) (pow_le_val ht hne))

set_option maxRecDepth 100000 in
set_option maxHeartbeats 1000000 in
theorem compare_any (v u : Value) (a b : Nat) (w : World) (h : WordsAt w v (toW a)) (g : WordsAt w u (toW b)) :
    Calls Tryz.prog 202 #[v, u] w fun e w' => e = .returned (.int .i64 (cmpN a b)) ∧ Below w.heap.size w w' := by
  obtain ⟨ws, hws⟩ : ∃ ws, toW a = ws := ⟨_, rfl⟩
  obtain ⟨us, hus⟩ : ∃ us, toW b = us := ⟨_, rfl⟩
  have ha : valW ws = a := by rw [← hws, valW_toW]
  have hb : valW us = b := by rw [← hus, valW_toW]
  have hsa : Small ws := by rw [← hws]; exact toW_small a
  have hsb : Small us := by rw [← hus]; exact toW_small b
  have hta : Trim ws := by rw [← hws]; exact trim_toW a
  have htb : Trim us := by rw [← hus]; exact trim_toW b
  rw [hws] at h
  rw [hus] at g
  clear hws hus
  by_cases hlen : ws.length = us.length
  · obtain ⟨hl1, h⟩ := h
    obtain ⟨hl2, g⟩ := g
    have h' : ∃ p cap, v = .slice p ws.length cap ∧ ∀ i, i < ws.length → ∃ bk off, p = some ⟨bk, off, none⟩ ∧ ws.length ≤ cap ∧ bk < w.heap.size ∧ w.cell? ⟨bk, off + i, none⟩ = some (.int .u64 (ws.getD i 0 : Nat)) := by
      rcases h with ⟨rfl, a', cap', rfl⟩ | ⟨bk, off, cap, rfl, hcap, hbk, hcells⟩
      · exact ⟨a', cap', rfl, fun i hi => absurd hi (by simp)⟩
      · exact ⟨_, cap, rfl, fun i hi => ⟨bk, off, rfl, hcap, hbk, hcells i hi⟩⟩
    have g' : ∃ p cap, u = .slice p us.length cap ∧ ∀ i, i < us.length → ∃ bk off, p = some ⟨bk, off, none⟩ ∧ us.length ≤ cap ∧ bk < w.heap.size ∧ w.cell? ⟨bk, off + i, none⟩ = some (.int .u64 (us.getD i 0 : Nat)) := by
      rcases g with ⟨rfl, a', cap', rfl⟩ | ⟨bk, off, cap, rfl, hcap, hbk, hcells⟩
      · exact ⟨a', cap', rfl, fun i hi => absurd hi (by simp)⟩
      · exact ⟨_, cap, rfl, fun i hi => ⟨bk, off, rfl, hcap, hbk, hcells i hi⟩⟩
    obtain ⟨p, cap, rfl, hp⟩ := h'
    obtain ⟨q, cap2, rfl, hq⟩ := g'
    have HP := Lib.hid hp
    have HQ := Lib.hid hq
    have HA := Lib.hid ha
    have HB := Lib.hid hb
    have HSA := Lib.hid hsa
    have HSB := Lib.hid hsb
    have HL := Lib.hid hlen
    rw [← hlen]
    clear h g hp hq ha hb hsa hsb hta htb hlen
    go_enter Tryz.func202, Tryz.ntmps202
    go_wp2_with fail
    go_loopw [5] (fun s wr => Hid (Below w.heap.size w wr) ∧ ∃ (x : Int) (k : Nat), s = .int .i64 x ∧ x = (k : Int) - 1 ∧ k ≤ ws.length ∧ Hid (ws.drop k = us.drop k)) (fun s _ => (intOf s + 1).toNat)
    case atStart => exact ⟨Lib.hid (Below.refl _ _), _, ws.length, rfl, rfl, Nat.le_refl _, Lib.hid (by rw [List.drop_of_length_le (Nat.le_refl _), List.drop_of_length_le (by rw [HL.out]; exact Nat.le_refl _)])⟩
    case round =>
      obtain ⟨HBW, x, k, rfl, hx, hk, HD⟩ := hrel
      cases k with
      | zero =>
        have hx' : x = -1 := by omega
        subst hx'
        have HR : Hid (cmpN a b = 0) := Lib.hid (by
          have h1 : ws = us := by have := HD.out; simpa using this
          rw [← HA.out, ← HB.out, h1]; unfold cmpN; rw [if_neg (by omega), if_neg (by omega)])
        clear hx
        go_wp2
        go_ret
        exact ⟨by rw [HR.out]; rfl, HBW.out⟩
      | succ j =>
        have hx' : x = (j : Int) := by omega
        subst hx'
        obtain ⟨bk, off, rfl, hcap1, hbk, hc1⟩ := HP.out j (by omega)
        obtain ⟨bk2, off2, rfl, hcap2, hbk2, hc2⟩ := HQ.out j (by rw [← HL.out]; omega)
        obtain ⟨y, hy⟩ : ∃ y, ws.getD j 0 = y := ⟨_, rfl⟩
        obtain ⟨z, hz⟩ : ∃ z, us.getD j 0 = z := ⟨_, rfl⟩
        have hc1 := (HBW.out.cell (p := ⟨bk, off + j, none⟩) hbk).trans hc1
        have hc2 := (HBW.out.cell (p := ⟨bk2, off2 + j, none⟩) hbk2).trans hc2
        have hj0 : (j : Int) < (ws.length : Int) := by omega
        have hj1 : (0 : Int) ≤ (j : Int) := by omega
        rw [hy] at hc1
        rw [hz] at hc2
        have HY := Lib.hid hy
        have HZ := Lib.hid hz
        rw [← HL.out] at hcap2
        clear hx hy hz
        by_cases hyz : y = z
        · subst hyz
          have HD2 : Hid (ws.drop j = us.drop j) := Lib.hid (by
            rw [List.drop_eq_getElem_cons (by omega : j < ws.length), List.drop_eq_getElem_cons (by rw [← HL.out]; omega : j < us.length), HD.out]
            congr 1
            have e1 := HY.out
            have e2 := HZ.out
            rw [List.getD_eq_getElem?_getD, List.getElem?_eq_getElem (by omega : j < ws.length)] at e1
            rw [List.getD_eq_getElem?_getD, List.getElem?_eq_getElem (by rw [← HL.out]; omega : j < us.length)] at e2
            simp at e1 e2
            rw [e1, e2])
          go_wp2
          go_quiet (fail)
          go_wp2
          exact ⟨⟨Lib.hid (below_drewN HBW.out _), _, j, rfl, rfl, by omega, HD2⟩, by simp [intOf]⟩
        · have hy1 : y < 18446744073709551616 := by rw [← HY.out]; exact getD_small HSA.out _
          have hz1 : z < 18446744073709551616 := by rw [← HZ.out]; exact getD_small HSB.out _
          have HR : Hid (cmpN y z = cmpN a b) := Lib.hid (by
            rw [← HA.out, ← HB.out]
            have hjw : j < ws.length := by omega
            have hju : j < us.length := by rw [← HL.out]; omega
            rcases Nat.lt_or_ge y z with hl | hl
            · have := valW_cmp hjw hju HSA.out HD.out (by rw [HY.out, HZ.out]; exact hl)
              unfold cmpN; rw [if_pos hl, if_pos this]
            · have hl' : z < y := by omega
              have := valW_cmp hju hjw HSB.out HD.out.symm (by rw [HY.out, HZ.out]; exact hl')
              unfold cmpN; rw [if_neg (by omega), if_pos hl', if_neg (by omega), if_pos this])
          go_wp2
          go_quiet (fail)
          go_wp2_with fail
          have HB2 := Lib.hid (below_drewN HBW.out nq)
          have d1 := ((below_drewN (Below.refl _ wr) nq).cell (p := ⟨bk, off + j, none⟩) (by have := HBW.out.size; show bk < _; omega)).trans hc1
          have d2 := ((below_drewN (Below.refl _ wr) nq).cell (p := ⟨bk2, off2 + j, none⟩) (by have := HBW.out.size; show bk2 < _; omega)).trans hc2
          clear hc1 hc2
          generalize wr.drewN nq = wq at d1 d2 HB2 ⊢
          go_quiet (first | (go_at_call 230; refine Calls.quiet_of_same (cmp64_any y z hy1 hz1 _)))
          go_wp2
          go_ret
          exact ⟨by rw [← HR.out]; rfl, below_drewN HB2.out _⟩
  · obtain ⟨a', cap', rfl⟩ := h.shape
    obtain ⟨b', cap2, rfl⟩ := g.shape
    have hc : Lib.compareInt (ws.length : Int) (us.length : Int) = cmpN a b := by
      rcases Nat.lt_or_ge ws.length us.length with hl | hl
      · have := val_len hsa htb hl
        rw [ha, hb] at this
        unfold Lib.compareInt cmpN
        rw [if_pos (by omega), if_pos this]
      · have := val_len hsb hta (show us.length < ws.length by omega)
        rw [ha, hb] at this
        unfold Lib.compareInt cmpN
        rw [if_neg (by omega), if_pos (by omega), if_neg (by omega), if_pos this]
    have HC := Lib.hid hc
    have hne : ¬ (ws.length : Int) = us.length := by omega
    clear h g hc ha hb hsa hsb hta htb
    go_enter Tryz.func202, Tryz.ntmps202
    go_wp2_with fail
    refine (Tryz.cmp_Compare_int _ _ _).mono ?_
    rintro e w' ⟨rfl, rfl⟩
    rw [HC.out]
    go_wp2
    go_ret
    exact ⟨rfl, Below.refl _ _⟩
end Go.Proofs.YtkjclafbpocabaaGreatDoor
