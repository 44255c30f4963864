/-
  Contracts of the program's own functions (and their plain mathematics), on the way to the law: each for all arguments that its hypotheses let.
-/
import Derived.Test.YtkjclafbpocabaaGreatDoorG15
import Derived.Test.YtkjclafbpocabaaGreatDoorG12
import Derived.Test.YtkjclafbpocabaaGreatDoorG7
import Derived.WalkKit
import Derived.WalkSpells
import Derived.WalkLawsBesides
import Derived.Deep.QuietTactic
import Derived.BigQuiet
import Derived.Lib.Hide
import Derived.WalkSmall
import Derived.Maps.OwnSet
import Derived.Maps.RangeWalk
import Derived.Deep.RegionWith
import Derived.Deep.RegionHeld3
import Derived.OneCell
import Derived.RangeFuncBox
import Derived.Test.YtkjclafbpocabaaGreatDoorPlain
import Derived.StillTailTactics
import Derived.Laws.Externs
import Derived.KernelRfl
import Derived.Laws.StructEq
set_option linter.unusedSimpArgs false
set_option linter.unusedVariables false

/-! ## T2 -/
namespace Go.Proofs.YtkjclafbpocabaaGreatDoor
theorem isq_mono {a b : Nat} (h : a ≤ b) : isq a ≤ isq b := by
  have h1 := (isq_spec a).1
  have h2 := (isq_spec b).2
  apply Classical.byContradiction
  intro hc
  have := Nat.mul_le_mul (show isq b + 1 ≤ isq a by omega) (show isq b + 1 ≤ isq a by omega)
  omega
theorem isq_le {a b : Nat} (h : a ≤ b * b) : isq a ≤ b := by
  have h1 := (isq_spec a).1
  apply Classical.byContradiction
  intro hc
  have := Nat.mul_le_mul (show b + 1 ≤ isq a by omega) (show b + 1 ≤ isq a by omega)
  have e : (b + 1) * (b + 1) = b * b + 2 * b + 1 := by grind
  omega
def qD (D : Nat) (n : Nat) : Int := (isq (n * 4 ^ D) : Nat)
def wD (n : Nat) : Int := (isq n + 1 : Nat)
theorem appr_D (D : Nat) : Tw.Appr (2 ^ D) (qD D) wD := by
  have hx : (1 : Int) ≤ 2 ^ D := Tw.pow_pos' (by decide) D
  have e4 : ∀ n : Nat, ((n * 4 ^ D : Nat) : Int) = (n : Int) * (2 ^ D * 2 ^ D) := fun n => by
    rw [Int.natCast_mul, Int.natCast_pow, ← Int.mul_pow]; rfl
  have hlo : ∀ n : Nat, qD D n * qD D n ≤ (n : Int) * (2 ^ D * 2 ^ D) := fun n => by
    rw [← e4]
    have := (isq_spec (n * 4 ^ D)).1
    unfold qD
    rw [← Int.natCast_mul]
    exact Int.ofNat_le.2 this
  have hup : ∀ n : Nat, (n : Int) * (2 ^ D * 2 ^ D) < (qD D n + 1) * (qD D n + 1) := fun n => by
    rw [← e4]
    have := (isq_spec (n * 4 ^ D)).2
    unfold qD
    exact_mod_cast this
  have hw1 : ∀ n, 1 ≤ wD n := fun n => by unfold wD; omega
  have hn : ∀ n : Nat, (n : Int) ≤ wD n * wD n := fun n => by
    have := (isq_spec n).2
    unfold wD
    rw [← Int.natCast_mul]
    exact Int.ofNat_le.2 (by omega)
  have hq0 : ∀ n, 0 ≤ qD D n := fun n => Int.natCast_nonneg _
  have hqw : ∀ n, qD D n ≤ wD n * 2 ^ D := fun n => by
    apply Classical.byContradiction
    intro hc
    have hw := hw1 n
    have h1 : wD n * 2 ^ D < qD D n := by omega
    have h0 : 0 ≤ wD n * 2 ^ D := Int.mul_nonneg (by omega) (by omega)
    have h2 : (wD n * 2 ^ D) * (wD n * 2 ^ D) < qD D n * qD D n := by
      have a1 := Int.mul_lt_mul_of_pos_right h1 (show 0 < qD D n by omega)
      have a2 := Int.mul_le_mul_of_nonneg_left (show wD n * 2 ^ D ≤ qD D n by omega) h0
      omega
    have h3 := hlo n
    have h4 := Int.mul_le_mul_of_nonneg_right (hn n) (show (0 : Int) ≤ 2 ^ D * 2 ^ D from Int.mul_nonneg (by omega) (by omega))
    have e : (wD n * 2 ^ D) * (wD n * 2 ^ D) = wD n * wD n * (2 ^ D * 2 ^ D) := by grind
    omega
  refine ⟨hx, hw1, hq0, hqw, hlo, fun n => ?_, hn⟩
  have h1 := hup n
  have h2 := hqw n
  have e : (qD D n + 1) * (qD D n + 1) = qD D n * qD D n + 2 * qD D n + 1 := by grind
  omega
theorem appr_up (D : Nat) (n : Nat) : (n : Int) * (2 ^ D * 2 ^ D) < (qD D n + 1) * (qD D n + 1) := by
  have e4 : ((n * 4 ^ D : Nat) : Int) = (n : Int) * (2 ^ D * 2 ^ D) := by
    rw [Int.natCast_mul, Int.natCast_pow, ← Int.mul_pow]; rfl
  rw [← e4]
  have := (isq_spec (n * 4 ^ D)).2
  unfold qD
  exact_mod_cast this
/-- At most so many different roots up to 1000: their sum is not small. -/
theorem roots_far (D k : Nat) (T : Nat) (ts : List (Int × Nat)) (hne : ts ≠ []) (hlen : ts.length ≤ k + 1) (hk : k ≤ 7) (hr : ∀ t ∈ ts, Tw.SqFr t.2 ∧ t.2 ≤ 1000)
    (hn : (ts.map (·.2)).Nodup) (hc : ∀ t ∈ ts, t.1 ≠ 0) (hT : Tw.sumA ts ≤ (T : Int)) (hX : 153 * (1001 * T) ^ (2 ^ k) < 2 ^ D) :
    (T : Int) < ((Tw.sumQ (qD D) ts).natAbs : Int) := by
  have hT1 : 1 ≤ T := by
    match ts, hne with
    | t :: ts, _ =>
      have h1 := hc t (by simp)
      have h2 := Tw.sumA_nonneg ts
      have e : Tw.sumA (t :: ts) = (t.1.natAbs : Int) + Tw.sumA ts := rfl
      omega
  refine Tw.sums_far (appr_D D) (appr_up D) 1000 32 1001 T k ts hne hlen hr hn hc (fun n hn => ?_) (fun a b ha hb => ?_) (by decide) hT (by omega) ?_
  · have := isq_le (show n ≤ 31 * 31 + 39 by omega |> fun h => show n ≤ 32 * 32 by omega)
    have h2 : isq n ≤ 31 := by
      have h1 := (isq_spec n).1
      apply Classical.byContradiction
      intro hc
      have := Nat.mul_le_mul (show 32 ≤ isq n by omega) (show 32 ≤ isq n by omega)
      omega
    unfold wD; omega
  · have h1 : a * b ≤ 1000 * 1000 := Nat.mul_le_mul ha hb
    have := isq_le h1
    unfold wD; omega
  · have hX' : ((153 * (1001 * T) ^ (2 ^ k) : Nat) : Int) < ((2 ^ D : Nat) : Int) := Int.ofNat_lt.2 hX
    rw [Int.natCast_mul, Int.natCast_pow, Int.natCast_mul, Int.natCast_pow] at hX'
    refine Int.lt_of_le_of_lt ?_ hX'
    refine Int.mul_le_mul_of_nonneg_right ?_ (by
      exact Int.le_trans (by decide) (Tw.pow_pos' (X := 1001 * (T : Int)) (by omega) (2 ^ k)))
    have : (k : Int) * (k + 1) ≤ 7 * (7 + 1) := Int.mul_le_mul (by omega) (by omega) (by omega) (by omega)
    omega
theorem num_up (M e k D : Nat) (h1 : 1001 * M ≤ 2 ^ e) (h2 : 8 + e * 2 ^ k ≤ D) : 153 * (1001 * M) ^ (2 ^ k) < 2 ^ D := by
  have h3 := Nat.mul_le_mul_left 153 (Nat.pow_le_pow_left h1 (2 ^ k))
  rw [← Nat.pow_mul] at h3
  have h4 : 153 * 2 ^ (e * 2 ^ k) < 2 ^ 8 * 2 ^ (e * 2 ^ k) := Nat.mul_lt_mul_of_pos_right (by decide) (Nat.pow_pos (by decide))
  rw [← Nat.pow_add] at h4
  have h5 := Nat.pow_le_pow_right (show 0 < 2 by decide) h2
  omega
theorem num_37 : 153 * (1001 * 2 ^ 37) ^ (2 ^ 7) < 2 ^ 6656 := num_up (2 ^ 37) 47 7 6656 (by decide) (by decide)
end Go.Proofs.YtkjclafbpocabaaGreatDoor

/-! ## S16 -/
namespace Go.Proofs.YtkjclafbpocabaaGreatDoor
open Go.RowKit Go.Maps Go.Shelf Go.Sort
/-- What the texts ask of the world: the table of powers of ten, and a variable of package bytealg. -/
def WOk (w : World) : Prop := Lib.TabIs Tryz.prog w "internal/strconv.uint64pow10" .u64 Lib.pow10Tab ∧ True ∧ 5 ≤ w.heap.size
theorem gPow : Tryz.prog.globalNamed "internal/strconv.uint64pow10" = some 2 := by kernel_rfl
theorem WOk.below {w w' : World} (h : WOk w) (hw : Below w.heap.size w w') : WOk w' := by
  obtain ⟨h1, _, h3⟩ := h
  refine ⟨?_, trivial, Nat.le_trans h3 hw.size⟩
  exact var?_below hw gPow (by omega) h1

abbrev str (l : List UInt8) : Value := .string ⟨l.toArray⟩
def termB (t : Int × Int) : List UInt8 := if t.2 = 1 then Lib.itoa t.1 else (if t.1 = 1 ∨ t.1 = -1 then Lib.trimSuffix (Lib.itoa t.1) [49] else Lib.itoa t.1) ++ [114] ++ Lib.itoa t.2
def StrTo (l : List UInt8) (w : World) (e : Ending) (w' : World) : Prop := e = .returned (str l) ∧ Below w.heap.size w w'

theorem ret_str {a b : List UInt8} (h : a = b) : Ending.returned (str a) = .returned (str b) := by rw [h]
theorem cat_str (a b : List UInt8) : (⟨a.toArray⟩ : ByteArray) ++ ⟨b.toArray⟩ = ⟨(a ++ b).toArray⟩ := by
  apply ByteArray.ext
  simp [ByteArray.data_append]
theorem cat3 (a b c : List UInt8) {d : List UInt8} (h : d = a ++ b ++ c) : (⟨a.toArray⟩ : ByteArray) ++ ⟨b.toArray⟩ ++ ⟨c.toArray⟩ = ⟨d.toArray⟩ := by rw [h, cat_str, cat_str]
theorem ret_bytes {a b : ByteArray} (h : a = b) : Ending.returned (.string a) = .returned (.string b) := by rw [h]
theorem dec_len (k : Nat) : ∀ u : Nat, u < 10 ^ (k + 1) → (Lib.decDigits u).length ≤ k + 1 := by
  induction k with
  | zero => intro u hu; rw [Lib.decDigits]; simp at hu; rw [dif_pos hu]; simp
  | succ k ih =>
    intro u hu
    rw [Lib.decDigits]
    split
    · simp
    · rw [List.length_append]
      have : u / 10 < 10 ^ (k + 1) := by rw [Nat.div_lt_iff_lt_mul (by omega)]; rw [Nat.pow_succ] at hu; exact hu
      have := ih _ this
      simp; omega
theorem itoa_len (n : Int) (h1 : -1000000 < n) (h2 : n < 1000000) : (Lib.itoa n).length ≤ 7 := by
  unfold Lib.itoa
  split
  · have := dec_len 5 n.natAbs (by omega)
    simp; omega
  · have := dec_len 5 n.toNat (by omega)
    omega
theorem below_growT (w : World) (k : Nat) (os : Array Obj) : Below w.heap.size w (grow (w.drewN k) os) :=
  ⟨rfl, rfl, rfl, by simp [grow], fun i hi => heap_grow_old _ _ (by simpa using hi)⟩
theorem itoa_any (n : Int) (L : List UInt8) (hL : Hid (Lib.itoa n = L)) (h0 : -1000000 < n) (h1 : n < 1000000) (w : World) (hw : WOk w) : Calls Tryz.prog 129 #[.int .i64 n] w (StrTo L w) := by
  refine (Tryz.strconv_Itoa n (by omega) (by omega) w hw.1).mono ?_
  rintro e w' ⟨rfl, k, os, rfl⟩
  rw [hL.out]
  exact ⟨rfl, below_growT _ _ _⟩
theorem trimSuffix_len (l p : List UInt8) : (Lib.trimSuffix l p).length ≤ l.length := by
  unfold Lib.trimSuffix; split
  · simp
  · exact Nat.le_refl _
theorem trim_any (L P M : List UInt8) (hM : Hid (Lib.trimSuffix L P = M)) (h : L.length ≤ 1000) (w : World) : Calls Tryz.prog 238 #[.string ⟨L.toArray⟩, .string ⟨P.toArray⟩] w fun e w' => e = .returned (str M) ∧ w' = w := by
  refine (Tryz.strings_TrimSuffix ⟨L.toArray⟩ ⟨P.toArray⟩ w ?_).mono ?_
  · show L.toArray.size ≤ _; simp; omega
  · rintro e w' ⟨rfl, rfl⟩
    exact ⟨by rw [← hM.out], rfl⟩

set_option maxHeartbeats 1000000 in
theorem termText_any (c r : Int) (hc1 : -1000000 < c) (hc2 : c < 1000000) (hr1 : -1000000 < r) (hr2 : r < 1000000) (w : World) (hw : WOk w) :
    Calls Tryz.prog 217 #[.agg #[.int .i64 c, .int .i64 r]] w (StrTo (termB (c, r)) w) := by
  have HW := Lib.hid hw
  clear hw
  obtain ⟨L, hL⟩ : ∃ L, Lib.itoa c = L := ⟨_, rfl⟩
  obtain ⟨R, hR⟩ : ∃ R, Lib.itoa r = R := ⟨_, rfl⟩
  have hLl : L.length ≤ 7 := by rw [← hL]; exact itoa_len c hc1 hc2
  have hRl : R.length ≤ 7 := by rw [← hR]; exact itoa_len r hr1 hr2
  by_cases hr : r = 1
  · have hr3 : (r == 1) = true := by simpa using hr
    have HT : Hid (termB (c, r) = L) := Lib.hid (by simp [termB, hr, hL])
    have HL := Lib.hid hL
    clear hr hL hR
    go_enter Tryz.func217, Tryz.ntmps217
    go_wp2_with fail
    refine (itoa_any c L HL hc1 hc2 _ (HW.out.below ((Below.refl _ _).alloc (Nat.le_refl _) _))).mono ?_
    rintro e w1 ⟨rfl, hb⟩
    obtain ⟨h0, h1⟩ := box2 hb
    have HB := Lib.hid hb
    clear hb
    go_wp2
    go_ret
    exact ⟨ret_str HT.out.symm, ((Below.refl _ _).alloc (Nat.le_refl _) _).trans (HB.out.mono (by simp))⟩
  · have hr3 : (r == 1) = false := by simpa using hr
    have hcc : c = 1 ∨ c = -1 ∨ (¬ c = 1 ∧ ¬ c = -1) := by omega
    obtain ⟨M, hM⟩ : ∃ M, Lib.trimSuffix L [49] = M := ⟨_, rfl⟩
    have hMl : M.length ≤ 7 := by rw [← hM]; exact Nat.le_trans (trimSuffix_len _ _) hLl
    have HL := Lib.hid hL
    have HR := Lib.hid hR
    have HM := Lib.hid hM
    rcases hcc with hc | hc | hc
    · have h1c : (c == 1) = true := by simpa using hc
      have HT : Hid (termB (c, r) = M ++ [114] ++ R) := Lib.hid (by unfold termB; dsimp only; rw [if_neg hr, if_pos (.inl hc), hL, hR, hM])
      clear hc hr hL hR hM
      go_enter Tryz.func217, Tryz.ntmps217
      go_wp2_with fail
      refine (itoa_any c L HL hc1 hc2 _ (HW.out.below ((Below.refl _ _).alloc (Nat.le_refl _) _))).mono ?_
      rintro e w1 ⟨rfl, hb⟩
      obtain ⟨h0, h1⟩ := box2 hb
      have HB : Hid (Below w.heap.size w w1) := Lib.hid (((Below.refl _ _).alloc (Nat.le_refl _) _).trans (hb.mono (by simp)))
      clear hb
      go_wp2_with fail
      refine (trim_any L [49] M HM (by omega) _).mono ?_
      rintro e w2 ⟨rfl, rfl⟩
      go_wp2_with fail
      refine (itoa_any r R HR hr1 hr2 _ (HW.out.below HB.out)).mono ?_
      rintro e w3 ⟨rfl, hb⟩
      have HB3 := Lib.hid (HB.out.trans (hb.mono HB.out.size))
      clear hb
      go_wp2
      go_ret
      exact ⟨ret_bytes (cat3 _ [114] R HT.out), HB3.out⟩
    · have h1c : (c == 1) = false := by rw [beq_eq_false_iff_ne]; omega
      have h2c : (c == -1) = true := by simpa using hc
      have HT : Hid (termB (c, r) = M ++ [114] ++ R) := Lib.hid (by unfold termB; dsimp only; rw [if_neg hr, if_pos (.inr hc), hL, hR, hM])
      clear hc hr hL hR hM
      go_enter Tryz.func217, Tryz.ntmps217
      go_wp2_with fail
      refine (itoa_any c L HL hc1 hc2 _ (HW.out.below ((Below.refl _ _).alloc (Nat.le_refl _) _))).mono ?_
      rintro e w1 ⟨rfl, hb⟩
      obtain ⟨h0, h1⟩ := box2 hb
      have HB : Hid (Below w.heap.size w w1) := Lib.hid (((Below.refl _ _).alloc (Nat.le_refl _) _).trans (hb.mono (by simp)))
      clear hb
      go_wp2_with fail
      refine (trim_any L [49] M HM (by omega) _).mono ?_
      rintro e w2 ⟨rfl, rfl⟩
      go_wp2_with fail
      refine (itoa_any r R HR hr1 hr2 _ (HW.out.below HB.out)).mono ?_
      rintro e w3 ⟨rfl, hb⟩
      have HB3 := Lib.hid (HB.out.trans (hb.mono HB.out.size))
      clear hb
      go_wp2
      go_ret
      exact ⟨ret_bytes (cat3 _ [114] R HT.out), HB3.out⟩
    · have h1c : (c == 1) = false := by rw [beq_eq_false_iff_ne]; omega
      have h2c : (c == -1) = false := by rw [beq_eq_false_iff_ne]; omega
      have HT : Hid (termB (c, r) = L ++ [114] ++ R) := Lib.hid (by unfold termB; dsimp only; rw [if_neg hr, if_neg (by omega), hL, hR])
      clear hc hr hL hR hM
      go_enter Tryz.func217, Tryz.ntmps217
      go_wp2_with fail
      refine (itoa_any c L HL hc1 hc2 _ (HW.out.below ((Below.refl _ _).alloc (Nat.le_refl _) _))).mono ?_
      rintro e w1 ⟨rfl, hb⟩
      obtain ⟨h0, h1⟩ := box2 hb
      have HB : Hid (Below w.heap.size w w1) := Lib.hid (((Below.refl _ _).alloc (Nat.le_refl _) _).trans (hb.mono (by simp)))
      clear hb
      go_wp2_with fail
      refine (itoa_any r R HR hr1 hr2 _ (HW.out.below HB.out)).mono ?_
      rintro e w3 ⟨rfl, hb⟩
      have HB3 := Lib.hid (HB.out.trans (hb.mono HB.out.size))
      clear hb
      go_wp2
      go_ret
      exact ⟨ret_bytes (cat3 _ [114] R HT.out), HB3.out⟩
end Go.Proofs.YtkjclafbpocabaaGreatDoor

/-! ## S17 -/
namespace Go.Proofs.YtkjclafbpocabaaGreatDoor
open Go.RowKit Go.Maps Go.Shelf Go.Sort
def partB (i : Nat) (t : Int × Int) : List UInt8 := (if 0 < i ∧ 0 < t.1 then [43] else []) ++ termB t
def bodyB (l : List (Int × Int)) : List UInt8 := (l.mapIdx partB).flatten
theorem bodyB_succ (l : List (Int × Int)) (k : Nat) (h : k < l.length) : bodyB (l.take (k + 1)) = bodyB (l.take k) ++ partB k (l[k]?.getD (0, 0)) := by
  unfold bodyB
  rw [List.take_succ_eq_append_getElem h, List.mapIdx_concat, List.flatten_append]
  simp [Nat.min_eq_left (Nat.le_of_lt h), h]
def textB (d : Int) (l : List (Int × Int)) : List UInt8 := if l.length = 0 then [48] else if d = 1 then bodyB l else (if 1 < l.length then [40] ++ bodyB l ++ [41] else bodyB l) ++ [47] ++ Lib.itoa d
theorem termB_len (t : Int × Int) (hc1 : -1000000 < t.1) (hc2 : t.1 < 1000000) (hr1 : -1000000 < t.2) (hr2 : t.2 < 1000000) : (termB t).length ≤ 15 := by
  have h1 := itoa_len t.1 hc1 hc2
  have h2 := itoa_len t.2 hr1 hr2
  have h3 := trimSuffix_len (Lib.itoa t.1) [49]
  unfold termB
  split
  · omega
  · split <;> simp <;> omega

set_option maxRecDepth 100000 in
set_option maxHeartbeats 2000000 in
theorem text_any (d : Int) (v : Value) (l : List (Int × Int)) (w : World) (ht : TermsAt w v l) (hw : WOk w) (hl : l.length ≤ 4) (hd1 : 0 < d) (hd2 : d < 1000000) (hb : Hid (∀ t ∈ l, (-1000000 < t.1 ∧ t.1 < 1000000) ∧ (-1000000 < t.2 ∧ t.2 < 1000000))) :
    Calls Tryz.prog 175 #[.agg #[.int .i64 d, v]] w (StrTo (textB d l) w) := by
  have HW := Lib.hid hw
  obtain ⟨a, cap, rfl, px⟩ := ht.placed
  have PX := Lib.hid px
  clear ht px hw
  by_cases hl0 : l.length = 0
  · have h7 : ((l.length : Int) == 0) = true := by simp; exact List.length_eq_zero_iff.1 hl0
    have HT : Hid (textB d l = [48]) := Lib.hid (by unfold textB; rw [if_pos hl0])
    clear hl0
    go_enter Tryz.func175, Tryz.ntmps175
    go_wp2
    go_ret
    exact ⟨ret_str HT.out.symm, (Below.refl _ _).alloc (Nat.le_refl _) _⟩
  · have h7 : ((l.length : Int) == 0) = false := by rw [beq_eq_false_iff_ne]; omega
    obtain ⟨D, hD⟩ : ∃ D, Lib.itoa d = D := ⟨_, rfl⟩
    have hDl : D.length ≤ 7 := by rw [← hD]; exact itoa_len d (by omega) hd2
    obtain ⟨T, hT⟩ : ∃ T, bodyB l = T := ⟨_, rfl⟩
    have HTX : Hid (textB d l = if d = 1 then T else (if 1 < l.length then [40] ++ T ++ [41] else T) ++ [47] ++ D) := Lib.hid (by unfold textB; rw [if_neg hl0, hT, hD])
    have HL0 := Lib.hid hl0
    have HD := Lib.hid hD
    have HTT := Lib.hid hT
    clear hl0 hD hT
    go_enter Tryz.func175, Tryz.ntmps175
    go_wp2
    have HBX : Hid (Two (w.alloc (.cells #[.int .i64 d, .slice a l.length cap] 34)) w.heap.size (.int .i64 d) (.slice a l.length cap) 34) := Lib.hid (Two.new _ _ _ _)
    go_loopw [3, 4, 13] (fun s _ i wr => ∃ k : Nat, k ≤ l.length ∧ i = .int .i64 k ∧ (∃ S : List UInt8, s = .string ⟨S.toArray⟩ ∧ S.length ≤ 16 * k ∧ Hid (S = bodyB (l.take k))) ∧ Hid (Below w.heap.size w wr ∧ Two wr w.heap.size (.int .i64 d) (.slice a l.length cap) 34)) (fun _ _ i _ => l.length - (intOf i).toNat)
    case atStart => exact ⟨0, Nat.zero_le _, rfl, ⟨[], rfl, by simp, Lib.hid rfl⟩, Lib.hid ⟨(Below.refl _ _).alloc (Nat.le_refl _) _, HBX.out⟩⟩
    case round =>
      obtain ⟨k, hk, rfl, ⟨S, rfl, hS, HS⟩, HB⟩ := hrel
      by_cases hlt : k < l.length
      · obtain ⟨b, off, rfl, hbl, hc1, hc2⟩ := PX.out k hlt
        replace hc1 := (HB.out.1.cell (p := ⟨b, _, none⟩) hbl).trans hc1
        replace hc2 := (HB.out.1.cell (p := ⟨b, _, none⟩) hbl).trans hc2
        have hbd := hb.out (l[k]?.getD (0, 0)) (by simp [hlt])
        have hsu := bodyB_succ l k hlt
        obtain ⟨c, r, hel⟩ : ∃ c r, l[k]?.getD (0, 0) = (c, r) := ⟨_, _, rfl⟩
        rw [hel] at hc1 hc2 hbd hsu
        have htl := termB_len (c, r) hbd.1.1 hbd.1.2 hbd.2.1 hbd.2.2
        dsimp only at hc1 hc2 hbd
        obtain ⟨⟨b1, b2⟩, b3, b4⟩ := hbd
        have hcall := termText_any c r b1 b2 b3 b4
        obtain ⟨X, hX⟩ : ∃ X, termB (c, r) = X := ⟨_, rfl⟩
        rw [hX] at htl hcall
        have HSU : Hid (bodyB (l.take (k + 1)) = S ++ ((if 0 < k ∧ 0 < c then [43] else []) ++ X)) := Lib.hid (by rw [hsu, ← HS.out]; unfold partB; rw [hX])
        have HCALL := Lib.hid hcall
        have hwsz := HB.out.2.lt
        have HK : Hid (∀ o, WOk (wr.alloc o)) := Lib.hid (fun o => HW.out.below (HB.out.1.alloc HB.out.1.size o))
        clear hel hX hsu hcall
        by_cases hk0 : 0 < (k : Int)
        · by_cases hc0 : 0 < c
          · have HSU2 : Hid (bodyB (l.take (k + 1)) = S ++ [43] ++ X) := Lib.hid (by rw [HSU.out, if_pos ⟨by omega, hc0⟩]; simp)
            go_wp2_with fail
            refine (HCALL.out _ (HK.out _)).mono ?_
            rintro e w2 ⟨rfl, hb2⟩
            have HB2 : Hid (Below w.heap.size w w2 ∧ Two w2 w.heap.size (.int .i64 d) (.slice (some ⟨b, off, none⟩) l.length cap) 34) := Lib.hid ⟨(HB.out.1.alloc HB.out.1.size _).trans (hb2.mono (by have := HB.out.1.size; simp; omega)), (HB.out.2.alloc _).below hb2 (by simp; omega)⟩
            clear hb2
            go_wp2
            go_roundw
            case rel => exact ⟨k + 1, by omega, by go_num, ⟨S ++ [43] ++ X, congrArg Value.string (cat3 S [43] X rfl), by simp; omega, Lib.hid HSU2.out.symm⟩, HB2⟩
            case measure => simp [intOf]; omega
          · have hdc : decide (0 < c) = false := by simpa using hc0
            have HSU2 : Hid (bodyB (l.take (k + 1)) = S ++ X) := Lib.hid (by rw [HSU.out, if_neg (by omega)]; simp)
            go_wp2_with fail
            refine (HCALL.out _ (HK.out _)).mono ?_
            rintro e w2 ⟨rfl, hb2⟩
            have HB2 : Hid (Below w.heap.size w w2 ∧ Two w2 w.heap.size (.int .i64 d) (.slice (some ⟨b, off, none⟩) l.length cap) 34) := Lib.hid ⟨(HB.out.1.alloc HB.out.1.size _).trans (hb2.mono (by have := HB.out.1.size; simp; omega)), (HB.out.2.alloc _).below hb2 (by simp; omega)⟩
            clear hb2
            go_wp2
            go_roundw
            case rel => exact ⟨k + 1, by omega, by go_num, ⟨S ++ X, congrArg Value.string (cat_str S X), by simp; omega, Lib.hid HSU2.out.symm⟩, HB2⟩
            case measure => simp [intOf]; omega
        · have hdk : decide (0 < (k : Int)) = false := by simpa using hk0
          have HSU2 : Hid (bodyB (l.take (k + 1)) = S ++ X) := Lib.hid (by rw [HSU.out, if_neg (by omega)]; simp)
          go_wp2_with fail
          refine (HCALL.out _ (HK.out _)).mono ?_
          rintro e w2 ⟨rfl, hb2⟩
          have HB2 : Hid (Below w.heap.size w w2 ∧ Two w2 w.heap.size (.int .i64 d) (.slice (some ⟨b, off, none⟩) l.length cap) 34) := Lib.hid ⟨(HB.out.1.alloc HB.out.1.size _).trans (hb2.mono (by have := HB.out.1.size; simp; omega)), (HB.out.2.alloc _).below hb2 (by simp; omega)⟩
          clear hb2
          go_wp2
          go_roundw
          case rel => exact ⟨k + 1, by omega, by go_num, ⟨S ++ X, congrArg Value.string (cat_str S X), by simp; omega, Lib.hid HSU2.out.symm⟩, HB2⟩
          case measure => simp [intOf]; omega
      · have hk : k = l.length := by omega
        have HE : Hid (S = T) := Lib.hid (by have := HS.out; rw [hk, List.take_length, HTT.out] at this; exact this)
        have hS2 : S.length ≤ 64 := by omega
        have c0 := HB.out.2.c0
        have c1 := HB.out.2.c1
        have hwsz := HB.out.2.lt
        have HWR := Lib.hid (HW.out.below HB.out.1)
        clear hk hS HS
        by_cases hd : d = 1
        · have hd7 : (d == 1) = true := by simpa using hd
          have HF : Hid (textB d l = S) := Lib.hid (by rw [HTX.out, if_pos hd, HE.out])
          clear hd
          go_wp2
          go_ret
          exact ⟨ret_str HF.out.symm, HB.out.1⟩
        · have hd7 : (d == 1) = false := by simpa using hd
          by_cases h1 : 1 < l.length
          · have HF : Hid (textB d l = ([40] ++ S ++ [41]) ++ [47] ++ D) := Lib.hid (by rw [HTX.out, if_neg hd, if_pos h1, HE.out])
            clear hd
            go_wp2_with fail
            refine (itoa_any d D HD (by omega) hd2 _ HWR.out).mono ?_
            rintro e w2 ⟨rfl, hb2⟩
            have HB2 := Lib.hid (HB.out.1.trans (hb2.mono HB.out.1.size))
            clear hb2
            go_wp2
            go_ret
            refine ⟨ret_bytes ?_, HB2.out⟩
            rw [HF.out]
            exact (congrArg (fun z => z ++ ⟨#[47]⟩ ++ ⟨D.toArray⟩) (cat3 [40] S [41] rfl)).trans (cat3 _ [47] D rfl)
          · have HF : Hid (textB d l = S ++ [47] ++ D) := Lib.hid (by rw [HTX.out, if_neg hd, if_neg h1, HE.out])
            clear hd
            go_wp2_with fail
            refine (itoa_any d D HD (by omega) hd2 _ HWR.out).mono ?_
            rintro e w2 ⟨rfl, hb2⟩
            have HB2 := Lib.hid (HB.out.1.trans (hb2.mono HB.out.1.size))
            clear hb2
            go_wp2
            go_ret
            exact ⟨ret_bytes (cat3 S [47] D HF.out), HB2.out⟩

/-- Format -/
def FormatTo (d : Int) (l : List (Int × Int)) (w : World) (e : Ending) (w' : World) : Prop :=
  e = .returned (.tuple #[str (if validF d l = true then textB d l else []), .int .i64 (if validF d l = true then 0 else 2)]) ∧ Below w.heap.size w w'
set_option maxHeartbeats 1000000 in
theorem format_any (d : Int) (v : Value) (l : List (Int × Int)) (w : World) (ht : TermsAt w v l) (hw : WOk w) :
    Calls Tryz.prog 123 #[.agg #[.int .i64 d, v]] w (FormatTo d l w) := by
  have HT := Lib.hid ht
  have HW := Lib.hid hw
  clear ht hw
  go_enter Tryz.func123, Tryz.ntmps123
  go_wp2_with fail
  refine (valid_any d v l _ (HT.out.alloc _)).mono ?_
  rintro e w1 ⟨rfl, hb⟩
  obtain ⟨h0, h1⟩ := box2 hb
  have HB : Hid (Below w.heap.size w w1) := Lib.hid (((Below.refl _ _).alloc (Nat.le_refl _) _).trans (hb.mono (by simp)))
  clear hb
  cases hv : validF d l
  · have HV := Lib.hid hv
    clear hv
    go_wp2
    go_ret2
    exact ⟨by rw [HV.out]; rfl, HB.out⟩
  · have HV := Lib.hid hv
    have V := vld_of hv
    have hbb : Hid (∀ t ∈ l, (-1000000 < t.1 ∧ t.1 < 1000000) ∧ (-1000000 < t.2 ∧ t.2 < 1000000)) := Lib.hid (fun t ht => by have := vld_pt V t ht; omega)
    have hl := V.len
    have hd1 := V.d1
    have hd2 := V.d2
    clear hv V
    go_wp2_with fail
    refine (text_any d v l _ (HT.out.below HB.out) (HW.out.below HB.out) hl (by omega) (by omega) hbb).mono ?_
    rintro e w2 ⟨rfl, hb2⟩
    have HB2 := Lib.hid (HB.out.trans (hb2.mono HB.out.size))
    clear hb2
    go_wp2
    go_ret2
    exact ⟨by rw [HV.out]; rfl, HB2.out⟩
end Go.Proofs.YtkjclafbpocabaaGreatDoor

/-! ## S29 -/
namespace Go.Proofs.YtkjclafbpocabaaGreatDoor
open Go.RowKit Go.Maps Go.Shelf Go.Sort
set_option maxHeartbeats 1000000 in
theorem exactRoot_any (n : Nat) (w : World) (hn : n < 4611686018427387904) :
    Calls Tryz.prog 110 #[.int .i64 n] w fun e w' => e = .returned (.tuple #[.int .i64 (isq n : Nat), .bool (decide (isq n * isq n = n))]) ∧ Below w.heap.size w w' := by
  have hsr := fun w0 => wholeRoot_any n w0 hn
  have hle := (isq_spec n).1
  obtain ⟨q, hq⟩ : ∃ q, isq n = q := ⟨_, rfl⟩
  rw [hq] at hsr hle ⊢
  obtain ⟨qq, hqq⟩ : ∃ qq, q * q = qq := ⟨_, rfl⟩
  have hqi : (q : Int) * (q : Int) = (qq : Int) := by rw [← hqq]; simp
  have hq1 : q < 2147483648 := by
    rcases Nat.lt_or_ge q 2147483648 with h | h
    · exact h
    · have := Nat.mul_le_mul h h; omega
  rw [hqq] at hle ⊢
  have HSR := Lib.hid hsr
  clear hsr hq hqq
  by_cases he : qq = n
  · subst he
    have hd : decide (qq = qq) = true := by simp
    rw [hd]
    clear hd
    go_enter Tryz.func110, Tryz.ntmps110
    go_wp2_with fail
    refine (HSR.out _).mono ?_
    rintro e w2 ⟨rfl, hb⟩
    have HB := Lib.hid hb
    clear hb HSR
    go_wp2
    go_ret2
    exact ⟨rfl, HB.out⟩
  · have hd : decide (qq = n) = false := decide_eq_false he
    rw [hd]
    have hne : ((qq : Int) == (n : Int)) = false := by simp; omega
    clear hd
    go_enter Tryz.func110, Tryz.ntmps110
    go_wp2_with fail
    refine (HSR.out _).mono ?_
    rintro e w2 ⟨rfl, hb⟩
    have HB := Lib.hid hb
    clear hb HSR
    go_wp2
    go_ret2
    exact ⟨rfl, HB.out⟩
set_option maxHeartbeats 1000000 in
theorem exactRoot_neg (n : Int) (w : World) (hn : n < 0) :
    Calls Tryz.prog 110 #[.int .i64 n] w fun e w' => e = .returned (.tuple #[.int .i64 0, .bool false]) ∧ w' = w := by
  go_enter Tryz.func110, Tryz.ntmps110
  go_wp2
  go_ret2
  exact ⟨rfl, rfl⟩
theorem floor_tdiv (a b : Int) (hb : 0 < b) : a / b = if a.tmod b < 0 then a.tdiv b - 1 else a.tdiv b := by
  have h1 := Int.mul_tdiv_add_tmod a b
  have h5 := Int.tmod_lt_of_pos a hb
  have h6 := Int.lt_tmod_of_pos a hb
  generalize a.tdiv b = q at h1 ⊢
  generalize a.tmod b = m at h1 h5 h6 ⊢
  split
  · refine ((Int.ediv_emod_unique (r := m + b) hb).2 ⟨?_, by omega, by omega⟩).1
    rw [Int.mul_sub]; omega
  · exact ((Int.ediv_emod_unique (r := m) hb).2 ⟨by omega, by omega, by omega⟩).1
set_option maxHeartbeats 1000000 in
theorem floorQuo_any (a b : Int) (w : World) (ha1 : -4000000000000000000 ≤ a) (ha2 : a ≤ 4000000000000000000) (hb : 0 < b) (hb2 : b ≤ 4000000000000000000) :
    Calls Tryz.prog 145 #[.int .i64 a, .int .i64 b] w fun e w' => e = .returned (.int .i64 (a / b)) ∧ w' = w := by
  have hft := Lib.hid (floor_tdiv a b hb)
  have hq := tdiv_abs a b (by omega) 4000000000000000000 ha1 ha2
  have hb0 : ¬ b = 0 := by omega
  by_cases hm : a.tmod b < 0
  · have e : a / b = a.tdiv b - 1 := by rw [hft.out, if_pos hm]
    rw [e]
    clear e
    go_enter Tryz.func145, Tryz.ntmps145
    go_wp2
    go_ret
    exact ⟨rfl, rfl⟩
  · have e : a / b = a.tdiv b := by rw [hft.out, if_neg hm]
    rw [e]
    clear e
    go_enter Tryz.func145, Tryz.ntmps145
    go_wp2
    go_ret
    exact ⟨rfl, rfl⟩
end Go.Proofs.YtkjclafbpocabaaGreatDoor

/-! ## S30 -/
namespace Go.Proofs.YtkjclafbpocabaaGreatDoor
open Go.RowKit Go.Maps Go.Shelf Go.Sort
theorem f34 : (Tryz.prog.fieldsOf 85).toList.map (fun f => (f.type, f.offset, f.name == "_")) = [(3, 0, false), (3, 1, false)] := by kernel_rfl
theorem f34' : ∃ a b : Field, (Tryz.prog.fieldsOf 85).toList = [a, b] ∧ a.type = 3 ∧ a.offset = 0 ∧ a.name ≠ "_" ∧ b.type = 3 ∧ b.offset = 1 ∧ b.name ≠ "_" := by
  have h := f34
  generalize (Tryz.prog.fieldsOf 85).toList = l at h
  cases l with
  | nil => simp at h
  | cons a l =>
    cases l with
    | nil => simp at h
    | cons b l =>
      cases l with
      | cons _ _ => simp at h
      | nil =>
        simp at h
        exact ⟨a, b, rfl, h.1.1, h.1.2.1, by simpa using h.1.2.2, h.2.1, h.2.2.1, by simpa using h.2.2.2⟩
theorem und3i : Tryz.prog.underlying 3 = some (.int .i64) := by kernel_rfl
theorem neq34 (p1 p2 q1 q2 : Int) (w : World) : (binOp .neq 85 (.agg #[.int .i64 p1, .int .i64 p2]) (.agg #[.int .i64 q1, .int .i64 q2])).run Tryz.prog w = .ok (.bool (!(p1 == q1 && p2 == q2))) w := by
  obtain ⟨a, b, hf, h1, h2, h3, h4, h5, h6⟩ := f34'
  rw [run_neq_struct, run_equalIn_agg _ 9999 85 _ _ (by kernel_rfl) (by kernel_rfl), hf]
  have e1 := fun w => run_equalIn_int (P := Tryz.prog) w 9998 3 .i64 .i64 p1 q1 und3i
  have e2 := fun w => run_equalIn_int (P := Tryz.prog) w 9998 3 .i64 .i64 p2 q2 und3i
  simp [Op.eqFields, h1, h2, h3, h4, h5, h6, go_sem, e1, e2]
  by_cases h7 : p1 = q1 <;> by_cases h8 : p2 = q2 <;> simp [h7, h8]
end Go.Proofs.YtkjclafbpocabaaGreatDoor

/-! ## S31 -/
namespace Go.Proofs.YtkjclafbpocabaaGreatDoor
open Go.RowKit Go.Maps Go.Shelf Go.Sort
theorem Two_alloc_last (w : World) (o : Obj) : (w.alloc o).heap[w.heap.size]? = some o := by unfold World.alloc; simp
theorem empty_own (w : World) : OwnT (w.alloc (.cells #[] 85)) w.heap.size (.slice (some ⟨w.heap.size, 0, none⟩) 0 0) [] := by
  refine ⟨by simp [flatT], .inr ⟨w.heap.size, 0, #[], rfl, Nat.le_refl _, ?_, Nat.le_refl _, by unfold maxLen; omega, by simp, by simp [flatT]⟩⟩
  exact (Two_alloc_last w _)
theorem own_shape {w : World} {base : Nat} {e : TypeId} {size : Nat} {v : Value} {n : Nat} {xs : List Value} (h : w.ownsRow base e size v n xs) : ∃ p k c, v = .slice p k c := by
  rcases h.2 with ⟨rfl, _⟩ | ⟨g, cap, cur, rfl, _⟩
  · exact ⟨_, _, _, rfl⟩
  · exact ⟨_, _, _, rfl⟩
end Go.Proofs.YtkjclafbpocabaaGreatDoor

/-! ## S32 -/
namespace Go.Proofs.YtkjclafbpocabaaGreatDoor
open Go.RowKit Go.Maps Go.Shelf Go.Sort
def OwnNum (d : Int) (l : List (Int × Int)) (w : World) (e : Ending) (w' : World) : Prop :=
  ∃ v, e = .returned (.agg #[.int .i64 d, v]) ∧ TermsAt w' v l ∧ Below w.heap.size w w' ∧ ∀ k, v.ownBlock = some k → w.heap.size ≤ k
end Go.Proofs.YtkjclafbpocabaaGreatDoor
