/-
  Contracts of the program's own functions (and their plain mathematics), on the way to the law: each for all arguments that its hypotheses let.
-/
import Derived.Test.YtedpafdfecofnaaGreatDoorF5
import Derived.Test.YtedpafdfecofnaaGreatDoorF29
import Derived.WalkKit
import Derived.WalkSpells
import Derived.WalkLawsBesides
import Derived.Deep.QuietTactic
import Derived.BigQuiet
import Derived.Lib.Hide
import Derived.WalkSmall
import Derived.Maps.OwnSet
import Derived.Maps.RangeWalk
import Derived.Deep.RegionWith
import Derived.Deep.RegionHeld3
import Derived.Deep.DrawnRows
import Derived.Deep.DeepCutAuto
import Derived.OneCell
import Derived.KernelRfl
import Derived.Laws.StructEq
import Derived.StillTailTactics
import Derived.Laws.Externs
import Derived.RangeFuncBox
import Derived.Test.YtedpafdfecofnaaGreatDoorPlain
set_option linter.unusedSimpArgs false
set_option linter.unusedVariables false

/-! ## S120 -/
namespace Go.Proofs.YtedpafdfecofnaaGreatDoor
open Go.RowKit Go.Maps Go.Shelf Go.Sort
theorem dig_split (n : Nat) (h : ¬ n < 10) : Lib.decDigits n = Lib.decDigits (n / 10) ++ Lib.decDigits (n % 10) := by
  rw [Lib.decDigits, dif_neg h, Lib.decDigits_one (Nat.mod_lt n (by omega))]
theorem dig_len (n k : Nat) (h : n < 10 ^ k) (hk : 1 ≤ k) : (Lib.decDigits n).length ≤ k := by
  induction k generalizing n with
  | zero => omega
  | succ k ih =>
    by_cases h1 : n < 10
    · rw [Lib.decDigits_one h1]; simp
    · rw [Lib.decDigits, dif_neg h1]
      have hk2 : 1 ≤ k := by
        rcases Nat.eq_zero_or_pos k with h2 | h2
        · subst h2; simp at h; omega
        · exact h2
      have := ih (n / 10) (by rw [Nat.pow_succ] at h; omega) hk2
      simp; omega
set_option maxRecDepth 100000 in
set_option maxHeartbeats 2000000 in
/-- digit: the numeral of a number that is not below 0. -/
theorem digit_any (n : Nat) : ∀ (w : World), n ≤ 1000000000000000000 → Calls Tryz.prog 79 #[.int .i64 n] w (StrTo (Lib.decDigits n) w) := by
  induction n using Nat.strongRecOn with
  | ind n ih =>
  intro w hn
  by_cases h : n < 10
  · have hd := Lib.decDigits_one h
    have h1 : decide ((n : Int) < 10) = true := decide_eq_true (by omega)
    have e1 : IntKind.i64.wrap (48 + (n : Int)) = 48 + (n : Int) := IntWalk.i64_in _ (by omega)
    have HD := Lib.hid hd
    have hcv : (convert 127 9 (.slice (some ⟨w.heap.size, 0, none⟩) 1 1)).run Tryz.prog (w.alloc (.cells #[.int .u8 (48 + (n : Int))] 5)) = .ok (.string ⟨[UInt8.ofNat (48 + n)].toArray⟩) (w.alloc (.cells #[.int .u8 (48 + (n : Int))] 5)) :=
      run_convert_bytes_back _ 127 9 5 ⟨w.heap.size, 0, none⟩ 1 [UInt8.ofNat (48 + n)] Tryz.underlying127 Tryz.underlying5 Tryz.underlying9 (fun j hj => by
        obtain rfl : j = 0 := by simpa using hj
        have e : (UInt8.ofNat (48 + n)).toNat = 48 + n := by simp; omega
        simp only [List.getElem_cons_zero, e]
        simp [Addr.add])
    obtain ⟨U, hU⟩ : ∃ U, [UInt8.ofNat (48 + n)] = U := ⟨_, rfl⟩
    rw [hU] at hcv HD
    clear hd ih hU
    go_enter Tryz.func79, Tryz.ntmps79
    go_wp2
    go_ret
    exact ⟨ret_str HD.out.symm, (Below.refl _ _).alloc (Nat.le_refl _) _⟩
  · have hq : n / 10 < n := by omega
    have hm : n % 10 < n := by omega
    have HI1 := Lib.hid (fun w0 => ih (n / 10) hq w0 (by omega))
    have HI2 := Lib.hid (fun w0 => ih (n % 10) hm w0 (by omega))
    have HD := Lib.hid (dig_split n h)
    have h1 : decide ((n : Int) < 10) = false := decide_eq_false (by omega)
    have e1 : (n : Int) / 10 = ((n / 10 : Nat) : Int) := by omega
    have e2 : (n : Int) % 10 = ((n % 10 : Nat) : Int) := by omega
    have e3 : (n : Int).tdiv 10 = ((n / 10 : Nat) : Int) := rfl
    have e4 : (n : Int).tmod 10 = ((n % 10 : Nat) : Int) := rfl
    have l1 := dig_len (n / 10) 19 (by omega) (by decide)
    have l2 := dig_len (n % 10) 19 (by omega) (by decide)
    obtain ⟨a, ha⟩ : ∃ a, n / 10 = a := ⟨_, rfl⟩
    obtain ⟨b, hb⟩ : ∃ b, n % 10 = b := ⟨_, rfl⟩
    rw [ha] at HI1 HD e1 e3 l1
    rw [hb] at HI2 HD e2 e4 l2
    have e5 : IntKind.i64.wrap (a : Int) = (a : Int) := IntWalk.i64_in _ (by omega)
    have e6 : IntKind.i64.wrap (b : Int) = (b : Int) := IntWalk.i64_in _ (by omega)
    obtain ⟨A, hA⟩ : ∃ A, Lib.decDigits a = A := ⟨_, rfl⟩
    obtain ⟨B, hB⟩ : ∃ B, Lib.decDigits b = B := ⟨_, rfl⟩
    rw [hA] at HI1 HD l1
    rw [hB] at HI2 HD l2
    clear ih hq hm ha hb hA hB h
    go_enter Tryz.func79, Tryz.ntmps79
    go_wp2_with fail
    refine (HI1.out _).mono ?_
    rintro e w1 ⟨rfl, hb1⟩
    have HB1 := Lib.hid hb1
    clear hb1
    go_wp2_with fail
    refine (HI2.out _).mono ?_
    rintro e w2 ⟨rfl, hb2⟩
    have HB2 := Lib.hid (HB1.out.trans (hb2.mono HB1.out.size))
    clear hb2 HB1
    go_wp2
    go_ret
    exact ⟨by rw [HD.out]; rfl, HB2.out⟩
end Go.Proofs.YtedpafdfecofnaaGreatDoor

/-! ## S121 -/
namespace Go.Proofs.YtedpafdfecofnaaGreatDoor
open Go.RowKit Go.Maps Go.Shelf Go.Sort
/-- A term's text in pieces: its sign, its whole number, its root. -/
theorem term_parts (k : Nat) {c : Int} {rn : Nat} (hc : c ≠ 0) :
    partB k (c, (rn : Int)) = (if c < 0 then [45] else if 0 < k then [43] else []) ++ (if rn = 1 ∨ c.natAbs ≠ 1 then Lib.decDigits c.natAbs else []) ++ (if rn = 1 then [] else [114] ++ Lib.decDigits rn) := by
  have hr : Lib.itoa (rn : Int) = Lib.decDigits rn := Lib.itoa_nonneg rn
  have hi : Lib.itoa c = (if c < 0 then [45] else []) ++ Lib.decDigits c.natAbs := by
    unfold Lib.itoa
    by_cases h : c < 0
    · rw [if_pos h, if_pos h]; rfl
    · rw [if_neg h, if_neg h, show c.toNat = c.natAbs by omega]; rfl
  have hd1 : Lib.decDigits 1 = [49] := Lib.decDigits_one (by decide)
  have ht1 : Lib.trimSuffix [49] [49] = [] := by decide
  have ht2 : Lib.trimSuffix [45, 49] [49] = [45] := by decide
  have e1 : ((rn : Int) = 1) = (rn = 1) := propext (by omega)
  have e2 : (c = 1 ∨ c = -1) = (c.natAbs = 1) := propext (by omega)
  have e3 : (0 < c) = ¬ (c < 0) := propext (by omega)
  unfold partB termB
  dsimp only
  rw [hr, hi]
  simp only [e1, e2, e3]
  clear hr hi e1 e2 e3
  generalize c.natAbs = m
  by_cases h : c < 0 <;> by_cases hk : 0 < k <;> by_cases h1 : rn = 1 <;> by_cases h2 : m = 1
  all_goals (try subst h2)
  all_goals simp [h, hk, h1, hd1, ht1, ht2]
  all_goals (try simp [h2])
set_option maxRecDepth 100000 in
set_option maxHeartbeats 40000000 in
/-- The reference's Text, for a number in its bounds. -/
theorem rtext_any (d : Int) (v : Value) (l : List (Int × Int)) (w : World) (ht : TermsAt w v l) (hl : l.length ≤ 4) (hd1 : 0 < d) (hd2 : d < 1000000) (hb : Hid (∀ t ∈ l, (-1000000 < t.1 ∧ t.1 < 1000000) ∧ (0 < t.2 ∧ t.2 < 1000000) ∧ t.1 ≠ 0)) :
    Calls Tryz.prog 43 #[.agg #[.int .i64 d, v]] w (StrTo (textB d l) w) := by
  obtain ⟨a, cap, rfl, px⟩ := ht.placed
  have PX := Lib.hid px
  clear ht px
  obtain ⟨dn, rfl⟩ : ∃ dn : Nat, d = dn := ⟨d.toNat, by omega⟩
  have hdg := fun w0 => digit_any dn w0 (by omega)
  have hDl : (Lib.decDigits dn).length ≤ 6 := dig_len dn 6 (by omega) (by decide)
  have hit : Lib.itoa (dn : Int) = Lib.decDigits dn := Lib.itoa_nonneg dn
  obtain ⟨D, hD⟩ : ∃ D, Lib.decDigits dn = D := ⟨_, rfl⟩
  rw [hD] at hdg hDl hit
  have HDG := Lib.hid hdg
  obtain ⟨T, hT⟩ : ∃ T, bodyB l = T := ⟨_, rfl⟩
  have HTX : Hid (textB dn l = if l.length = 0 then [48] else if (dn : Int) = 1 then T else (if 1 < l.length then [40] ++ T ++ [41] else T) ++ [47] ++ D) := Lib.hid (by unfold textB; rw [hT, hit])
  have HTT := Lib.hid hT
  clear hD hT hit hdg
  go_enter Tryz.func43, Tryz.ntmps43
  go_wp2
  have HBX : Hid (Two (w.alloc (.cells #[.int .i64 dn, .slice a l.length cap] 24)) w.heap.size (.int .i64 dn) (.slice a l.length cap) 24) := Lib.hid (Two.new _ _ _ _)
  go_loopw [3, 4, 5] (fun s i _ wr => ∃ k : Nat, k ≤ l.length ∧ i = .int .i64 k ∧ (∃ S : List UInt8, s = .string ⟨S.toArray⟩ ∧ S.length ≤ 16 * k ∧ Hid (S = bodyB (l.take k))) ∧ Hid (Below w.heap.size w wr ∧ Two wr w.heap.size (.int .i64 dn) (.slice a l.length cap) 24)) (fun _ i _ _ => l.length - (intOf i).toNat)
  case atStart => exact ⟨0, Nat.zero_le _, rfl, ⟨[], rfl, by simp, Lib.hid rfl⟩, Lib.hid ⟨(Below.refl _ _).alloc (Nat.le_refl _) _, HBX.out⟩⟩
  case round =>
    clear HBX
    obtain ⟨k, hk, rfl, ⟨S, rfl, hS, HS⟩, HB⟩ := hrel
    by_cases hlt : k < l.length
    · obtain ⟨b, off, rfl, hbl, hc1, hc2⟩ := PX.out k hlt
      replace hc1 := (HB.out.1.cell (p := ⟨b, _, none⟩) hbl).trans hc1
      replace hc2 := (HB.out.1.cell (p := ⟨b, _, none⟩) hbl).trans hc2
      have hbd := hb.out (l[k]?.getD (0, 0)) (by simp [hlt])
      have hsu := bodyB_succ l k hlt
      obtain ⟨c, r, hel⟩ : ∃ c r, l[k]?.getD (0, 0) = (c, r) := ⟨_, _, rfl⟩
      rw [hel] at hc1 hc2 hbd hsu
      dsimp only at hc1 hc2 hbd
      obtain ⟨⟨b1, b2⟩, ⟨b3, b4⟩, b5⟩ := hbd
      obtain ⟨rn, rfl⟩ : ∃ rn : Nat, r = rn := ⟨r.toNat, by omega⟩
      rw [term_parts k b5] at hsu
      have hab := fun w0 => abs_any c w0 (by omega) (by omega)
      obtain ⟨m, hm⟩ : ∃ m, c.natAbs = m := ⟨_, rfl⟩
      rw [hm] at hab hsu
      have hgm := fun w0 => digit_any m w0 (by omega)
      have hgr := fun w0 => digit_any rn w0 (by omega)
      have lm : (Lib.decDigits m).length ≤ 6 := dig_len m 6 (by omega) (by decide)
      have lr : (Lib.decDigits rn).length ≤ 6 := dig_len rn 6 (by omega) (by decide)
      obtain ⟨M, hM⟩ : ∃ M, Lib.decDigits m = M := ⟨_, rfl⟩
      obtain ⟨R, hR⟩ : ∃ R, Lib.decDigits rn = R := ⟨_, rfl⟩
      rw [hM] at hgm lm hsu
      rw [hR] at hgr lr hsu
      have HAB := Lib.hid hab
      have HGM := Lib.hid hgm
      have HGR := Lib.hid hgr
      have HSU : Hid (bodyB (l.take (k + 1)) = S ++ ((if c < 0 then [45] else if 0 < k then [43] else []) ++ (if rn = 1 ∨ m ≠ 1 then M else []) ++ (if rn = 1 then [] else [114] ++ R))) := Lib.hid (by rw [hsu, ← HS.out])
      have hwsz := HB.out.2.lt
      have c0 := HB.out.2.c0
      have c1 := HB.out.2.c1
      have BT : Hid (Below w.heap.size w (wr.alloc (.cells #[.int .i64 c, .int .i64 rn] 34)) ∧ Two (wr.alloc (.cells #[.int .i64 c, .int .i64 rn] 34)) w.heap.size (.int .i64 dn) (.slice (some ⟨b, off, none⟩) l.length cap) 24 ∧ Two (wr.alloc (.cells #[.int .i64 c, .int .i64 rn] 34)) wr.heap.size (.int .i64 c) (.int .i64 rn) 34) := Lib.hid ⟨HB.out.1.alloc HB.out.1.size _, HB.out.2.alloc _, Two.new _ _ _ _⟩
      clear hel hsu hab hgm hgr hm hM hR
      have hrel : ∀ (sg dg rt : List UInt8), sg.length ≤ 1 → dg.length ≤ 6 → rt.length ≤ 7 → True := fun _ _ _ _ _ _ => trivial
      clear hrel
      by_cases hs : c < 0
      · skip
        by_cases hr : rn = 1
        · subst hr
          have z1 : decide (c < 0) = true := decide_eq_true hs
          have HS2 : Hid (bodyB (l.take (k + 1)) = S ++ [45] ++ M) := Lib.hid (by rw [HSU.out, if_pos hs, if_pos (show 1 = 1 ∨ m ≠ 1 from .inl rfl), if_pos rfl]; simp)
          have hlen : (S ++ [45] ++ M).length ≤ 16 * (k + 1) := by simp; omega
          obtain ⟨F, hF⟩ : ∃ F, S ++ [45] ++ M = F := ⟨_, rfl⟩
          rw [hF] at HS2 hlen
          clear HSU HS b1 b2 b3 b4 b5
          have HF := Lib.hid hF
          clear hF
          go_wp2_with fail
          refine (HAB.out _).mono ?_
          rintro e wq ⟨rfl, rfl⟩
          go_wp2_with fail
          refine (HGM.out _).mono ?_
          rintro e w2 ⟨rfl, hb2⟩
          have Bw2 : Hid (Below w.heap.size w w2 ∧ Two w2 w.heap.size (.int .i64 dn) (.slice (some ⟨b, off, none⟩) l.length cap) 24 ∧ Two w2 wr.heap.size (.int .i64 c) (.int .i64 (1 : Nat)) 34) := Lib.hid ⟨BT.out.1.trans (hb2.mono BT.out.1.size), BT.out.2.1.below hb2 BT.out.2.1.lt, BT.out.2.2.below hb2 BT.out.2.2.lt⟩
          clear hb2
          have t0w2 := Bw2.out.2.2.c0
          have t1w2 := Bw2.out.2.2.c1
          have t2w2 := Bw2.out.2.2.lt
          go_wp2
          go_roundw
          case rel => exact ⟨k + 1, by omega, by go_num, ⟨F, congrArg Value.string (by rw [← HF.out]; simp only [cat_str]), by omega, Lib.hid HS2.out.symm⟩, Lib.hid ⟨Bw2.out.1, Bw2.out.2.1⟩⟩
          case measure => simp [intOf]; omega
        · by_cases hm : m ≠ 1
          · skip
            have z1 : decide (c < 0) = true := decide_eq_true hs
            have z3 : ((rn : Int) == 1) = false := by simp; omega
            have z4 : ((m : Int) == 1) = false := by simp; omega
            have HS2 : Hid (bodyB (l.take (k + 1)) = S ++ [45] ++ M ++ [114] ++ R) := Lib.hid (by rw [HSU.out, if_pos hs, if_pos (show rn = 1 ∨ m ≠ 1 from .inr hm), if_neg hr]; simp)
            have hlen : (S ++ [45] ++ M ++ [114] ++ R).length ≤ 16 * (k + 1) := by simp; omega
            obtain ⟨F, hF⟩ : ∃ F, S ++ [45] ++ M ++ [114] ++ R = F := ⟨_, rfl⟩
            rw [hF] at HS2 hlen
            have z5 : ((m : Int) != 1) = true := by simp; omega
            have z6 : ((rn : Int) != 1) = true := by simp; omega
            clear hm hr
            clear HSU HS b1 b2 b3 b4 b5
            have HF := Lib.hid hF
            clear hF
            go_wp2_with fail
            refine (HAB.out _).mono ?_
            rintro e wq ⟨rfl, rfl⟩
            go_wp2_with fail
            refine (HAB.out _).mono ?_
            rintro e wq ⟨rfl, rfl⟩
            go_wp2_with fail
            refine (HGM.out _).mono ?_
            rintro e w2 ⟨rfl, hb2⟩
            have Bw2 : Hid (Below w.heap.size w w2 ∧ Two w2 w.heap.size (.int .i64 dn) (.slice (some ⟨b, off, none⟩) l.length cap) 24 ∧ Two w2 wr.heap.size (.int .i64 c) (.int .i64 rn) 34) := Lib.hid ⟨BT.out.1.trans (hb2.mono BT.out.1.size), BT.out.2.1.below hb2 BT.out.2.1.lt, BT.out.2.2.below hb2 BT.out.2.2.lt⟩
            clear hb2
            have t0w2 := Bw2.out.2.2.c0
            have t1w2 := Bw2.out.2.2.c1
            have t2w2 := Bw2.out.2.2.lt
            go_wp2_with fail
            refine (HGR.out _).mono ?_
            rintro e w3 ⟨rfl, hb2⟩
            have Bw3 : Hid (Below w.heap.size w w3 ∧ Two w3 w.heap.size (.int .i64 dn) (.slice (some ⟨b, off, none⟩) l.length cap) 24 ∧ Two w3 wr.heap.size (.int .i64 c) (.int .i64 rn) 34) := Lib.hid ⟨Bw2.out.1.trans (hb2.mono Bw2.out.1.size), Bw2.out.2.1.below hb2 Bw2.out.2.1.lt, Bw2.out.2.2.below hb2 Bw2.out.2.2.lt⟩
            clear hb2
            have t0w3 := Bw3.out.2.2.c0
            have t1w3 := Bw3.out.2.2.c1
            have t2w3 := Bw3.out.2.2.lt
            go_wp2
            go_roundw
            case rel => exact ⟨k + 1, by omega, by go_num, ⟨F, congrArg Value.string (by rw [← HF.out]; simp only [cat_str]), by omega, Lib.hid HS2.out.symm⟩, Lib.hid ⟨Bw3.out.1, Bw3.out.2.1⟩⟩
            case measure => simp [intOf]; omega
          · skip
            have z1 : decide (c < 0) = true := decide_eq_true hs
            have z3 : ((rn : Int) == 1) = false := by simp; omega
            have z4 : ((m : Int) == 1) = true := by simp; omega
            have HS2 : Hid (bodyB (l.take (k + 1)) = S ++ [45] ++ [114] ++ R) := Lib.hid (by rw [HSU.out, if_pos hs, if_neg (show ¬ (rn = 1 ∨ m ≠ 1) by omega), if_neg hr]; simp)
            have hlen : (S ++ [45] ++ [114] ++ R).length ≤ 16 * (k + 1) := by simp; omega
            obtain ⟨F, hF⟩ : ∃ F, S ++ [45] ++ [114] ++ R = F := ⟨_, rfl⟩
            rw [hF] at HS2 hlen
            have z5 : ((m : Int) != 1) = false := by simp; omega
            have z6 : ((rn : Int) != 1) = true := by simp; omega
            clear hm hr
            clear HSU HS b1 b2 b3 b4 b5
            have HF := Lib.hid hF
            clear hF
            go_wp2_with fail
            refine (HAB.out _).mono ?_
            rintro e wq ⟨rfl, rfl⟩
            go_wp2_with fail
            refine (HGR.out _).mono ?_
            rintro e w2 ⟨rfl, hb2⟩
            have Bw2 : Hid (Below w.heap.size w w2 ∧ Two w2 w.heap.size (.int .i64 dn) (.slice (some ⟨b, off, none⟩) l.length cap) 24 ∧ Two w2 wr.heap.size (.int .i64 c) (.int .i64 rn) 34) := Lib.hid ⟨BT.out.1.trans (hb2.mono BT.out.1.size), BT.out.2.1.below hb2 BT.out.2.1.lt, BT.out.2.2.below hb2 BT.out.2.2.lt⟩
            clear hb2
            have t0w2 := Bw2.out.2.2.c0
            have t1w2 := Bw2.out.2.2.c1
            have t2w2 := Bw2.out.2.2.lt
            go_wp2
            go_roundw
            case rel => exact ⟨k + 1, by omega, by go_num, ⟨F, congrArg Value.string (by rw [← HF.out]; simp only [cat_str]), by omega, Lib.hid HS2.out.symm⟩, Lib.hid ⟨Bw2.out.1, Bw2.out.2.1⟩⟩
            case measure => simp [intOf]; omega
      · by_cases hk0 : 0 < k
        · skip
          by_cases hr : rn = 1
          · subst hr
            have z1 : decide (c < 0) = false := decide_eq_false hs
            have z2 : decide (0 < (k : Int)) = true := decide_eq_true (by omega)
            have HS2 : Hid (bodyB (l.take (k + 1)) = S ++ [43] ++ M) := Lib.hid (by rw [HSU.out, if_neg hs, if_pos hk0, if_pos (show 1 = 1 ∨ m ≠ 1 from .inl rfl), if_pos rfl]; simp)
            have hlen : (S ++ [43] ++ M).length ≤ 16 * (k + 1) := by simp; omega
            obtain ⟨F, hF⟩ : ∃ F, S ++ [43] ++ M = F := ⟨_, rfl⟩
            rw [hF] at HS2 hlen
            clear HSU HS b1 b2 b3 b4 b5
            have HF := Lib.hid hF
            clear hF
            go_wp2_with fail
            refine (HAB.out _).mono ?_
            rintro e wq ⟨rfl, rfl⟩
            go_wp2_with fail
            refine (HGM.out _).mono ?_
            rintro e w2 ⟨rfl, hb2⟩
            have Bw2 : Hid (Below w.heap.size w w2 ∧ Two w2 w.heap.size (.int .i64 dn) (.slice (some ⟨b, off, none⟩) l.length cap) 24 ∧ Two w2 wr.heap.size (.int .i64 c) (.int .i64 (1 : Nat)) 34) := Lib.hid ⟨BT.out.1.trans (hb2.mono BT.out.1.size), BT.out.2.1.below hb2 BT.out.2.1.lt, BT.out.2.2.below hb2 BT.out.2.2.lt⟩
            clear hb2
            have t0w2 := Bw2.out.2.2.c0
            have t1w2 := Bw2.out.2.2.c1
            have t2w2 := Bw2.out.2.2.lt
            go_wp2
            go_roundw
            case rel => exact ⟨k + 1, by omega, by go_num, ⟨F, congrArg Value.string (by rw [← HF.out]; simp only [cat_str]), by omega, Lib.hid HS2.out.symm⟩, Lib.hid ⟨Bw2.out.1, Bw2.out.2.1⟩⟩
            case measure => simp [intOf]; omega
          · by_cases hm : m ≠ 1
            · skip
              have z1 : decide (c < 0) = false := decide_eq_false hs
              have z2 : decide (0 < (k : Int)) = true := decide_eq_true (by omega)
              have z3 : ((rn : Int) == 1) = false := by simp; omega
              have z4 : ((m : Int) == 1) = false := by simp; omega
              have HS2 : Hid (bodyB (l.take (k + 1)) = S ++ [43] ++ M ++ [114] ++ R) := Lib.hid (by rw [HSU.out, if_neg hs, if_pos hk0, if_pos (show rn = 1 ∨ m ≠ 1 from .inr hm), if_neg hr]; simp)
              have hlen : (S ++ [43] ++ M ++ [114] ++ R).length ≤ 16 * (k + 1) := by simp; omega
              obtain ⟨F, hF⟩ : ∃ F, S ++ [43] ++ M ++ [114] ++ R = F := ⟨_, rfl⟩
              rw [hF] at HS2 hlen
              have z5 : ((m : Int) != 1) = true := by simp; omega
              have z6 : ((rn : Int) != 1) = true := by simp; omega
              clear hm hr
              clear HSU HS b1 b2 b3 b4 b5
              have HF := Lib.hid hF
              clear hF
              go_wp2_with fail
              refine (HAB.out _).mono ?_
              rintro e wq ⟨rfl, rfl⟩
              go_wp2_with fail
              refine (HAB.out _).mono ?_
              rintro e wq ⟨rfl, rfl⟩
              go_wp2_with fail
              refine (HGM.out _).mono ?_
              rintro e w2 ⟨rfl, hb2⟩
              have Bw2 : Hid (Below w.heap.size w w2 ∧ Two w2 w.heap.size (.int .i64 dn) (.slice (some ⟨b, off, none⟩) l.length cap) 24 ∧ Two w2 wr.heap.size (.int .i64 c) (.int .i64 rn) 34) := Lib.hid ⟨BT.out.1.trans (hb2.mono BT.out.1.size), BT.out.2.1.below hb2 BT.out.2.1.lt, BT.out.2.2.below hb2 BT.out.2.2.lt⟩
              clear hb2
              have t0w2 := Bw2.out.2.2.c0
              have t1w2 := Bw2.out.2.2.c1
              have t2w2 := Bw2.out.2.2.lt
              go_wp2_with fail
              refine (HGR.out _).mono ?_
              rintro e w3 ⟨rfl, hb2⟩
              have Bw3 : Hid (Below w.heap.size w w3 ∧ Two w3 w.heap.size (.int .i64 dn) (.slice (some ⟨b, off, none⟩) l.length cap) 24 ∧ Two w3 wr.heap.size (.int .i64 c) (.int .i64 rn) 34) := Lib.hid ⟨Bw2.out.1.trans (hb2.mono Bw2.out.1.size), Bw2.out.2.1.below hb2 Bw2.out.2.1.lt, Bw2.out.2.2.below hb2 Bw2.out.2.2.lt⟩
              clear hb2
              have t0w3 := Bw3.out.2.2.c0
              have t1w3 := Bw3.out.2.2.c1
              have t2w3 := Bw3.out.2.2.lt
              go_wp2
              go_roundw
              case rel => exact ⟨k + 1, by omega, by go_num, ⟨F, congrArg Value.string (by rw [← HF.out]; simp only [cat_str]), by omega, Lib.hid HS2.out.symm⟩, Lib.hid ⟨Bw3.out.1, Bw3.out.2.1⟩⟩
              case measure => simp [intOf]; omega
            · skip
              have z1 : decide (c < 0) = false := decide_eq_false hs
              have z2 : decide (0 < (k : Int)) = true := decide_eq_true (by omega)
              have z3 : ((rn : Int) == 1) = false := by simp; omega
              have z4 : ((m : Int) == 1) = true := by simp; omega
              have HS2 : Hid (bodyB (l.take (k + 1)) = S ++ [43] ++ [114] ++ R) := Lib.hid (by rw [HSU.out, if_neg hs, if_pos hk0, if_neg (show ¬ (rn = 1 ∨ m ≠ 1) by omega), if_neg hr]; simp)
              have hlen : (S ++ [43] ++ [114] ++ R).length ≤ 16 * (k + 1) := by simp; omega
              obtain ⟨F, hF⟩ : ∃ F, S ++ [43] ++ [114] ++ R = F := ⟨_, rfl⟩
              rw [hF] at HS2 hlen
              have z5 : ((m : Int) != 1) = false := by simp; omega
              have z6 : ((rn : Int) != 1) = true := by simp; omega
              clear hm hr
              clear HSU HS b1 b2 b3 b4 b5
              have HF := Lib.hid hF
              clear hF
              go_wp2_with fail
              refine (HAB.out _).mono ?_
              rintro e wq ⟨rfl, rfl⟩
              go_wp2_with fail
              refine (HGR.out _).mono ?_
              rintro e w2 ⟨rfl, hb2⟩
              have Bw2 : Hid (Below w.heap.size w w2 ∧ Two w2 w.heap.size (.int .i64 dn) (.slice (some ⟨b, off, none⟩) l.length cap) 24 ∧ Two w2 wr.heap.size (.int .i64 c) (.int .i64 rn) 34) := Lib.hid ⟨BT.out.1.trans (hb2.mono BT.out.1.size), BT.out.2.1.below hb2 BT.out.2.1.lt, BT.out.2.2.below hb2 BT.out.2.2.lt⟩
              clear hb2
              have t0w2 := Bw2.out.2.2.c0
              have t1w2 := Bw2.out.2.2.c1
              have t2w2 := Bw2.out.2.2.lt
              go_wp2
              go_roundw
              case rel => exact ⟨k + 1, by omega, by go_num, ⟨F, congrArg Value.string (by rw [← HF.out]; simp only [cat_str]), by omega, Lib.hid HS2.out.symm⟩, Lib.hid ⟨Bw2.out.1, Bw2.out.2.1⟩⟩
              case measure => simp [intOf]; omega
        · skip
          by_cases hr : rn = 1
          · subst hr
            have z1 : decide (c < 0) = false := decide_eq_false hs
            have z2 : decide (0 < (k : Int)) = false := decide_eq_false (by omega)
            have HS2 : Hid (bodyB (l.take (k + 1)) = S ++ M) := Lib.hid (by rw [HSU.out, if_neg hs, if_neg hk0, if_pos (show 1 = 1 ∨ m ≠ 1 from .inl rfl), if_pos rfl]; simp)
            have hlen : (S ++ M).length ≤ 16 * (k + 1) := by simp; omega
            obtain ⟨F, hF⟩ : ∃ F, S ++ M = F := ⟨_, rfl⟩
            rw [hF] at HS2 hlen
            clear HSU HS b1 b2 b3 b4 b5
            have HF := Lib.hid hF
            clear hF
            go_wp2_with fail
            refine (HAB.out _).mono ?_
            rintro e wq ⟨rfl, rfl⟩
            go_wp2_with fail
            refine (HGM.out _).mono ?_
            rintro e w2 ⟨rfl, hb2⟩
            have Bw2 : Hid (Below w.heap.size w w2 ∧ Two w2 w.heap.size (.int .i64 dn) (.slice (some ⟨b, off, none⟩) l.length cap) 24 ∧ Two w2 wr.heap.size (.int .i64 c) (.int .i64 (1 : Nat)) 34) := Lib.hid ⟨BT.out.1.trans (hb2.mono BT.out.1.size), BT.out.2.1.below hb2 BT.out.2.1.lt, BT.out.2.2.below hb2 BT.out.2.2.lt⟩
            clear hb2
            have t0w2 := Bw2.out.2.2.c0
            have t1w2 := Bw2.out.2.2.c1
            have t2w2 := Bw2.out.2.2.lt
            go_wp2
            go_roundw
            case rel => exact ⟨k + 1, by omega, by go_num, ⟨F, congrArg Value.string (by rw [← HF.out]; simp only [cat_str]), by omega, Lib.hid HS2.out.symm⟩, Lib.hid ⟨Bw2.out.1, Bw2.out.2.1⟩⟩
            case measure => simp [intOf]; omega
          · by_cases hm : m ≠ 1
            · skip
              have z1 : decide (c < 0) = false := decide_eq_false hs
              have z2 : decide (0 < (k : Int)) = false := decide_eq_false (by omega)
              have z3 : ((rn : Int) == 1) = false := by simp; omega
              have z4 : ((m : Int) == 1) = false := by simp; omega
              have HS2 : Hid (bodyB (l.take (k + 1)) = S ++ M ++ [114] ++ R) := Lib.hid (by rw [HSU.out, if_neg hs, if_neg hk0, if_pos (show rn = 1 ∨ m ≠ 1 from .inr hm), if_neg hr]; simp)
              have hlen : (S ++ M ++ [114] ++ R).length ≤ 16 * (k + 1) := by simp; omega
              obtain ⟨F, hF⟩ : ∃ F, S ++ M ++ [114] ++ R = F := ⟨_, rfl⟩
              rw [hF] at HS2 hlen
              have z5 : ((m : Int) != 1) = true := by simp; omega
              have z6 : ((rn : Int) != 1) = true := by simp; omega
              clear hm hr
              clear HSU HS b1 b2 b3 b4 b5
              have HF := Lib.hid hF
              clear hF
              go_wp2_with fail
              refine (HAB.out _).mono ?_
              rintro e wq ⟨rfl, rfl⟩
              go_wp2_with fail
              refine (HAB.out _).mono ?_
              rintro e wq ⟨rfl, rfl⟩
              go_wp2_with fail
              refine (HGM.out _).mono ?_
              rintro e w2 ⟨rfl, hb2⟩
              have Bw2 : Hid (Below w.heap.size w w2 ∧ Two w2 w.heap.size (.int .i64 dn) (.slice (some ⟨b, off, none⟩) l.length cap) 24 ∧ Two w2 wr.heap.size (.int .i64 c) (.int .i64 rn) 34) := Lib.hid ⟨BT.out.1.trans (hb2.mono BT.out.1.size), BT.out.2.1.below hb2 BT.out.2.1.lt, BT.out.2.2.below hb2 BT.out.2.2.lt⟩
              clear hb2
              have t0w2 := Bw2.out.2.2.c0
              have t1w2 := Bw2.out.2.2.c1
              have t2w2 := Bw2.out.2.2.lt
              go_wp2_with fail
              refine (HGR.out _).mono ?_
              rintro e w3 ⟨rfl, hb2⟩
              have Bw3 : Hid (Below w.heap.size w w3 ∧ Two w3 w.heap.size (.int .i64 dn) (.slice (some ⟨b, off, none⟩) l.length cap) 24 ∧ Two w3 wr.heap.size (.int .i64 c) (.int .i64 rn) 34) := Lib.hid ⟨Bw2.out.1.trans (hb2.mono Bw2.out.1.size), Bw2.out.2.1.below hb2 Bw2.out.2.1.lt, Bw2.out.2.2.below hb2 Bw2.out.2.2.lt⟩
              clear hb2
              have t0w3 := Bw3.out.2.2.c0
              have t1w3 := Bw3.out.2.2.c1
              have t2w3 := Bw3.out.2.2.lt
              go_wp2
              go_roundw
              case rel => exact ⟨k + 1, by omega, by go_num, ⟨F, congrArg Value.string (by rw [← HF.out]; simp only [cat_str]), by omega, Lib.hid HS2.out.symm⟩, Lib.hid ⟨Bw3.out.1, Bw3.out.2.1⟩⟩
              case measure => simp [intOf]; omega
            · skip
              have z1 : decide (c < 0) = false := decide_eq_false hs
              have z2 : decide (0 < (k : Int)) = false := decide_eq_false (by omega)
              have z3 : ((rn : Int) == 1) = false := by simp; omega
              have z4 : ((m : Int) == 1) = true := by simp; omega
              have HS2 : Hid (bodyB (l.take (k + 1)) = S ++ [114] ++ R) := Lib.hid (by rw [HSU.out, if_neg hs, if_neg hk0, if_neg (show ¬ (rn = 1 ∨ m ≠ 1) by omega), if_neg hr]; simp)
              have hlen : (S ++ [114] ++ R).length ≤ 16 * (k + 1) := by simp; omega
              obtain ⟨F, hF⟩ : ∃ F, S ++ [114] ++ R = F := ⟨_, rfl⟩
              rw [hF] at HS2 hlen
              have z5 : ((m : Int) != 1) = false := by simp; omega
              have z6 : ((rn : Int) != 1) = true := by simp; omega
              clear hm hr
              clear HSU HS b1 b2 b3 b4 b5
              have HF := Lib.hid hF
              clear hF
              go_wp2_with fail
              refine (HAB.out _).mono ?_
              rintro e wq ⟨rfl, rfl⟩
              go_wp2_with fail
              refine (HGR.out _).mono ?_
              rintro e w2 ⟨rfl, hb2⟩
              have Bw2 : Hid (Below w.heap.size w w2 ∧ Two w2 w.heap.size (.int .i64 dn) (.slice (some ⟨b, off, none⟩) l.length cap) 24 ∧ Two w2 wr.heap.size (.int .i64 c) (.int .i64 rn) 34) := Lib.hid ⟨BT.out.1.trans (hb2.mono BT.out.1.size), BT.out.2.1.below hb2 BT.out.2.1.lt, BT.out.2.2.below hb2 BT.out.2.2.lt⟩
              clear hb2
              have t0w2 := Bw2.out.2.2.c0
              have t1w2 := Bw2.out.2.2.c1
              have t2w2 := Bw2.out.2.2.lt
              go_wp2
              go_roundw
              case rel => exact ⟨k + 1, by omega, by go_num, ⟨F, congrArg Value.string (by rw [← HF.out]; simp only [cat_str]), by omega, Lib.hid HS2.out.symm⟩, Lib.hid ⟨Bw2.out.1, Bw2.out.2.1⟩⟩
              case measure => simp [intOf]; omega
    · have hk : k = l.length := by omega
      have HE : Hid (S = T) := Lib.hid (by have := HS.out; rw [hk, List.take_length, HTT.out] at this; exact this)
      have hS2 : S.length ≤ 64 := by omega
      have c0 := HB.out.2.c0
      have c1 := HB.out.2.c1
      have hwsz := HB.out.2.lt
      clear hk hS HS
      by_cases hl0 : l.length = 0
      · have z0 : ((l.length : Int) == 0) = true := by rw [hl0]; rfl
        have HF : Hid (textB dn l = [48]) := Lib.hid (by rw [HTX.out, if_pos hl0])
        obtain rfl : l = [] := List.length_eq_zero_iff.1 hl0
        have zk : decide ((k : Int) < 0) = false := decide_eq_false (by omega)
        clear hl0 z0 hS2 hlt
        go_wp2
        go_ret
        exact ⟨ret_str HF.out.symm, HB.out.1⟩
      · have z0 : ((l.length : Int) == 0) = false := by rw [beq_eq_false_iff_ne]; omega
        by_cases hd : (dn : Int) = 1
        · have hd7 : ((dn : Int) == 1) = true := by simpa using hd
          have HF : Hid (textB dn l = S) := Lib.hid (by rw [HTX.out, if_neg hl0, if_pos hd, HE.out])
          clear hd hl0
          go_wp2
          go_ret
          exact ⟨ret_str HF.out.symm, HB.out.1⟩
        · have hd7 : ((dn : Int) == 1) = false := by rw [beq_eq_false_iff_ne]; exact hd
          by_cases h1 : 1 < l.length
          · have z1 : decide (1 < (l.length : Int)) = true := decide_eq_true (by omega)
            have HF : Hid (textB dn l = ([40] ++ S ++ [41]) ++ [47] ++ D) := Lib.hid (by rw [HTX.out, if_neg hl0, if_neg hd, if_pos h1, HE.out])
            clear hd h1 hl0
            go_wp2_with fail
            refine (HDG.out _).mono ?_
            rintro e w2 ⟨rfl, hb2⟩
            have HB2 := Lib.hid (HB.out.1.trans (hb2.mono HB.out.1.size))
            clear hb2
            go_wp2
            go_ret
            exact ⟨ret_bytes (by rw [HF.out]; simp only [cat_str]), HB2.out⟩
          · have z1 : decide (1 < (l.length : Int)) = false := decide_eq_false (by omega)
            have HF : Hid (textB dn l = S ++ [47] ++ D) := Lib.hid (by rw [HTX.out, if_neg hl0, if_neg hd, if_neg h1, HE.out])
            clear hd h1 hl0
            go_wp2_with fail
            refine (HDG.out _).mono ?_
            rintro e w2 ⟨rfl, hb2⟩
            have HB2 := Lib.hid (HB.out.1.trans (hb2.mono HB.out.1.size))
            clear hb2
            go_wp2
            go_ret
            exact ⟨ret_bytes (by rw [HF.out]; simp only [cat_str]), HB2.out⟩
end Go.Proofs.YtedpafdfecofnaaGreatDoor
