/-
  Contracts of the program's own functions (and their plain mathematics), on the way to the law: each for all arguments that its hypotheses let.
-/
import Derived.Test.YtkjclafbpocabaaGreatDoorG10
import Derived.WalkKit
import Derived.WalkSpells
import Derived.WalkLawsBesides
import Derived.Deep.QuietTactic
import Derived.BigQuiet
import Derived.Lib.Hide
import Derived.WalkSmall
import Derived.Maps.OwnSet
import Derived.Maps.RangeWalk
import Derived.Deep.RegionWith
import Derived.Deep.RegionHeld3
import Derived.OneCell
import Derived.StillTailTactics
import Derived.Laws.Externs
import Derived.RangeFuncBox
import Derived.Test.YtkjclafbpocabaaGreatDoorPlain
set_option linter.unusedSimpArgs false
set_option linter.unusedVariables false

/-! ## S25 -/
namespace Go.Proofs.YtkjclafbpocabaaGreatDoor
open Go.RowKit Go.Maps Go.Shelf Go.Sort
def TimesI (w wr : World) (g cap : Nat) (ws : List Nat) (n i c : Nat) : Prop :=
  ∃ L, OwnW wr w.heap.size (.slice (some ⟨g, 0, none⟩) (ws.length + 1) (ws.length + 1)) L ∧ L.length = ws.length + 1 ∧ Small L ∧ valW (L.take i) + 18446744073709551616 ^ i * c = valW (ws.take i) * n ∧ c ≤ n ∧ Below w.heap.size w wr

set_option maxRecDepth 100000 in
set_option maxHeartbeats 2000000 in
theorem times_any (v : Value) (a n : Nat) (w : World) (h : WordsAt w v (toW a)) (hla : (toW a).length ≤ 1000) (hn : n < 18446744073709551616) :
    Calls Tryz.prog 236 #[v, .int .u64 n] w (NatTo (a * n) w) := by
  obtain ⟨ws, hws⟩ : ∃ ws, toW a = ws := ⟨_, rfl⟩
  have ha : valW ws = a := by rw [← hws, valW_toW]
  have hsa : Small ws := by rw [← hws]; exact toW_small a
  rw [hws] at h hla
  clear hws
  obtain ⟨p, cap, rfl, hp⟩ := h.reads
  have HP := Lib.hid hp
  have HA := Lib.hid ha
  have HSA := Lib.hid hsa
  clear h hp ha hsa
  go_enter Tryz.func236, Tryz.ntmps236
  obtain ⟨i0, hi, hz0, hz1, hz2⟩ := info_parts info114
  go_wp2_with (first | (at_make; refine wpList_make_full _ rfl _ _ 204 rfl w.heap.size 220 i0 (.int .u64 0) 1 und104 hi hz0 hz1 .i64 .i64 _ _ (ws.length + 1) rfl rfl (by simp) (by simp) (by rw [hz2]; omega) (by unfold maxLen; omega) (Nat.le_refl _) ?_; intro w1 hown hgrow; rw [made_zero] at hown; have HOW := Lib.hid hown; have HGR := Lib.hid hgrow; clear hown hgrow))
  have HI0 : Hid (TimesI w w1 w.heap.size 0 ws n 0 0) := by
    refine Lib.hid ⟨List.replicate (ws.length + 1) 0, ?_, by simp, ?_, by simp [valW], by omega, ?_⟩
    · have := HOW.out
      unfold OwnW
      rw [List.length_replicate]
      exact this
    · intro x hx; rw [List.eq_of_mem_replicate hx]; omega
    · exact (Below.refl _ w).grown HGR.out (Nat.le_refl _) (by intro q hq; cases hq)
  go_loopw [6, 18] (fun s t wr => ∃ i c : Nat, s = .int .u64 (c : Nat) ∧ t = .int .i64 (i : Nat) ∧ i ≤ ws.length ∧ Hid (TimesI w wr w.heap.size 0 ws n i c)) (fun _ t _ => ws.length - (intOf t).toNat)
  case atStart => exact ⟨0, 0, rfl, rfl, Nat.zero_le _, HI0⟩
  case round =>
    obtain ⟨i, c, rfl, rfl, hi', HI⟩ := hrel
    by_cases hlt : i < ws.length
    · obtain ⟨L, ho, hL, hsm, hval, hc, hbw⟩ := HI.out
      obtain ⟨bk, off, rfl, hcap1, hbk, hc1⟩ := HP.out i hlt
      have hc1 := (hbw.cell (p := ⟨bk, off + i, none⟩) hbk).trans hc1
      obtain ⟨x, hx⟩ : ∃ x, ws.getD i 0 = x := ⟨_, rfl⟩
      rw [hx] at hc1
      have hx' : x < 18446744073709551616 := by rw [← hx]; exact getD_small HSA.out _
      have HX := Lib.hid hx
      have ho' : OwnW wr w.heap.size (.slice (some ⟨w.heap.size, 0, none⟩) L.length (ws.length + 1)) L := by rw [hL]; exact ho
      have hci := ho'.cellAt i (by rw [hL]; omega)
      have hfi : wr.frozen? ⟨w.heap.size, i, none⟩ = false := World.ownsRow.frozenAt ho' i
      obtain ⟨z, hz⟩ : ∃ z, L.getD i 0 = z := ⟨_, rfl⟩
      rw [hz] at hci
      have HO' := Lib.hid ho'
      have HBW := Lib.hid hbw
      have HSM := Lib.hid hsm
      have HVAL := Lib.hid hval
      clear ho ho' hbw hsm hval hz hx
      obtain ⟨hi64, lo, hml, hmul⟩ : ∃ hi lo : Nat, (∀ w0, Calls Tryz.prog 258 #[.int .u64 x, .int .u64 n] w0 fun e w' => e = .returned (.tuple #[.int .u64 hi, .int .u64 lo]) ∧ w' = w0) ∧ Hid (lo + 18446744073709551616 * hi = x * n ∧ lo < 18446744073709551616) :=
        ⟨_, _, fun w0 => Tryz.bits_Mul64 x n hx' hn w0, Lib.hid ⟨by omega, by omega⟩⟩
      obtain ⟨s, co, hadd, hlc⟩ : ∃ s co : Nat, (∀ w0, (callFunc 257 #[.int .u64 lo, .int .u64 c, .int .u64 0]).run Tryz.prog w0 = .ok (.value (.tuple #[.int .u64 s, .int .u64 co])) w0) ∧ Hid (s + 18446744073709551616 * co = lo + c ∧ s < 18446744073709551616) :=
        ⟨_, _, fun w0 => add64_run lo c 0 (by omega) w0, Lib.hid ⟨by omega, by omega⟩⟩
      obtain ⟨hm1, hm2⟩ := hmul.out
      obtain ⟨hs1, hs2⟩ := hlc.out
      have hcn : hi64 + co ≤ n := by
        have h1 : 18446744073709551616 * (hi64 + co) ≤ x * n + c := by omega
        have h2 : x * n + c ≤ 18446744073709551616 * n := by
          have h3 : x * n + n = (x + 1) * n := by rw [Nat.add_mul, Nat.one_mul]
          have h4 : (x + 1) * n ≤ 18446744073709551616 * n := Nat.mul_le_mul_right _ (by omega)
          omega
        omega
      have hwr : (hi64 : Int) + (co : Int) < 18446744073709551616 := by omega
      have HM := Lib.hid hm1
      have HS := Lib.hid hs1
      clear hm1 hs1 hmul
      have HML := Lib.hid hml
      clear hml
      go_wp2_with fail
      refine (HML.out _).mono ?_
      rintro e w2 ⟨rfl, rfl⟩
      have HI2 : Hid (TimesI w (w2.setCell ⟨w.heap.size, i, none⟩ (.int .u64 (s : Nat))) w.heap.size 0 ws n (i + 1) (hi64 + co)) := by
        have h1 : OwnW (w2.setCell ⟨w.heap.size, i, none⟩ (.int .u64 (s : Nat))) w.heap.size (.slice (some ⟨w.heap.size, 0, none⟩) L.length (ws.length + 1)) (L.set i s) := HO'.out.store i s
        rw [hL] at h1
        refine Lib.hid ⟨L.set i s, h1, by rw [List.length_set, hL], small_set HSM.out hs2, ?_, hcn, HBW.out.setCell (by simp) _⟩
        rw [valW_take_succ, valW_take_succ ws, take_set_ge (Nat.le_refl i), getD_set_eq (by omega), HX.out]
        have hv := HVAL.out
        have hp : 18446744073709551616 ^ (i + 1) * (hi64 + co) = 18446744073709551616 ^ i * (18446744073709551616 * (hi64 + co)) := by rw [Nat.pow_succ, Nat.mul_assoc]
        rw [hp, Nat.add_mul]
        generalize 18446744073709551616 ^ i = P at hv ⊢
        have e0 : s + 18446744073709551616 * (hi64 + co) = x * n + c := by have := HM.out; have := HS.out; omega
        have e1 : P * s + P * (18446744073709551616 * (hi64 + co)) = P * (x * n + c) := by rw [← Nat.mul_add, e0]
        have e2 : P * (x * n + c) = P * x * n + P * c := by rw [Nat.mul_add, ← Nat.mul_assoc]
        omega
      clear HI
      go_wp2
      exact ⟨⟨i + 1, hi64 + co, by simp, by simp, by omega, HI2⟩, by simp [intOf]; omega⟩
    · have hie : i = ws.length := by omega
      subst hie
      obtain ⟨L, ho, hL, hsm, hval, hc, hbw⟩ := HI.out
      have ho' : OwnW wr w.heap.size (.slice (some ⟨w.heap.size, 0, none⟩) L.length (ws.length + 1)) L := by rw [hL]; exact ho
      have hci := ho'.cellAt ws.length (by rw [hL]; omega)
      have hfi : wr.frozen? ⟨w.heap.size, ws.length, none⟩ = false := World.ownsRow.frozenAt ho' ws.length
      obtain ⟨z, hz⟩ : ∃ z, L.getD ws.length 0 = z := ⟨_, rfl⟩
      rw [hz] at hci
      have HEND : Hid (WordsAt (wr.setCell ⟨w.heap.size, ws.length, none⟩ (.int .u64 (c : Nat))) (.slice (some ⟨w.heap.size, 0, none⟩) (L.set ws.length c).length (ws.length + 1)) (L.set ws.length c)) := by
        have h1 := ho'.store ws.length c
        have el : L.length = (L.set ws.length c).length := by rw [List.length_set]
        rw [el] at h1
        exact Lib.hid (h1.at (by rw [List.length_set, hL]; omega))
      have HSM := Lib.hid (small_set hsm (show c < 18446744073709551616 by omega) (k := ws.length))
      have HV : Hid (trimW (L.set ws.length c) = toW (a * n)) := by
        have e : L.set ws.length c = (L.set ws.length c).take (ws.length + 1) := by rw [List.take_of_length_le (by rw [List.length_set, hL]; exact Nat.le_refl _)]
        refine Lib.hid ?_
        unfold trimW
        rw [e, valW_take_succ, take_set_ge (Nat.le_refl _), getD_set_eq (by omega), hval, List.take_of_length_le (Nat.le_refl _), HA.out]
      have hlen2 : (L.set ws.length c).length = ws.length + 1 := by rw [List.length_set, hL]
      have htr := trimmed_any (some ⟨w.heap.size, 0, none⟩) (ws.length + 1) (L.set ws.length c) _ HEND.out HSM.out
      rw [hlen2, HV.out] at htr
      have HTR := Lib.hid htr
      have HBW : Hid (Below w.heap.size w (wr.setCell ⟨w.heap.size, ws.length, none⟩ (.int .u64 (c : Nat)))) := Lib.hid (hbw.setCell (by simp) _)
      clear ho ho' hbw hsm hval hz htr hlen2 HEND HI hlt
      go_wp2_with fail
      refine HTR.out.mono ?_
      rintro e w2 ⟨rfl, hwt, rfl⟩
      have HWT := Lib.hid hwt
      clear hwt HTR
      go_wp2
      go_ret
      exact ⟨_, rfl, HWT.out, HBW.out⟩
end Go.Proofs.YtkjclafbpocabaaGreatDoor

/-! ## S26 -/
namespace Go.Proofs.YtkjclafbpocabaaGreatDoor
open Go.RowKit Go.Maps Go.Shelf Go.Sort
theorem wrap64 (n : Nat) : IntKind.u64.wrap (n : Int) = ((n % 18446744073709551616 : Nat) : Int) := by
  unfold IntKind.wrap
  simp [IntKind.signed, IntKind.bits]
theorem or64 (z x : Nat) (hz : z < 18446744073709551616) (hx : x < 18446744073709551616) : bits BinOp.or IntKind.u64 (z : Int) (x : Int) = ((z ||| x : Nat) : Int) := by
  have h1 : z ||| x < 2 ^ 64 := Nat.or_lt_two_pow (by omega) (by omega)
  have e1 : z % 2 ^ 64 = z := Nat.mod_eq_of_lt (by omega)
  have e2 : x % 2 ^ 64 = x := Nat.mod_eq_of_lt (by omega)
  have h : bits BinOp.or IntKind.u64 (z : Int) (x : Int) = IntKind.u64.wrap (((BitVec.ofInt 64 (z : Int) ||| BitVec.ofInt 64 (x : Int)).toNat : Nat) : Int) := rfl
  rw [h, BitVec.ofInt_natCast, BitVec.ofInt_natCast, BitVec.toNat_or, BitVec.toNat_ofNat, BitVec.toNat_ofNat, e1, e2, wrap64, Nat.mod_eq_of_lt (by omega)]
theorem or_low (k z q : Nat) (hz : z < 2 ^ k) : z ||| 2 ^ k * q = z + 2 ^ k * q := by
  rw [Nat.or_comm, ← Nat.two_pow_add_eq_or_of_lt hz, Nat.add_comm]
theorem or_dbl1 (z x : Nat) (hz : z < 2) (hx : x < 18446744073709551616) : bits BinOp.or IntKind.u64 (z : Int) (IntKind.u64.wrap ((x : Int) * 2)) = ((z + x * 2 % 18446744073709551616 : Nat) : Int) := by
  have e : ((x : Int) * 2) = ((x * 2 : Nat) : Int) := by omega
  rw [e, wrap64, or64 _ _ (by omega) (Nat.mod_lt _ (by decide))]
  have e2 : x * 2 % 18446744073709551616 = 2 ^ 1 * (x % 9223372036854775808) := by omega
  rw [e2, or_low 1 z _ (by omega)]
theorem or_dbl2 (z x : Nat) (hz : z < 4) (hx : x < 18446744073709551616) : bits BinOp.or IntKind.u64 (z : Int) (IntKind.u64.wrap ((x : Int) * 4)) = ((z + x * 4 % 18446744073709551616 : Nat) : Int) := by
  have e : ((x : Int) * 4) = ((x * 4 : Nat) : Int) := by omega
  rw [e, wrap64, or64 _ _ (by omega) (Nat.mod_lt _ (by decide))]
  have e2 : x * 4 % 18446744073709551616 = 2 ^ 2 * (x % 4611686018427387904) := by omega
  rw [e2, or_low 2 z _ (by omega)]
def DblI (w wr : World) (g cap : Nat) (ws : List Nat) (F i : Nat) : Prop :=
  ∃ L, OwnW wr w.heap.size (.slice (some ⟨g, 0, none⟩) (ws.length + 1) (ws.length + 1)) L ∧ L.length = ws.length + 1 ∧ Small L ∧ valW (L.take (i + 1)) = valW (ws.take i) * F ∧ L.getD i 0 < F ∧ (∀ j, i < j → L.getD j 0 = 0) ∧ Below w.heap.size w wr

set_option maxRecDepth 100000 in
set_option maxHeartbeats 2000000 in
theorem doubled1_any (v : Value) (a : Nat) (w : World) (h : WordsAt w v (toW a)) (hla : (toW a).length ≤ 1000) :
    Calls Tryz.prog 256 #[v, .int .i64 1] w (NatTo (a * 2) w) := by
  obtain ⟨ws, hws⟩ : ∃ ws, toW a = ws := ⟨_, rfl⟩
  have ha : valW ws = a := by rw [← hws, valW_toW]
  have hsa : Small ws := by rw [← hws]; exact toW_small a
  rw [hws] at h hla
  clear hws
  obtain ⟨p, cap, rfl, hp⟩ := h.reads
  have HP := Lib.hid hp
  have HA := Lib.hid ha
  have HSA := Lib.hid hsa
  clear h hp ha hsa
  go_enter Tryz.func256, Tryz.ntmps256
  obtain ⟨i0, hi, hz0, hz1, hz2⟩ := info_parts info114
  go_wp2_with (first | (at_make; refine wpList_make_full _ rfl _ _ 204 rfl w.heap.size 220 i0 (.int .u64 0) 1 und104 hi hz0 hz1 .i64 .i64 _ _ (ws.length + 1) rfl rfl (by simp) (by simp) (by rw [hz2]; omega) (by unfold maxLen; omega) (Nat.le_refl _) ?_; intro w1 hown hgrow; rw [made_zero] at hown; have HOW := Lib.hid hown; have HGR := Lib.hid hgrow; clear hown hgrow))
  have HI0 : Hid (DblI w w1 w.heap.size 0 ws 2 0) := by
    refine Lib.hid ⟨List.replicate (ws.length + 1) 0, ?_, by simp, ?_, by simp [valW, List.replicate_succ], by simp [List.replicate_succ], ?_, ?_⟩
    · have := HOW.out
      unfold OwnW
      rw [List.length_replicate]
      exact this
    · intro x hx; rw [List.eq_of_mem_replicate hx]; omega
    · intro j _; rw [List.getD_eq_getElem?_getD, List.getElem?_replicate]; split <;> rfl
    · exact (Below.refl _ w).grown HGR.out (Nat.le_refl _) (by intro q hq; cases hq)
  go_loopw [22] (fun t wr => ∃ i : Nat, t = .int .i64 (i : Nat) ∧ i ≤ ws.length ∧ Hid (DblI w wr w.heap.size 0 ws 2 i)) (fun t _ => ws.length - (intOf t).toNat)
  case atStart => exact ⟨0, rfl, Nat.zero_le _, HI0⟩
  case round =>
    obtain ⟨i, rfl, hi', HI⟩ := hrel
    by_cases hlt : i < ws.length
    · obtain ⟨L, ho, hL, hsm, hval, hlow, hzero, hbw⟩ := HI.out
      obtain ⟨bk, off, rfl, hcap1, hbk, hc1⟩ := HP.out i hlt
      have hc1 := (hbw.cell (p := ⟨bk, off + i, none⟩) hbk).trans hc1
      obtain ⟨x, hx⟩ : ∃ x, ws.getD i 0 = x := ⟨_, rfl⟩
      rw [hx] at hc1
      have hx' : x < 18446744073709551616 := by rw [← hx]; exact getD_small HSA.out _
      have HX := Lib.hid hx
      have ho' : OwnW wr w.heap.size (.slice (some ⟨w.heap.size, 0, none⟩) L.length (ws.length + 1)) L := by rw [hL]; exact ho
      have hci := ho'.cellAt i (by rw [hL]; omega)
      have hci1 := ho'.cellAt (i + 1) (by rw [hL]; omega)
      rw [hzero (i + 1) (by omega)] at hci1
      have hfi : wr.frozen? ⟨w.heap.size, i, none⟩ = false := World.ownsRow.frozenAt ho' i
      have hfi1 : wr.frozen? ⟨w.heap.size, i + 1, none⟩ = false := World.ownsRow.frozenAt ho' (i + 1)
      obtain ⟨z, hz⟩ : ∃ z, L.getD i 0 = z := ⟨_, rfl⟩
      rw [hz] at hci hlow
      have HO' := Lib.hid ho'
      have HBW := Lib.hid hbw
      have HSM := Lib.hid hsm
      have HVAL := Lib.hid hval
      have HZ := Lib.hid hzero
      have HZZ := Lib.hid hz
      clear ho ho' hbw hsm hval hz hx hzero
      have hij : (i : Int) < (ws.length : Int) := by omega
      have hij2 : (i : Int) < (ws.length : Int) + 1 := by omega
      have hij3 : (0 : Int) ≤ (i : Int) := by omega
      have hij4 : (i : Int) + 1 < (ws.length : Int) + 1 := by omega
      obtain ⟨y, hy, hor⟩ : ∃ y : Nat, Hid (y = z + x * 2 % 18446744073709551616) ∧ bits BinOp.or IntKind.u64 (z : Int) (IntKind.u64.wrap ((x : Int) * 2)) = (y : Int) := ⟨_, Lib.hid rfl, or_dbl1 z x hlow hx'⟩
      have HO2 : Hid (OwnW ((wr.setCell ⟨w.heap.size, i, none⟩ (.int .u64 (y : Nat))).drew) w.heap.size (.slice (some ⟨w.heap.size, 0, none⟩) (L.set i y).length (ws.length + 1)) (L.set i y)) := by
        have h1 : OwnW (wr.setCell ⟨w.heap.size, i, none⟩ (.int .u64 (y : Nat))) w.heap.size (.slice (some ⟨w.heap.size, 0, none⟩) L.length (ws.length + 1)) (L.set i y) := HO'.out.store i y
        rw [List.length_set]
        exact Lib.hid h1
      have HB2 : Hid (Below w.heap.size w ((wr.setCell ⟨w.heap.size, i, none⟩ (.int .u64 (y : Nat))).drew)) := Lib.hid (HBW.out.setCell (by simp) _).drew
      have hci1 := HO2.out.cellAt (i + 1) (by rw [List.length_set, hL]; omega)
      have hg1 : (L.set i y).getD (i + 1) 0 = 0 := by
        have := HZ.out (i + 1) (by omega)
        simpa [List.getD_eq_getElem?_getD, List.getElem?_set] using this
      rw [hg1] at hci1
      have hfi1 := World.ownsRow.frozenAt HO2.out (i + 1)
      obtain ⟨hh, hhe, hor2⟩ : ∃ hh : Nat, Hid (hh = x / 9223372036854775808) ∧ bits BinOp.or IntKind.u64 0 ((x : Int) / 9223372036854775808) = (hh : Int) := ⟨_, Lib.hid rfl, by
        have e : ((x : Int) / 9223372036854775808) = ((x / 9223372036854775808 : Nat) : Int) := by omega
        rw [e]
        exact (or64 0 _ (by omega) (by omega)).trans (by rw [Nat.zero_or])⟩
      clear hg1
      go_wp2_with fail
      go_region
      generalize (wr.setCell ⟨w.heap.size, i, none⟩ (.int .u64 (y : Nat))).drew = W1 at HO2 HB2 hci1 hfi1 ⊢
      go_wp2_with fail
      go_region
      have HI2 : Hid (DblI w ((W1.setCell ⟨w.heap.size, i + 1, none⟩ (.int .u64 (hh : Nat))).drew) w.heap.size 0 ws 2 (i + 1)) := by
        have hLs : (L.set i y).length = ws.length + 1 := by rw [List.length_set, hL]
        have h1 : OwnW (W1.setCell ⟨w.heap.size, i + 1, none⟩ (.int .u64 (hh : Nat))) w.heap.size (.slice (some ⟨w.heap.size, 0, none⟩) (L.set i y).length (ws.length + 1)) ((L.set i y).set (i + 1) hh) := HO2.out.store (i + 1) hh
        rw [hLs] at h1
        have hye := hy.out
        have hhe' := hhe.out
        refine Lib.hid ⟨(L.set i y).set (i + 1) hh, h1, by rw [List.length_set, hLs], small_set (small_set HSM.out (by omega)) (by omega), ?_, ?_, ?_, (HB2.out.setCell (by simp) _).drew⟩
        · rw [valW_take_succ, take_set_ge (Nat.le_refl _), getD_set_eq (by rw [hLs]; omega), valW_take_succ, take_set_ge (Nat.le_refl _), getD_set_eq (by omega), valW_take_succ ws, HX.out]
          have hv := HVAL.out
          rw [valW_take_succ, HZZ.out] at hv
          have hp : 18446744073709551616 ^ (i + 1) * hh = 18446744073709551616 ^ i * (18446744073709551616 * hh) := by rw [Nat.pow_succ, Nat.mul_assoc]
          rw [hp, Nat.add_mul]
          generalize 18446744073709551616 ^ i = P at hv ⊢
          have e1 : P * y + P * (18446744073709551616 * hh) = P * (z + x * 2) := by rw [← Nat.mul_add]; congr 1; omega
          have e2 : P * (z + x * 2) = P * z + P * x * 2 := by rw [Nat.mul_add, ← Nat.mul_assoc]
          omega
        · rw [getD_set_eq (by rw [hLs]; omega)]; omega
        · intro j hj
          have := HZ.out j (by omega)
          simpa [List.getD_eq_getElem?_getD, List.getElem?_set, show ¬ i + 1 = j by omega, show ¬ i = j by omega] using this
      clear HI hlow
      go_wp2_with fail
      exact ⟨⟨i + 1, by simp, by omega, HI2⟩, by simp [intOf]; omega⟩
    · have hie : i = ws.length := by omega
      subst hie
      obtain ⟨L, ho, hL, hsm, hval, hlow, hzero, hbw⟩ := HI.out
      have hL' : L.take (ws.length + 1) = L := List.take_of_length_le (by omega)
      have HV : Hid (trimW L = toW (a * 2)) := by
        refine Lib.hid ?_
        unfold trimW
        rw [hL', List.take_of_length_le (Nat.le_refl _), HA.out] at hval
        rw [hval]
      have ho' : OwnW wr w.heap.size (.slice (some ⟨w.heap.size, 0, none⟩) L.length (ws.length + 1)) L := by rw [hL]; exact ho
      have htr := trimmed_any (some ⟨w.heap.size, 0, none⟩) (ws.length + 1) L _ (ho'.at (by omega)) hsm
      rw [hL, HV.out] at htr
      have HTR := Lib.hid htr
      have HBW := Lib.hid hbw
      clear ho ho' hbw hsm hval htr HI hlt hL' hlow hzero
      go_wp2_with fail
      refine HTR.out.mono ?_
      rintro e w2 ⟨rfl, hwt, rfl⟩
      have HWT := Lib.hid hwt
      clear hwt HTR
      go_wp2
      go_ret
      exact ⟨_, rfl, HWT.out, HBW.out⟩

set_option maxRecDepth 100000 in
set_option maxHeartbeats 2000000 in
theorem doubled2_any (v : Value) (a : Nat) (w : World) (h : WordsAt w v (toW a)) (hla : (toW a).length ≤ 1000) :
    Calls Tryz.prog 256 #[v, .int .i64 2] w (NatTo (a * 4) w) := by
  obtain ⟨ws, hws⟩ : ∃ ws, toW a = ws := ⟨_, rfl⟩
  have ha : valW ws = a := by rw [← hws, valW_toW]
  have hsa : Small ws := by rw [← hws]; exact toW_small a
  rw [hws] at h hla
  clear hws
  obtain ⟨p, cap, rfl, hp⟩ := h.reads
  have HP := Lib.hid hp
  have HA := Lib.hid ha
  have HSA := Lib.hid hsa
  clear h hp ha hsa
  go_enter Tryz.func256, Tryz.ntmps256
  obtain ⟨i0, hi, hz0, hz1, hz2⟩ := info_parts info114
  go_wp2_with (first | (at_make; refine wpList_make_full _ rfl _ _ 204 rfl w.heap.size 220 i0 (.int .u64 0) 1 und104 hi hz0 hz1 .i64 .i64 _ _ (ws.length + 1) rfl rfl (by simp) (by simp) (by rw [hz2]; omega) (by unfold maxLen; omega) (Nat.le_refl _) ?_; intro w1 hown hgrow; rw [made_zero] at hown; have HOW := Lib.hid hown; have HGR := Lib.hid hgrow; clear hown hgrow))
  have HI0 : Hid (DblI w w1 w.heap.size 0 ws 4 0) := by
    refine Lib.hid ⟨List.replicate (ws.length + 1) 0, ?_, by simp, ?_, by simp [valW, List.replicate_succ], by simp [List.replicate_succ], ?_, ?_⟩
    · have := HOW.out
      unfold OwnW
      rw [List.length_replicate]
      exact this
    · intro x hx; rw [List.eq_of_mem_replicate hx]; omega
    · intro j _; rw [List.getD_eq_getElem?_getD, List.getElem?_replicate]; split <;> rfl
    · exact (Below.refl _ w).grown HGR.out (Nat.le_refl _) (by intro q hq; cases hq)
  go_loopw [22] (fun t wr => ∃ i : Nat, t = .int .i64 (i : Nat) ∧ i ≤ ws.length ∧ Hid (DblI w wr w.heap.size 0 ws 4 i)) (fun t _ => ws.length - (intOf t).toNat)
  case atStart => exact ⟨0, rfl, Nat.zero_le _, HI0⟩
  case round =>
    obtain ⟨i, rfl, hi', HI⟩ := hrel
    by_cases hlt : i < ws.length
    · obtain ⟨L, ho, hL, hsm, hval, hlow, hzero, hbw⟩ := HI.out
      obtain ⟨bk, off, rfl, hcap1, hbk, hc1⟩ := HP.out i hlt
      have hc1 := (hbw.cell (p := ⟨bk, off + i, none⟩) hbk).trans hc1
      obtain ⟨x, hx⟩ : ∃ x, ws.getD i 0 = x := ⟨_, rfl⟩
      rw [hx] at hc1
      have hx' : x < 18446744073709551616 := by rw [← hx]; exact getD_small HSA.out _
      have HX := Lib.hid hx
      have ho' : OwnW wr w.heap.size (.slice (some ⟨w.heap.size, 0, none⟩) L.length (ws.length + 1)) L := by rw [hL]; exact ho
      have hci := ho'.cellAt i (by rw [hL]; omega)
      have hci1 := ho'.cellAt (i + 1) (by rw [hL]; omega)
      rw [hzero (i + 1) (by omega)] at hci1
      have hfi : wr.frozen? ⟨w.heap.size, i, none⟩ = false := World.ownsRow.frozenAt ho' i
      have hfi1 : wr.frozen? ⟨w.heap.size, i + 1, none⟩ = false := World.ownsRow.frozenAt ho' (i + 1)
      obtain ⟨z, hz⟩ : ∃ z, L.getD i 0 = z := ⟨_, rfl⟩
      rw [hz] at hci hlow
      have HO' := Lib.hid ho'
      have HBW := Lib.hid hbw
      have HSM := Lib.hid hsm
      have HVAL := Lib.hid hval
      have HZ := Lib.hid hzero
      have HZZ := Lib.hid hz
      clear ho ho' hbw hsm hval hz hx hzero
      have hij : (i : Int) < (ws.length : Int) := by omega
      have hij2 : (i : Int) < (ws.length : Int) + 1 := by omega
      have hij3 : (0 : Int) ≤ (i : Int) := by omega
      have hij4 : (i : Int) + 1 < (ws.length : Int) + 1 := by omega
      obtain ⟨y, hy, hor⟩ : ∃ y : Nat, Hid (y = z + x * 4 % 18446744073709551616) ∧ bits BinOp.or IntKind.u64 (z : Int) (IntKind.u64.wrap ((x : Int) * 4)) = (y : Int) := ⟨_, Lib.hid rfl, or_dbl2 z x hlow hx'⟩
      have HO2 : Hid (OwnW ((wr.setCell ⟨w.heap.size, i, none⟩ (.int .u64 (y : Nat))).drew) w.heap.size (.slice (some ⟨w.heap.size, 0, none⟩) (L.set i y).length (ws.length + 1)) (L.set i y)) := by
        have h1 : OwnW (wr.setCell ⟨w.heap.size, i, none⟩ (.int .u64 (y : Nat))) w.heap.size (.slice (some ⟨w.heap.size, 0, none⟩) L.length (ws.length + 1)) (L.set i y) := HO'.out.store i y
        rw [List.length_set]
        exact Lib.hid h1
      have HB2 : Hid (Below w.heap.size w ((wr.setCell ⟨w.heap.size, i, none⟩ (.int .u64 (y : Nat))).drew)) := Lib.hid (HBW.out.setCell (by simp) _).drew
      have hci1 := HO2.out.cellAt (i + 1) (by rw [List.length_set, hL]; omega)
      have hg1 : (L.set i y).getD (i + 1) 0 = 0 := by
        have := HZ.out (i + 1) (by omega)
        simpa [List.getD_eq_getElem?_getD, List.getElem?_set] using this
      rw [hg1] at hci1
      have hfi1 := World.ownsRow.frozenAt HO2.out (i + 1)
      obtain ⟨hh, hhe, hor2⟩ : ∃ hh : Nat, Hid (hh = x / 4611686018427387904) ∧ bits BinOp.or IntKind.u64 0 ((x : Int) / 4611686018427387904) = (hh : Int) := ⟨_, Lib.hid rfl, by
        have e : ((x : Int) / 4611686018427387904) = ((x / 4611686018427387904 : Nat) : Int) := by omega
        rw [e]
        exact (or64 0 _ (by omega) (by omega)).trans (by rw [Nat.zero_or])⟩
      clear hg1
      go_wp2_with fail
      go_region
      generalize (wr.setCell ⟨w.heap.size, i, none⟩ (.int .u64 (y : Nat))).drew = W1 at HO2 HB2 hci1 hfi1 ⊢
      go_wp2_with fail
      go_region
      have HI2 : Hid (DblI w ((W1.setCell ⟨w.heap.size, i + 1, none⟩ (.int .u64 (hh : Nat))).drew) w.heap.size 0 ws 4 (i + 1)) := by
        have hLs : (L.set i y).length = ws.length + 1 := by rw [List.length_set, hL]
        have h1 : OwnW (W1.setCell ⟨w.heap.size, i + 1, none⟩ (.int .u64 (hh : Nat))) w.heap.size (.slice (some ⟨w.heap.size, 0, none⟩) (L.set i y).length (ws.length + 1)) ((L.set i y).set (i + 1) hh) := HO2.out.store (i + 1) hh
        rw [hLs] at h1
        have hye := hy.out
        have hhe' := hhe.out
        refine Lib.hid ⟨(L.set i y).set (i + 1) hh, h1, by rw [List.length_set, hLs], small_set (small_set HSM.out (by omega)) (by omega), ?_, ?_, ?_, (HB2.out.setCell (by simp) _).drew⟩
        · rw [valW_take_succ, take_set_ge (Nat.le_refl _), getD_set_eq (by rw [hLs]; omega), valW_take_succ, take_set_ge (Nat.le_refl _), getD_set_eq (by omega), valW_take_succ ws, HX.out]
          have hv := HVAL.out
          rw [valW_take_succ, HZZ.out] at hv
          have hp : 18446744073709551616 ^ (i + 1) * hh = 18446744073709551616 ^ i * (18446744073709551616 * hh) := by rw [Nat.pow_succ, Nat.mul_assoc]
          rw [hp, Nat.add_mul]
          generalize 18446744073709551616 ^ i = P at hv ⊢
          have e1 : P * y + P * (18446744073709551616 * hh) = P * (z + x * 4) := by rw [← Nat.mul_add]; congr 1; omega
          have e2 : P * (z + x * 4) = P * z + P * x * 4 := by rw [Nat.mul_add, ← Nat.mul_assoc]
          omega
        · rw [getD_set_eq (by rw [hLs]; omega)]; omega
        · intro j hj
          have := HZ.out j (by omega)
          simpa [List.getD_eq_getElem?_getD, List.getElem?_set, show ¬ i + 1 = j by omega, show ¬ i = j by omega] using this
      clear HI hlow
      go_wp2_with fail
      exact ⟨⟨i + 1, by simp, by omega, HI2⟩, by simp [intOf]; omega⟩
    · have hie : i = ws.length := by omega
      subst hie
      obtain ⟨L, ho, hL, hsm, hval, hlow, hzero, hbw⟩ := HI.out
      have hL' : L.take (ws.length + 1) = L := List.take_of_length_le (by omega)
      have HV : Hid (trimW L = toW (a * 4)) := by
        refine Lib.hid ?_
        unfold trimW
        rw [hL', List.take_of_length_le (Nat.le_refl _), HA.out] at hval
        rw [hval]
      have ho' : OwnW wr w.heap.size (.slice (some ⟨w.heap.size, 0, none⟩) L.length (ws.length + 1)) L := by rw [hL]; exact ho
      have htr := trimmed_any (some ⟨w.heap.size, 0, none⟩) (ws.length + 1) L _ (ho'.at (by omega)) hsm
      rw [hL, HV.out] at htr
      have HTR := Lib.hid htr
      have HBW := Lib.hid hbw
      clear ho ho' hbw hsm hval htr HI hlt hL' hlow hzero
      go_wp2_with fail
      refine HTR.out.mono ?_
      rintro e w2 ⟨rfl, hwt, rfl⟩
      have HWT := Lib.hid hwt
      clear hwt HTR
      go_wp2
      go_ret
      exact ⟨_, rfl, HWT.out, HBW.out⟩
end Go.Proofs.YtkjclafbpocabaaGreatDoor
