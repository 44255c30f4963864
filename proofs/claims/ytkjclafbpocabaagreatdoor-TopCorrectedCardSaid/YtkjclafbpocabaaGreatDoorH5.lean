/-
  Contracts of the program's own functions (and their plain mathematics), on the way to the law: each for all arguments that its hypotheses let.
-/
import Derived.Test.YtkjclafbpocabaaGreatDoorH4
import Derived.Laws.RangeAny
import Derived.WalkKit
import Derived.WalkSpells
import Derived.WalkLawsBesides
import Derived.Deep.QuietTactic
import Derived.BigQuiet
import Derived.Lib.Hide
import Derived.WalkSmall
import Derived.Maps.OwnSet
import Derived.Maps.RangeWalk
import Derived.Deep.RegionWith
import Derived.Deep.RegionHeld3
import Derived.Deep.DrawnRows
import Derived.Deep.DeepCutAuto
import Derived.OneCell
import Derived.KernelRfl
import Derived.Laws.StructEq
import Derived.StillTailTactics
import Derived.Laws.Externs
import Derived.RangeFuncBox
import Derived.Test.YtkjclafbpocabaaGreatDoorPlain
set_option linter.unusedSimpArgs false
set_option linter.unusedVariables false

/-! ## ZC6 -/
namespace Go.Proofs.YtkjclafbpocabaaGreatDoor
open Go.RowKit Go.Maps Go.Shelf Go.Sort
theorem ext_drop (L : List UInt8) (k : Nat) : (⟨L.toArray⟩ : ByteArray).extract k L.length = ⟨(L.drop k).toArray⟩ := by
  apply ByteArray.ext
  apply Array.toList_inj.1
  rw [Lib.extract_data]
  rw [List.take_of_length_le (by simp)]
theorem readNum_at (L : List UInt8) (k : Nat) (hk : k ≤ L.length) (ha : ∀ b ∈ L.take k, isDigB b = true) (hn : ∀ h : k < L.length, isDigB L[k] = false) : readNum L = (numC (L.take k), L.drop k) := by
  have h := tw_all isDigB (L.take k) (L.drop k) ha (fun b R' e => by
    have hl : k < L.length := by
      have := congrArg List.length e
      rw [List.length_drop] at this
      simp at this; omega
    have e2 : L.drop k = L[k] :: L.drop (k + 1) := List.drop_eq_getElem_cons hl
    rw [e2] at e
    have := (List.cons.inj e).1
    rw [← this]; exact hn hl)
  rw [List.take_append_drop] at h
  unfold readNum
  rw [h.1, h.2]
theorem numC_bd (ds : List UInt8) (hd : ∀ b ∈ ds, isDigB b = true) : 0 ≤ numC ds ∧ numC ds ≤ 1001 := by
  unfold numC
  have key : ∀ (ds : List UInt8) (n : Int), (∀ b ∈ ds, isDigB b = true) → 0 ≤ n → n ≤ 1001 → 0 ≤ ds.foldl (fun n b => min (10 * n + dvB b) 1001) n ∧ ds.foldl (fun n b => min (10 * n + dvB b) 1001) n ≤ 1001 := by
    intro ds
    induction ds with
    | nil => intro n _ h1 h2; exact ⟨h1, h2⟩
    | cons b ds ih =>
      intro n hd h1 h2
      have hb := hd b (by simp)
      unfold isDigB at hb
      simp only [Bool.and_eq_true, decide_eq_true_eq] at hb
      have h3 : dvB b = (b.toNat : Int) - 48 := rfl
      simp only [List.foldl_cons]
      exact ih _ (fun c hc => hd c (by simp [hc])) (by omega) (by omega)
  exact key ds 0 hd (by omega) (by omega)
theorem take_snocB (L : List UInt8) (k : Nat) (h : k < L.length) : L.take (k + 1) = L.take k ++ [L[k]] := List.take_succ_eq_append_getElem h
def ReadIntTo (L : List UInt8) (w : World) (e : Ending) (w' : World) : Prop := e = .returned (.tuple #[.int .i64 (readNum L).1, str (readNum L).2]) ∧ Below w.heap.size w w'
set_option maxRecDepth 100000 in
set_option maxHeartbeats 4000000 in
theorem readInteger_any (L : List UInt8) (hL : L.length ≤ 1000) (w : World) : Calls Tryz.prog 192 #[str L] w (ReadIntTo L w) := by
  go_enter Tryz.func192, Tryz.ntmps192
  go_wp2
  go_loopw [2] (fun n w' => ∃ (k : Nat) (q : Int), k ≤ L.length ∧ w' = w.iter ⟨L.toArray⟩ k ∧ n = .int .i64 q ∧ 0 ≤ q ∧ q ≤ 1001 ∧ Hid (∀ b ∈ L.take k, isDigB b = true) ∧ Hid (q = numC (L.take k))) (fun _ w' => L.length - w'.iterPos w.heap.size)
  case atStart => exact ⟨0, 0, Nat.zero_le _, rfl, rfl, by omega, by omega, Lib.hid (by simp), Lib.hid rfl⟩
  case round =>
    obtain ⟨k, q, hk, rfl, rfl, hq0, hq1, HA, HQ⟩ := hrel
    by_cases hkl : k < L.length
    · have hp : k < (⟨L.toArray⟩ : ByteArray).size := by show k < L.toArray.size; simpa using hkl
      obtain ⟨b, hbv⟩ : ∃ b, L[k] = b := ⟨_, rfl⟩
      have hbk : ((⟨L.toArray⟩ : ByteArray)[k]'hp) = b := by rw [← hbv]; rfl
      by_cases hb : b.toNat < 128
      · have hnx : ∀ ty, (Instr.next (.pointer (some ⟨w.heap.size, 0, none⟩)) true ty).run Tryz.prog (w.iter ⟨L.toArray⟩ k) = .ok (.tuple #[.bool true, .int .i64 k, .int .i32 b.toNat]) (w.iter ⟨L.toArray⟩ (k + 1)) := fun ty => by rw [run_next_ascii w ⟨L.toArray⟩ k ty hp (by rw [hbk]; exact hb), hbk]
        by_cases hd : 48 ≤ b.toNat ∧ b.toNat ≤ 57
        · obtain ⟨hd1, hd2⟩ := hd
          have hdb : isDigB b = true := by simp [isDigB, hd1, hd2]
          have HA2 : Hid (∀ c ∈ L.take (k + 1), isDigB c = true) := Lib.hid (fun c hc => by
            rw [take_snocB L k hkl, hbv] at hc
            rcases List.mem_append.1 hc with h | h
            · exact HA.out c h
            · rw [List.mem_singleton] at h; subst h; exact hdb)
          have HQ2 : Hid (min (10 * q + ((b.toNat : Int) - 48)) 1001 = numC (L.take (k + 1))) := Lib.hid (by rw [take_snocB L k hkl, hbv, numC_snoc, ← HQ.out]; rfl)
          have h48 : ¬ (b.toNat : Int) < 48 := by omega
          have h57 : ¬ 57 < (b.toNat : Int) := by omega
          clear hdb hbk hbv
          go_wp2
          have hbd := numC_bd _ HA2.out
          rw [← HQ2.out] at hbd
          go_roundw
          case rel => exact ⟨k + 1, _, by omega, rfl, rfl, hbd.1, hbd.2, HA2, HQ2⟩
          case measure => simp; omega
        · have hdb : isDigB b = false := by
            cases h : isDigB b with
            | false => rfl
            | true =>
              unfold isDigB at h
              simp only [Bool.and_eq_true, decide_eq_true_eq] at h
              exact absurd h hd
          have HR : Hid (readNum L = (q, L.drop k)) := Lib.hid (by rw [readNum_at L k hk HA.out (fun h => by rw [hbv]; exact hdb), ← HQ.out])
          have hex := ext_drop L k
          have hB : Below w.heap.size w (w.iter ⟨L.toArray⟩ (k + 1)) := (Below.refl _ w).alloc (Nat.le_refl _) _
          have HB := Lib.hid hB
          clear hdb hB hbk hbv
          by_cases h48 : (b.toNat : Int) < 48
          · clear hd
            go_wp2
            go_quiet (fail)
            go_wp2
            refine bodyPost_ret (v := .tuple #[.int .i64 q, str (L.drop k)]) (by simp [results, Tryz.results192, go_sem, hex]) rfl ?_
            exact ⟨by rw [HR.out], below_drewN HB.out _⟩
          · have h57 : 57 < (b.toNat : Int) := by omega
            clear hd
            go_wp2
            go_quiet (fail)
            go_wp2
            refine bodyPost_ret (v := .tuple #[.int .i64 q, str (L.drop k)]) (by simp [results, Tryz.results192, go_sem, hex]) rfl ?_
            exact ⟨by rw [HR.out], below_drewN HB.out _⟩
      · have hdh := decode_high ⟨L.toArray⟩ k hp (by rw [hbk]; omega)
        have hnx : ∀ ty, (Instr.next (.pointer (some ⟨w.heap.size, 0, none⟩)) true ty).run Tryz.prog (w.iter ⟨L.toArray⟩ k) = _ := fun ty => run_next_any w ⟨L.toArray⟩ k ty hp
        obtain ⟨⟨r, n⟩, hrn⟩ : ∃ t, Utf8.decode ⟨L.toArray⟩ k = t := ⟨_, rfl⟩
        rw [hrn] at hdh hnx
        simp only at hdh hnx
        have hdb : isDigB b = false := by
          cases h : isDigB b with
          | false => rfl
          | true =>
            unfold isDigB at h
            simp only [Bool.and_eq_true, decide_eq_true_eq] at h
            omega
        have HR : Hid (readNum L = (q, L.drop k)) := Lib.hid (by rw [readNum_at L k hk HA.out (fun h => by rw [hbv]; exact hdb), ← HQ.out])
        have hex := ext_drop L k
        have hB : Below w.heap.size w (w.iter ⟨L.toArray⟩ (k + n)) := (Below.refl _ w).alloc (Nat.le_refl _) _
        have HB := Lib.hid hB
        have h48 : ¬ (r : Int) < 48 := by omega
        have h57 : 57 < (r : Int) := by omega
        clear hdb hB hbk hbv hrn hdh hb
        go_wp2
        go_quiet (fail)
        go_wp2
        refine bodyPost_ret (v := .tuple #[.int .i64 q, str (L.drop k)]) (by simp [results, Tryz.results192, go_sem, hex]) rfl ?_
        exact ⟨by rw [HR.out], below_drewN HB.out _⟩
    · have hnx : ∀ ty, (Instr.next (.pointer (some ⟨w.heap.size, 0, none⟩)) true ty).run Tryz.prog (w.iter ⟨L.toArray⟩ k) = _ := fun ty => run_next_end w ⟨L.toArray⟩ k ty (by show ¬ k < L.toArray.size; simpa using hkl)
      have HR : Hid (readNum L = (q, [])) := Lib.hid (by rw [readNum_at L k hk HA.out (fun h => absurd h hkl), ← HQ.out, List.drop_of_length_le (by omega)])
      have hB : Below w.heap.size w (w.iter ⟨L.toArray⟩ k) := (Below.refl _ w).alloc (Nat.le_refl _) _
      have HB := Lib.hid hB
      clear hB
      go_wp2
      refine bodyPost_ret (v := .tuple #[.int .i64 q, str []]) (by simp [results, Tryz.results192, go_sem]) rfl ?_
      exact ⟨by rw [HR.out], HB.out⟩
end Go.Proofs.YtkjclafbpocabaaGreatDoor

/-! ## ZC7 -/
namespace Go.Proofs.YtkjclafbpocabaaGreatDoor
open Go.RowKit Go.Maps Go.Shelf Go.Sort
/-- A box that holds what is left of a text. -/
def LeftAt (w : World) (bx : Nat) (L : List UInt8) : Prop := w.cell? ⟨bx, 0, none⟩ = some (str L) ∧ w.frozen? ⟨bx, 0, none⟩ = false ∧ bx < w.heap.size
theorem below_grown {w w' : World} (h : Below w.heap.size w w') (row : Option Nat) : w.grownBy w' row := ⟨h.os, h.tape, h.output, h.size, fun k hk _ => h.block k hk⟩
theorem LeftAt.kept {w w' : World} {bx : Nat} {L : List UInt8} {row : Option Nat} (h : LeftAt w bx L) (hg : w.grownBy w' row) (hne : some bx ≠ row) : LeftAt w' bx L :=
  ⟨hg.cell h.1 hne, (World.frozen?_of_block (hg.block bx h.2.2 hne)).trans h.2.1, Nat.lt_of_lt_of_le h.2.2 hg.size⟩
theorem LeftAt.set {w : World} {bx : Nat} {L : List UInt8} (h : LeftAt w bx L) (R : List UInt8) : LeftAt (w.setCell ⟨bx, 0, none⟩ (str R)) bx R :=
  ⟨World.cell?_setCell_same' w ⟨bx, 0, none⟩ (str R) (by rw [h.1]; rfl), by rw [World.frozen?_setCell]; exact h.2.1, by simpa using h.2.2⟩
def NextTo (bx : Nat) (F L : List UInt8) (w : World) (e : Ending) (w' : World) : Prop :=
  ∃ (n : Int) (ok : Bool) (R : List UInt8), e = .returned (.tuple #[.int .i64 n, .bool ok]) ∧ ((ok = true ∧ nextF F L = some (n, R)) ∨ (ok = false ∧ n = 0 ∧ R = L ∧ nextF F L = none)) ∧ LeftAt w' bx R ∧ w.grownBy w' (some bx)
theorem cut_any (L F M : List UInt8) (b : Bool) (hM : Hid (Lib.trimPrefix L F = M)) (hb : Hid (Lib.hasPrefix L F = b)) (w : World) : Calls Tryz.prog 191 #[str L, str F] w fun e w' => e = .returned (.tuple #[str M, .bool b]) ∧ w' = w := by
  refine (Tryz.strings_CutPrefix ⟨L.toArray⟩ ⟨F.toArray⟩ w).mono ?_
  rintro e w' ⟨rfl, rfl⟩
  exact ⟨by rw [← hM.out, ← hb.out], rfl⟩
set_option maxRecDepth 100000 in
set_option maxHeartbeats 4000000 in
theorem next_any (bx : Nat) (F L : List UInt8) (hL : L.length ≤ 1000) (w : World) (h : LeftAt w bx L) : Calls Tryz.prog 190 #[str F, .pointer (some ⟨bx, 0, none⟩)] w (NextTo bx F L w) := by
  have HL := Lib.hid h
  have x0 := h.1
  have xf := h.2.1
  clear h
  obtain ⟨M, hM⟩ : ∃ M, Lib.trimPrefix L F = M := ⟨_, rfl⟩
  have hMl : M.length ≤ 1000 := by
    rw [← hM]; unfold Lib.trimPrefix; split
    · rw [List.length_drop]; omega
    · exact hL
  have HM := Lib.hid hM
  cases hb : Lib.hasPrefix L F
  · have HF : Hid (nextF F L = none) := Lib.hid (by unfold nextF; rw [hb]; rfl)
    have HBB := Lib.hid hb
    clear hM hb
    go_enter Tryz.func190, Tryz.ntmps190
    go_wp2_with fail
    refine (cut_any L F M false HM HBB _).mono ?_
    rintro e w1 ⟨rfl, rfl⟩
    go_wp2
    refine bodyPost_ret (v := .tuple #[.int .i64 0, .bool false]) (by simp [results, Tryz.results190, go_sem]) rfl ?_
    exact ⟨0, false, L, rfl, .inr ⟨rfl, rfl, rfl, HF.out⟩, HL.out, World.grownBy.refl _ _⟩
  · have HF : Hid (nextF F L = some (readNum M)) := Lib.hid (by unfold nextF; rw [hb, if_pos rfl, ← hM]; unfold Lib.trimPrefix; rw [hb]; rfl)
    have HBB := Lib.hid hb
    obtain ⟨⟨n, R⟩, hnr⟩ : ∃ t, readNum M = t := ⟨_, rfl⟩
    have HNR := Lib.hid hnr
    have HI := Lib.hid (readInteger_any M hMl w)
    clear hM hb hnr
    go_enter Tryz.func190, Tryz.ntmps190
    go_wp2_with fail
    refine (cut_any L F M true HM HBB _).mono ?_
    rintro e w1 ⟨rfl, rfl⟩
    go_wp2_with fail
    refine HI.out.mono ?_
    rintro e w2 ⟨rfl, hb2⟩
    rw [HNR.out]
    have L2 := HL.out.kept (below_grown hb2 none) (by simp)
    have HG := Lib.hid (below_grown hb2 (some bx))
    have HL2 := Lib.hid L2
    have y0 := L2.1
    have yf := L2.2.1
    clear hb2 HI L2
    go_wp2
    refine bodyPost_ret (v := .tuple #[.int .i64 n, .bool true]) (by simp [results, Tryz.results190, go_sem]) rfl ?_
    exact ⟨n, true, R, rfl, .inl ⟨rfl, by rw [HF.out, HNR.out]⟩, HL2.out.set R, HG.out.trans (grownBy_setCell w2 ⟨bx, 0, none⟩ (str R))⟩
end Go.Proofs.YtkjclafbpocabaaGreatDoor
