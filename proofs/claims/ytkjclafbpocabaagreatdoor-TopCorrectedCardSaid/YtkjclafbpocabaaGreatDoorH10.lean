/-
  Contracts of the program's own functions (and their plain mathematics), on the way to the law: each for all arguments that its hypotheses let.
-/
import Derived.Test.YtkjclafbpocabaaGreatDoorH7
import Derived.WalkKit
import Derived.WalkSpells
import Derived.WalkLawsBesides
import Derived.Deep.QuietTactic
import Derived.BigQuiet
import Derived.Lib.Hide
import Derived.WalkSmall
import Derived.Maps.OwnSet
import Derived.Maps.RangeWalk
import Derived.Deep.RegionWith
import Derived.Deep.RegionHeld3
import Derived.Deep.DrawnRows
import Derived.Deep.DeepCutAuto
import Derived.OneCell
import Derived.KernelRfl
import Derived.Laws.StructEq
import Derived.StillTailTactics
import Derived.Laws.Externs
import Derived.RangeFuncBox
import Derived.Test.YtkjclafbpocabaaGreatDoorPlain
import Derived.Test.YtkjclafbpocabaaGreatDoorH4
import Derived.Test.YtkjclafbpocabaaGreatDoorH9
import Derived.Test.YtkjclafbpocabaaGreatDoorG24
set_option linter.unusedSimpArgs false
set_option linter.unusedVariables false

/-! ## ZC10 -/
namespace Go.Proofs.YtkjclafbpocabaaGreatDoor
open Go.RowKit Go.Maps Go.Shelf Go.Sort
theorem RowP.alloc {w : World} {base : Nat} {v : Value} {l : PiecesL} {ms : List Value} (h : RowP w base v l ms) (o : Obj) : RowP (w.alloc o) base v l ms :=
  h.kept (World.grownBy_alloc w o none) (by cases hv : v.ownBlock with | none => exact .inl rfl | some q => right; intro e; cases e)
theorem MarksIn.alloc {w : World} {l : PiecesL} {ms : List Value} {P : Nat → Prop} (h : MarksIn w l ms P) (o : Obj) : MarksIn (w.alloc o) l ms P := h.kept (World.grownBy_alloc w o none) (fun k _ e => by cases e)
theorem reader_any (L : List UInt8) (w : World) : Calls Tryz.prog 133 #[str L] w fun e w' => e = .returned (.func (.func 190) #[] #[.pointer (some ⟨w.heap.size, 0, none⟩)]) ∧ w' = w.alloc (.cells #[str L] 9) := by
  go_enter Tryz.func133, Tryz.ntmps133
  go_wp2
  go_ret
  exact ⟨rfl, rfl⟩
theorem left_new (w : World) (L : List UInt8) : LeftAt (w.alloc (.cells #[str L] 9)) w.heap.size L := ⟨(cell_new1 w (str L) _).1, (cell_new1 w (str L) _).2, by simp⟩
theorem nextF_all (s : List UInt8) : nextF [] s = some (readNum s) := by unfold nextF; rw [if_pos (by simp [Lib.hasPrefix])]; rfl
/-- What read returns. -/
def ReadTo (s : List UInt8) (w : World) (e : Ending) (w' : World) : Prop :=
  ∃ (n : Int) (ps : PiecesL) (ms : List Value) (v : Value), OldRd s (n, ps) ∧ e = .returned (.agg #[.int .i64 n, v]) ∧ RowP w' (w.heap.size + 1) v ps ms ∧ MarksIn w' ps ms (fun k => w.heap.size + 1 ≤ k) ∧ ps.length ≤ 1000 ∧ Below w.heap.size w w'
set_option maxRecDepth 100000 in
set_option maxHeartbeats 8000000 in
theorem read_any (s : List UInt8) (hs : s.length ≤ 980) (w : World) : Calls Tryz.prog 80 #[str s] w (ReadTo s w) := by
  have HB0 := Lib.hid (((Below.refl _ w).alloc (Nat.le_refl _) (.cells #[.int .i64 0, .slice none 0 0] 24)).alloc (by simp) (.cells #[str s] 9))
  have hz := (Two.new w (.int .i64 0) (.slice none 0 0) 24).alloc (.cells #[str s] 9)
  have hl := left_new (w.alloc (.cells #[.int .i64 0, .slice none 0 0] 24)) s
  have hsz1 : (w.alloc (.cells #[.int .i64 0, .slice none 0 0] 24)).heap.size = w.heap.size + 1 := by simp
  rw [hsz1] at hl
  have HZ0 := Lib.hid hz
  have HN0 := Lib.hid (next_any (w.heap.size + 1) [] s (by omega) _ hl)
  clear hz hl hsz1
  go_enter Tryz.func80, Tryz.ntmps80
  go_wp2_with fail
  refine (reader_any s _).mono ?_
  rintro e w1 ⟨rfl, rfl⟩
  go_wp2_with fail
  refine HN0.out.mono ?_
  rintro e w2 ⟨n, ok, R, rfl, hn, hl2, hg2⟩
  have hrd : ok = true ∧ nextF [] s = some (n, R) := by
    rcases hn with h | h
    · exact h
    · have := h.2.2.2; rw [nextF_all] at this; cases this
  clear hn
  obtain ⟨rfl, hn⟩ := hrd
  have hlen := nextF_len hn
  have HN := Lib.hid hn
  have hb0 := HB0.out.size
  have hb1 : w.heap.size + 2 ≤ w2.heap.size := by have := hg2.size; simp at this; omega
  have Z2 := HZ0.out.kept hg2 (fun e => by have := Option.some.inj e; omega)
  have B2 := HB0.out.grown hg2 HB0.out.size (fun q hq => by have := Option.some.inj hq; omega)
  have hg3 := grownBy_setCell w2 ⟨w.heap.size, 0, none⟩ (.int .i64 n)
  have Z3 := Z2.set0 (.int .i64 n)
  have L3 := hl2.kept hg3 (fun e => by have h : w.heap.size + 1 = w.heap.size := Option.some.inj e; omega)
  have B3 := B2.setCell (p := ⟨w.heap.size, 0, none⟩) (Nat.le_refl _) (.int .i64 n)
  have z0 := Z2.c0
  have zf := Z2.fr (i := 0)
  have hb3 : w.heap.size + 2 ≤ (w2.setCell ⟨w.heap.size, 0, none⟩ (.int .i64 n)).heap.size := by simpa using hb1
  have HZ3 := Lib.hid Z3
  have HL3 := Lib.hid L3
  have HB3 := Lib.hid B3
  have hHB3 := Lib.hid hb3
  clear Z2 B2 hg2 hg3 Z3 L3 B3 hl2 HZ0 HB0 HN0 hn hb0 hb3
  go_wp2
  go_loopw [4] (fun _ wr => ∃ (ps : PiecesL) (ms : List Value) (v : Value) (L2 : List UInt8), Hid (Two wr w.heap.size (.int .i64 n) v 24) ∧ Hid (RowP wr (w.heap.size + 2) v ps ms) ∧ Hid (MarksIn wr ps ms (fun k => w.heap.size + 2 ≤ k ∧ some k ≠ v.ownBlock ∧ k < wr.heap.size)) ∧ Hid (LeftAt wr (w.heap.size + 1) L2) ∧ ps.length + L2.length ≤ 980 ∧ Hid (∀ qs, PiecesRd L2 qs → PiecesRd R (ps ++ qs)) ∧ Hid (Below w.heap.size w wr) ∧ Hid (w.heap.size + 2 ≤ wr.heap.size)) (fun _ wr => leftLen wr (w.heap.size + 1))
  case atStart => exact ⟨[], [], .slice none 0 0, R, HZ3, Lib.hid (rowP_nil _ _), Lib.hid (fun i hi => by simp at hi), HL3, by simp; omega, Lib.hid (fun qs h => h), HB3, hHB3⟩
  case round =>
    obtain ⟨ps, ms, v, L2, HZ, HRW, HMI, HL, hbd, HR, HB, HS⟩ := hrel
    clear HZ3 HL3 HB3 hHB3 z0 zf hb1
    have hrp := readPiece_any (w.heap.size + 1) L2 (by omega) wr HL.out
    go_wp2_with fail
    refine hrp.mono ?_
    rintro e w5 ⟨m, got, pv, R5, ok5, rfl, hgl, hpo, hl5, hg5, hrs⟩
    have hos := HS.out
    have hs5 := hg5.size
    have hrow := HRW.out.lt
    have hplt := hpo.lt
    have Z5 := HZ.out.kept hg5 (fun e => by have := Option.some.inj e; omega)
    have W5 := HRW.out.kept hg5 (by
      cases hv : v.ownBlock with
      | none => exact .inl rfl
      | some q => right; have := hrow q hv; intro e; have := Option.some.inj e; omega)
    have M5 := HMI.out.kept hg5 (fun k hk e => by have := Option.some.inj e; omega)
    have B5 := HB.out.grown hg5 HB.out.size (fun q hq => by have := Option.some.inj hq; omega)
    have hmk := hpo.at (by omega)
    obtain ⟨av, cv, rfl, _⟩ := hmk.placed
    have HRV : Hid (∀ q, v.ownBlock = some q → w.heap.size + 2 ≤ q ∧ q < wr.heap.size) := Lib.hid hrow
    have HPL : Hid (∀ k, (Value.slice av got.length cv).ownBlock = some k → wr.heap.size ≤ k ∧ k < w5.heap.size) := Lib.hid hplt
    have ZA := Z5.alloc (.cells #[.bool m, .slice av got.length cv] 87)
    have WA := W5.alloc (.cells #[.bool m, .slice av got.length cv] 87)
    have MA := M5.alloc (.cells #[.bool m, .slice av got.length cv] 87)
    have LA := hl5.kept (World.grownBy_alloc w5 (.cells #[.bool m, .slice av got.length cv] 87) none) (by simp)
    have KA := hmk.alloc (.cells #[.bool m, .slice av got.length cv] 87)
    have BA := B5.alloc B5.size (.cells #[.bool m, .slice av got.length cv] 87)
    have XA := Two.new w5 (.bool m) (.slice av got.length cv) 87
    have hsa : (w5.alloc (.cells #[.bool m, .slice av got.length cv] 87)).heap.size = w5.heap.size + 1 := by simp
    obtain ⟨wa, hwa⟩ : ∃ wa, w5.alloc (.cells #[.bool m, .slice av got.length cv] 87) = wa := ⟨_, rfl⟩
    rw [hwa] at ZA WA MA LA KA BA XA hsa
    have hwa' := hwa
    have za0 := ZA.c0
    have za1 := ZA.c1
    have zf0 := ZA.fr (i := 0)
    have zf1 := ZA.fr (i := 1)
    have xa0 := XA.c0
    have xa1 := XA.c1
    have HZA := Lib.hid ZA
    have HWA := Lib.hid WA
    have HMA := Lib.hid MA
    have HLA := Lib.hid LA
    have HKA := Lib.hid KA
    have HBA := Lib.hid BA
    have HXA := Lib.hid XA
    have HSA := Lib.hid hsa
    have HOS := Lib.hid hos
    have HS5 := Lib.hid hs5
    have hmlen : Hid (leftLen wr (w.heap.size + 1) = L2.length) := Lib.hid HL.out.len
    clear ZA WA MA LA KA BA XA hsa Z5 W5 M5 B5 hmk hl5 hpo hg5 hrp hrow hplt hwa hos hs5
    rcases hrs with ⟨rfl, hp⟩ | ⟨rfl, rfl, hn1, hn2⟩
    · have hpl := hp.len
      have HR2 : Hid (∀ qs, PiecesRd R5 qs → PiecesRd R ((ps ++ [(m, got)]) ++ qs)) := Lib.hid (fun qs h => by
        have := HR.out ((m, got) :: qs) (.more hp h)
        simpa using this)
      have HN1 : Hid (RowP (wa.alloc (.cells #[.bool m, .slice av got.length cv] 87)) (w.heap.size + 2) v ps ms) := Lib.hid (HWA.out.alloc _)
      have HN2 := Lib.hid (Two.new wa (.bool m) (.slice av got.length cv) 87)
      have HV1 : Hid (∀ q, v.ownBlock = some q → q ≠ w.heap.size ∧ q ≠ w.heap.size + 1 ∧ q < wa.heap.size) := Lib.hid (fun q hq => by have h1 := HRV.out q hq; have h2 := HSA.out; have h3 := HS5.out; omega)
      clear hp
      go_wp2_with (at_builtin; refine wpList_appP rfl _ _ rfl (w.heap.size + 2) v ps ms rfl HN1.out wa.heap.size 1 m (.slice av got.length cv) rfl HN2.out.c0 HN2.out.c1 rfl (by omega) (by have h1 := HSA.out; have h2 := HS5.out; have h3 := HOS.out; simp; omega) ?_; intro vr w8 hrow8 hgr8 hbl8 hsh8; obtain ⟨ar, cr, rfl⟩ := hsh8; have Z8 := (HZA.out.alloc (.cells #[.bool m, .slice av got.length cv] 87)).kept hgr8 (fun e => (HV1.out _ e.symm).1 rfl); have L8 := (HLA.out.kept (World.grownBy_alloc wa (.cells #[.bool m, .slice av got.length cv] 87) none) (by simp)).kept hgr8 (fun e => (HV1.out _ e.symm).2.1 rfl); have M8 := (HMA.out.alloc (.cells #[.bool m, .slice av got.length cv] 87)).kept hgr8 (fun k hk => hk.2.1); have B8 := (HBA.out.alloc HBA.out.size (.cells #[.bool m, .slice av got.length cv] 87)).grown hgr8 (HBA.out.alloc HBA.out.size (.cells #[.bool m, .slice av got.length cv] 87)).size (fun q hq => by have := HRV.out q hq; omega); have K8 := (HKA.out.alloc (.cells #[.bool m, .slice av got.length cv] 87)).kept hgr8 (by cases hv : (Value.slice av got.length cv).ownBlock with | none => exact .inl rfl | some q => right; intro e; have h1 := HPL.out q hv; have h2 := HRV.out q e.symm; omega); have S8 : Hid (wa.heap.size + 1 ≤ w8.heap.size) := Lib.hid (by have := hgr8.size; simpa using this); have z8 := Z8.c1; have zf8 := Z8.fr (i := 1); have HZ8 := Lib.hid Z8; have HL8 := Lib.hid L8; have HM8 := Lib.hid M8; have HB8 := Lib.hid B8; have HK8 := Lib.hid K8; have HR8 := Lib.hid hrow8; have HBL8 : Hid ((Value.slice ar (ps.length + 1) cr).ownBlock = v.ownBlock ∨ (Value.slice ar (ps.length + 1) cr).ownBlock = some (wa.heap.size + 1)) := Lib.hid (by simpa using hbl8); clear Z8 L8 M8 B8 K8 hrow8 hgr8 hbl8)
      have hg9 := grownBy_setCell w8 ⟨w.heap.size, 1, none⟩ (.slice ar (ps.length + 1) cr)
      have h1 := HSA.out
      have h2 := HS5.out
      have h3 := HOS.out
      have h4 := S8.out
      have hvr : ∀ q, (Value.slice ar (ps.length + 1) cr).ownBlock = some q → w.heap.size + 2 ≤ q := fun q hq => ((HR8.out []).lt q hq).1
      have Z9 := HZ8.out.set1 (.slice ar (ps.length + 1) cr) rfl
      have L9 := HL8.out.kept hg9 (fun e => by have h : w.heap.size + 1 = w.heap.size := Option.some.inj e; omega)
      have W9 := (HR8.out got).kept hg9 (by
        cases hv : (Value.slice ar (ps.length + 1) cr).ownBlock with
        | none => exact .inl rfl
        | some q => right; have := hvr q hv; intro e; have h : q = w.heap.size := Option.some.inj e; omega)
      have B9 := HB8.out.setCell (p := ⟨w.heap.size, 1, none⟩) (Nat.le_refl _) (.slice ar (ps.length + 1) cr)
      have hs9 : (w8.setCell ⟨w.heap.size, 1, none⟩ (.slice ar (ps.length + 1) cr)).heap.size = w8.heap.size := by simp
      have M9 := (HM8.out.mono (Q := fun k => w.heap.size + 2 ≤ k ∧ some k ≠ (Value.slice ar (ps.length + 1) cr).ownBlock ∧ k < (w8.setCell ⟨w.heap.size, 1, none⟩ (.slice ar (ps.length + 1) cr)).heap.size) (fun k hk => ⟨hk.1, by
          intro e
          rcases HBL8.out with h | h
          · rw [h] at e; exact hk.2.1 e
          · rw [h] at e; have := Option.some.inj e; have := hk.2.2; omega, by rw [hs9]; have := hk.2.2; omega⟩)).kept hg9 (fun k hk e => by have h : k = w.heap.size := Option.some.inj e; omega)
      have K9 := HK8.out.kept hg9 (by
        cases hv : (Value.slice av got.length cv).ownBlock with
        | none => exact .inl rfl
        | some q => right; have := HPL.out q hv; intro e; have h : q = w.heap.size := Option.some.inj e; omega)
      have M10 := M9.snoc HWA.out.1 (p := (m, got)) K9 (fun k hk => ⟨by have := HPL.out k hk; omega, by
          intro e
          rcases HBL8.out with h | h
          · rw [h] at e; have h5 := HRV.out k e.symm; have h6 := HPL.out k hk; omega
          · rw [h] at e; have := Option.some.inj e; have h6 := HPL.out k hk; omega, by rw [hs9]; have := HPL.out k hk; omega⟩)
      have hm1 := hmlen.out
      have hm2 := L9.len
      have hps : (ps ++ [(m, got)]).length = ps.length + 1 := by simp
      have HZ9 := Lib.hid Z9
      have HL9 := Lib.hid L9
      have HW9 := Lib.hid W9
      have HB9 := Lib.hid B9
      have HM10 := Lib.hid M10
      clear Z9 L9 W9 B9 M9 K9 M10 hg9 hvr
      go_wp2
      go_roundw
      case rel => exact ⟨ps ++ [(m, got)], ms ++ [.slice av got.length cv], _, R5, HZ9, HW9, HM10, HL9, by omega, HR2, HB9, Lib.hid (by rw [hs9]; omega)⟩
      case measure => rw [hm1, hm2]; exact hpl
    · obtain ⟨avs, cvs, rfl, _⟩ := (HWA.out.at HMA.out (by omega)).placed
      have hld : OldRd s (n, ps) := ⟨R, HN.out, by have := HR.out [] (.stop hn1 hn2); simpa using this⟩
      have HLD := Lib.hid hld
      clear hld hn1 hn2
      go_wp2
      have hg9 := (two_after HZA.out (.int .i64 n) (.slice avs ps.length cvs) rfl).2.2.2
      have X4 := (HZA.out.set0 (.int .i64 n)).set1 (.slice avs ps.length cvs) rfl
      have d0 := X4.c0
      have d1 := X4.c1
      refine bodyPost_ret (v := .agg #[.int .i64 n, .slice avs ps.length cvs]) ?_ rfl ?_
      · simp [results, Tryz.results80, go_sem, d0, d1]
      · refine ⟨n, ps, ms, _, HLD.out, rfl, (HWA.out.kept hg9 ?_).low (by omega), (HMA.out.kept hg9 (fun k hk e => by have h : k = w.heap.size := Option.some.inj e; omega)).mono (fun k hk => by omega), by omega, HBA.out.grown hg9 HBA.out.size (fun q hq => by have h : w.heap.size = q := Option.some.inj hq; omega)⟩
        cases hv : (Value.slice avs ps.length cvs).ownBlock with
        | none => exact .inl rfl
        | some q => right; have := HRV.out q hv; intro e; have h : q = w.heap.size := Option.some.inj e; omega
end Go.Proofs.YtkjclafbpocabaaGreatDoor

/-! ## ZC11 -/
namespace Go.Proofs.YtkjclafbpocabaaGreatDoor
open Go.RowKit Go.Maps Go.Shelf Go.Sort
/-- What Parse returns, with its memory. -/
def ParsedTo (s : List UInt8) (w : World) (e : Ending) (w' : World) : Prop :=
  ∃ (r : (Int × PiecesL) × Int) (ms : List Value) (v : Value), ParseTo s r ∧ e = .returned (.tuple #[.agg #[.int .i64 r.1.1, v], .int .i64 r.2]) ∧ RowP w' (w.heap.size + 1) v r.1.2 ms ∧ MarksIn w' r.1.2 ms (fun k => w.heap.size + 1 ≤ k) ∧ r.1.2.length ≤ 1000 ∧ Below w.heap.size w w'
set_option maxRecDepth 100000 in
set_option maxHeartbeats 8000000 in
theorem parse_old (s : List UInt8) (w : World) (hw : WOk w) : Calls Tryz.prog 29 #[str s] w (ParsedTo s w) := by
  have HZ0 := Lib.hid (Two.new w (.int .i64 0) (.slice none 0 0) 24)
  have HB0 := Lib.hid ((Below.refl _ w).alloc (Nat.le_refl _) (.cells #[.int .i64 0, .slice none 0 0] 24))
  have HW := Lib.hid hw
  clear hw
  by_cases hl : 300 < s.length
  · have hl2 : 300 < (s.length : Int) := by omega
    have HP : Hid (ParseTo s ((0, []), 5)) := Lib.hid ⟨fun _ => rfl, fun h => by omega⟩
    have z0 := HZ0.out.c0
    have z1 := HZ0.out.c1
    have zf0 := HZ0.out.fr (i := 0)
    have zf1 := HZ0.out.fr (i := 1)
    clear hl
    go_enter Tryz.func29, Tryz.ntmps29
    go_wp2
    obtain ⟨d0, d1, d2, hg⟩ := two_after HZ0.out (.int .i64 0) (.slice none 0 0) rfl
    refine bodyPost_ret (v := .tuple #[.agg #[.int .i64 0, .slice none 0 0], .int .i64 5]) ?_ rfl ?_
    · simp [results, Tryz.results29, go_sem, d0, d1, d2]
    · exact ⟨((0, []), 5), [], _, HP.out, rfl, rowP_nil _ _, fun i hi => by simp at hi, by simp, HB0.out⟩
  · have hl2 : ¬ 300 < (s.length : Int) := by omega
    have HR := Lib.hid (read_any s (by omega) (w.alloc (.cells #[.int .i64 0, .slice none 0 0] 24)))
    go_enter Tryz.func29, Tryz.ntmps29
    go_wp2_with fail
    refine HR.out.mono ?_
    rintro e w2 ⟨n, ps, ms, v, hrd, rfl, hrow, hmi, hpl, hb2⟩
    have hsz0 : (w.alloc (.cells #[.int .i64 0, .slice none 0 0] 24)).heap.size = w.heap.size + 1 := by simp
    rw [hsz0] at hrow hmi
    obtain ⟨av, cv, rfl, _⟩ := (hrow.at hmi (by omega)).placed
    have hs2 := hb2.size
    rw [hsz0] at hs2
    have Z2 := (HZ0.out.below hb2 HZ0.out.lt).alloc (.cells #[.int .i64 n, .slice av ps.length cv] 24)
    have B2 := HB0.out.trans (hb2.mono (by omega))
    have B3 := B2.alloc B2.size (.cells #[.int .i64 n, .slice av ps.length cv] 24)
    have O3 := Two.new w2 (.int .i64 n) (.slice av ps.length cv) 24
    have R3 := hrow.alloc (.cells #[.int .i64 n, .slice av ps.length cv] 24)
    have M3 := hmi.alloc (.cells #[.int .i64 n, .slice av ps.length cv] 24)
    have HV := Lib.hid (valid_old n _ ps _ (R3.at M3 (by omega)))
    have o0 := O3.c0
    have o1 := O3.c1
    have HZ2 := Lib.hid Z2
    have HB3 := Lib.hid B3
    have HO3 := Lib.hid O3
    have HR3 := Lib.hid R3
    have HM3 := Lib.hid M3
    have HRD := Lib.hid hrd
    have HS2 := Lib.hid hs2
    have hlt : Hid (∀ q, (Value.slice av ps.length cv).ownBlock = some q → q < w2.heap.size) := Lib.hid (fun q hq => (hrow.lt q hq).2)
    clear hrow hmi hb2 Z2 B2 B3 O3 R3 M3 hrd HR hs2
    go_wp2_with fail
    refine HV.out.mono ?_
    rintro e w3 ⟨rfl, hb3⟩
    have Z4 := HZ2.out.below hb3 HZ2.out.lt
    have B4 := HB3.out.trans (hb3.mono HB3.out.size)
    have O4 := HO3.out.below hb3 HO3.out.lt
    have R4 := HR3.out.kept (below_grown hb3 none) (by cases hv : (Value.slice av ps.length cv).ownBlock with | none => exact .inl rfl | some q => right; intro e; cases e)
    have M4 := HM3.out.kept (below_grown hb3 none) (fun k _ e => by cases e)
    have HZ4 := Lib.hid Z4
    have HB4 := Lib.hid B4
    have HO4 := Lib.hid O4
    have HR4 := Lib.hid R4
    have HM4 := Lib.hid M4
    have hs4 := B4.size
    clear o0 o1
    have o0 := O4.c0
    have o1 := O4.c1
    have z0 := Z4.c0
    have z1 := Z4.c1
    have zf0 := Z4.fr (i := 0)
    have zf1 := Z4.fr (i := 1)
    clear Z4 B4 O4 R4 M4 hb3 HZ2 HB3 HO3 HR3 HM3 HV
    cases ho : oldF (n, ps)
    · have HP : Hid (ParseTo s ((0, []), 4)) := Lib.hid ⟨fun h => absurd h hl, fun _ => ⟨(n, ps), HRD.out, by rw [if_neg (by rw [ho]; simp)]⟩⟩
      clear ho hl
      go_wp2
      obtain ⟨d0, d1, d2, hg⟩ := two_after HZ4.out (.int .i64 0) (.slice none 0 0) rfl
      refine bodyPost_ret (v := .tuple #[.agg #[.int .i64 0, .slice none 0 0], .int .i64 4]) ?_ rfl ?_
      · simp [results, Tryz.results29, go_sem, d0, d1, d2]
      · exact ⟨((0, []), 4), [], _, HP.out, rfl, rowP_nil _ _, fun i hi => by simp at hi, by simp, HB4.out.grown hg HB4.out.size (by intro k hk; cases hk; exact Nat.le_refl _)⟩
    · obtain ⟨q1, q2, q3⟩ := oldF_ok ho
      have HT := Lib.hid (text_old n _ ps w3 (HR4.out.at HM4.out (by omega)) (HW.out.below HB4.out) q1.1 q1.2 q2 q3)
      have HO := Lib.hid ho
      obtain ⟨T, hT⟩ : ∃ T, textO (n, ps) = T := ⟨_, rfl⟩
      rw [hT] at HT
      have HTT := Lib.hid hT
      clear ho q1 q2 q3 hT
      go_wp2_with fail
      refine HT.out.mono ?_
      rintro e w5 ⟨rfl, hb5⟩
      have Z6 := HZ4.out.below hb5 HZ4.out.lt
      have O6 := HO4.out.below hb5 HO4.out.lt
      have HZ6 := Lib.hid Z6
      have HB6 := Lib.hid (HB4.out.trans (hb5.mono HB4.out.size))
      have HR6 := Lib.hid (HR4.out.kept (below_grown hb5 none) (by cases hv : (Value.slice av ps.length cv).ownBlock with | none => exact .inl rfl | some q => right; intro e; cases e))
      have HM6 := Lib.hid (HM4.out.kept (below_grown hb5 none) (fun k _ e => by cases e))
      clear o0 o1 z0 z1 zf0 zf1
      have o0 := O6.c0
      have o1 := O6.c1
      have z0 := Z6.c0
      have z1 := Z6.c1
      have zf0 := Z6.fr (i := 0)
      have zf1 := Z6.fr (i := 1)
      clear Z6 O6 hb5 HT
      by_cases he : T = s
      · have HP : Hid (ParseTo s ((n, ps), 0)) := Lib.hid ⟨fun h => absurd h hl, fun _ => ⟨(n, ps), HRD.out, by rw [if_pos ⟨HO.out, by rw [HTT.out, he]⟩]⟩⟩
        subst he
        clear hl
        go_wp2
        have hg9 := (two_after HZ6.out (.int .i64 n) (.slice av ps.length cv) rfl).2.2.2
        have X4 := (HZ6.out.set0 (.int .i64 n)).set1 (.slice av ps.length cv) rfl
        have d0 := X4.c0
        have d1 := X4.c1
        refine bodyPost_ret (v := .tuple #[.agg #[.int .i64 n, .slice av ps.length cv], .int .i64 0]) ?_ rfl ?_
        · simp [results, Tryz.results29, go_sem, d0, d1]
        · refine ⟨((n, ps), 0), ms, _, HP.out, rfl, (HR6.out.kept hg9 ?_).low (by omega), (HM6.out.kept hg9 (fun k hk e => by have h : k = w.heap.size := Option.some.inj e; omega)).mono (fun k hk => by omega), hpl, HB6.out.grown hg9 HB6.out.size (fun q hq => by have h : w.heap.size = q := Option.some.inj hq; omega)⟩
          cases hv : (Value.slice av ps.length cv).ownBlock with
          | none => exact .inl rfl
          | some q => right; have h1 := (HR6.out.lt q hv).1; intro e; have h : q = w.heap.size := Option.some.inj e; omega
      · have HP : Hid (ParseTo s ((0, []), 4)) := Lib.hid ⟨fun h => absurd h hl, fun _ => ⟨(n, ps), HRD.out, by rw [if_neg (by rw [HTT.out]; exact fun h => he h.2)]⟩⟩
        have heb : (T == s) = false := beq_eq_false_iff_ne.mpr he
        clear hl he
        go_wp2
        obtain ⟨d0, d1, d2, hg⟩ := two_after HZ6.out (.int .i64 0) (.slice none 0 0) rfl
        refine bodyPost_ret (v := .tuple #[.agg #[.int .i64 0, .slice none 0 0], .int .i64 4]) ?_ rfl ?_
        · simp [results, Tryz.results29, go_sem, d0, d1, d2]
        · exact ⟨((0, []), 4), [], _, HP.out, rfl, rowP_nil _ _, fun i hi => by simp at hi, by simp, HB6.out.grown hg HB6.out.size (by intro k hk; cases hk; exact Nat.le_refl _)⟩
end Go.Proofs.YtkjclafbpocabaaGreatDoor

/-! ## ZC15 -/
namespace Go.Proofs.YtkjclafbpocabaaGreatDoor
open Go.RowKit Go.Maps Go.Shelf Go.Sort
theorem co0_text : textO co0 = [49, 43, 49, 47, 51] := by
  simp [textO, co0, piecesB, pieceB, marksB, frontB, Lib.itoa, dd]
theorem co2_digits : Lib.decDigits 577 = [53, 55, 55] := by
  rw [Lib.decDigits]; simp only [show ¬ 577 < 10 by decide, if_false, dite_false]
  rw [show 577 / 10 = 57 from rfl, Lib.decDigits]; simp only [show ¬ 57 < 10 by decide, if_false, dite_false]
  rw [show 57 / 10 = 5 from rfl, dd 5 (by omega)]; rfl
theorem co2_digits2 : Lib.decDigits 408 = [52, 48, 56] := by
  rw [Lib.decDigits]; simp only [show ¬ 408 < 10 by decide, if_false, dite_false]
  rw [show 408 / 10 = 40 from rfl, Lib.decDigits]; simp only [show ¬ 40 < 10 by decide, if_false, dite_false]
  rw [show 40 / 10 = 4 from rfl, dd 4 (by omega)]; rfl
theorem co2_text : textB 408 (qL 577) = [53, 55, 55, 47, 52, 48, 56] := by
  rw [show qL 577 = [(577, 1)] from rfl]
  simp [textB, bodyB, partB, termB, Lib.itoa, dd, co2_digits, co2_digits2, Lib.trimSuffix, Lib.hasSuffix]
theorem co2_valid : validF 408 (qL 577) = true := v577.1.bool
theorem parse0 {r : (Int × PiecesL) × Int} (h : ParseTo [49, 43, 49, 47, 51] r) : r = (co0, 0) := by
  rw [← co0_text] at h
  exact parse_back (by decide) h (by rw [co0_text]; decide)
set_option maxRecDepth 100000 in
set_option maxHeartbeats 4000000 in
theorem knownCords_any (hsort : Hid SortC) (w : World) (hw : WOk w) : Calls Tryz.prog 64 #[] w (AnsB true w) := by
  have HW := Lib.hid hw
  have HPA := Lib.hid (parse_old [49, 43, 49, 47, 51] w hw)
  clear hw
  go_enter Tryz.func64, Tryz.ntmps64
  go_wp2_with fail
  refine HPA.out.mono ?_
  rintro e w1 ⟨r1, ms1, v1, hr1, rfl, hrow1, hmi1, hl1, hb1⟩
  have := parse0 hr1
  subst this
  obtain ⟨a1, c1, rfl, _⟩ := hrow1.shape
  have hpa1 := hrow1.at hmi1 (by omega)
  have B2 := hb1.alloc hb1.size (.cells #[.int .i64 1, .slice a1 1 c1] 24)
  have X2 := Two.new w1 (.int .i64 1) (.slice a1 1 c1) 24
  have P2 : PiecesAtz (w1.alloc (.cells #[.int .i64 1, .slice a1 1 c1] 24)) (.slice a1 1 c1) [(false, [3])] := hpa1.alloc _
  have HCH := Lib.hid (chain_old hsort 1 2 2 _ [(false, [3])] _ P2)
  have HX2 := Lib.hid X2
  have HB2 := Lib.hid B2
  have x0 := X2.c0
  have x1 := X2.c1
  clear hr1 hrow1 hmi1 hl1 hpa1 B2 X2 P2 HPA
  simp only [co0, List.length_cons, List.length_nil, Nat.zero_add]
  go_wp2_with fail
  refine HCH.out.mono ?_
  rintro e w3 ⟨r3, ms3, v3, hr3, rfl, hrow3, hmi3, hl3, hb3⟩
  have := chain2 hr3
  subst this
  obtain ⟨a3, c3, rfl, _⟩ := hrow3.shape
  have hs2 : w1.heap.size < (w1.alloc (.cells #[.int .i64 1, .slice a1 1 c1] 24)).heap.size := by simp
  have X3 := HX2.out.below hb3 HX2.out.lt
  have B3 := HB2.out.trans (hb3.mono HB2.out.size)
  have hrl := hrow3.lt
  have hg4 := (two_after X3 (.int .i64 1) (.slice a3 3 c3) rfl).2.2.2
  have X4 := (X3.set0 (.int .i64 1)).set1 (.slice a3 3 c3) rfl
  have W4 := hrow3.kept hg4 (by
    cases hv : (Value.slice a3 (List.length (co2, (0 : Int)).1.2) c3).ownBlock with
    | none => exact .inl rfl
    | some q => right; have h5 := hrl q hv; intro e; have h : q = w1.heap.size := Option.some.inj e; omega)
  have M4 := hmi3.kept hg4 (fun q hq e => by have h : q = w1.heap.size := Option.some.inj e; omega)
  have B4 := B3.grown hg4 B3.size (fun q hq => by have h : w1.heap.size = q := Option.some.inj hq; have := hb1.size; omega)
  have P4 : PiecesAtz _ (.slice a3 3 c3) [(false, [3]), (false, [3, 4]), (true, [3, 4, 34])] := W4.at M4 (by omega)
  have HVA := Lib.hid (value_any hsort 1 _ _ _ P4)
  have HX4 := Lib.hid X4
  have HB4 := Lib.hid B4
  have y0 := X3.c0
  have y1 := X3.c1
  have yf0 := X3.fr (i := 0)
  have yf1 := X3.fr (i := 1)
  have z0 := X4.c0
  have z1 := X4.c1
  clear hr3 hrow3 hmi3 hl3 hb3 hb1 X3 B3 hrl hg4 X4 W4 M4 B4 P4 HX2 HB2 HCH hs2
  simp only [co2, List.length_cons, List.length_nil, Nat.zero_add]
  go_wp2_with fail
  refine HVA.out.mono ?_
  rintro e w5 ⟨r5, hr5, v5, rfl, ht5, hb5, _⟩
  have := value2 hr5
  subst this
  obtain ⟨a5, c5, rfl, _⟩ := ht5.placed
  have B6' := HB4.out.trans (hb5.mono HB4.out.size)
  have B6 := B6'.alloc B6'.size (.cells #[.int .i64 408, .slice a5 1 c5] 34)
  have T6 : TermsAt (w5.alloc (.cells #[.int .i64 408, .slice a5 1 c5] 34)) (.slice a5 1 c5) (qL 577) := ht5.alloc _
  have X6 := Two.new w5 (.int .i64 408) (.slice a5 1 c5) 34
  have hfm := format_any 408 _ (qL 577) _ T6 (HW.out.below B6)
  unfold FormatTo at hfm
  rw [if_pos co2_valid, if_pos co2_valid, co2_text] at hfm
  have HFM := Lib.hid hfm
  have HB6 := Lib.hid B6
  have n0 := X6.c0
  have n1 := X6.c1
  clear hr5 ht5 hb5 B6' B6 T6 X6 hfm HVA z0 z1 y0 y1 yf0 yf1 HX4 HB4
  simp only [show (qL 577).length = 1 from rfl]
  go_wp2_with fail
  refine HFM.out.mono ?_
  rintro e w7 ⟨rfl, hb7⟩
  have HB7 := Lib.hid (HB6.out.trans (hb7.mono HB6.out.size))
  clear hb7 HFM HB6 n0 n1
  go_wp2
  go_ret
  exact ⟨rfl, HB7.out⟩
end Go.Proofs.YtkjclafbpocabaaGreatDoor
