/-
  Contracts of the program's own functions (and their plain mathematics), on the way to the law: each for all arguments that its hypotheses let.
-/
import Derived.Test.YtkjclafbpocabaaGreatDoorH5
import Derived.WalkKit
import Derived.WalkSpells
import Derived.WalkLawsBesides
import Derived.Deep.QuietTactic
import Derived.BigQuiet
import Derived.Lib.Hide
import Derived.WalkSmall
import Derived.Maps.OwnSet
import Derived.Maps.RangeWalk
import Derived.Deep.RegionWith
import Derived.Deep.RegionHeld3
import Derived.Deep.DrawnRows
import Derived.Deep.DeepCutAuto
import Derived.OneCell
import Derived.KernelRfl
import Derived.Laws.StructEq
import Derived.StillTailTactics
import Derived.Laws.Externs
import Derived.RangeFuncBox
import Derived.Test.YtkjclafbpocabaaGreatDoorPlain
set_option linter.unusedSimpArgs false
set_option linter.unusedVariables false

/-! ## ZC8 -/
namespace Go.Proofs.YtkjclafbpocabaaGreatDoor
open Go.RowKit Go.Maps Go.Shelf Go.Sort
/-- How far readPiece has come: whether a mark was read, the mark, those before it, and what is left. -/
def PRel (L : List UInt8) (m ok : Bool) (n : Int) (got : List Int) (L2 : List UInt8) : Prop :=
  (ok = true ∧ ∀ ns R, MarksRd L2 ns R → PieceRd L (m, got ++ n :: ns) R) ∨ (ok = false ∧ got ≠ [] ∧ PieceRd L (m, got) L2) ∨ (ok = false ∧ got = [] ∧ L2 = L ∧ nextF (frontB false) L = none ∧ nextF (frontB true) L = none)
def leftLen (w : World) (bx : Nat) : Nat := match w.cell? ⟨bx, 0, none⟩ with | some (.string s) => s.size | _ => 0
theorem LeftAt.len {w : World} {bx : Nat} {L : List UInt8} (h : LeftAt w bx L) : leftLen w bx = L.length := by
  unfold leftLen; rw [h.1]; show L.toArray.size = _; simp
theorem ownM_nil (w : World) (base : Nat) : OwnM w base (.slice none 0 0) [] := ⟨by simp [iM], .inl ⟨rfl, rfl⟩⟩
theorem PRel.step {L L2 L3 : List UInt8} {m : Bool} {n n3 : Int} {got : List Int} (h : PRel L m true n got L2) (hn : nextF [42] L2 = some (n3, L3)) : PRel L m true n3 (got ++ [n]) L3 := by
  rcases h with h | h | h
  · refine .inl ⟨rfl, fun ns R hr => ?_⟩
    have := h.2 (n3 :: ns) R (.more hn hr)
    simpa using this
  · cases h.1
  · cases h.1
theorem PRel.stop {L L2 : List UInt8} {m : Bool} {n n3 : Int} {got : List Int} (h : PRel L m true n got L2) (hn : nextF [42] L2 = none) : PRel L m false n3 (got ++ [n]) L2 := by
  rcases h with h | h | h
  · refine .inr (.inl ⟨rfl, by simp, ?_⟩)
    exact h.2 [] L2 (.stop hn)
  · cases h.1
  · cases h.1
theorem wpList_appM {ops : Array Oper} {rest : List Oper} {o : Oper} {a : Act} {w : World} {Q : Exit → Act → World → Prop} (hgd : o.guard = none) (s x : Operand)
    (ho : o.op = .call { callee := .builtin .append, args := #[s, x], argTypes := #[59, 59] }) (base : Nat) (v : Value) (l : List Int) (hs : a.eval s = v) (hown : OwnM w base v l)
    (ad : Addr) (c : Nat) (q : Int) (hx : a.eval x = .slice (some ad) 1 c) (hnews : w.cell? ad = some (.int .i64 q)) (hl : l.length ≤ 1000000) (hbase : base ≤ w.heap.size)
    (h : ∀ v' w', OwnM w' base v' (l ++ [q]) → w.grownBy w' v.ownBlock → wpList Tryz.prog ops Q rest (a.put o.dst v') w') : wpList Tryz.prog ops Q (o :: rest) a w := by
  obtain ⟨i0, hi, hz0, hz1, hz2⟩ := info_parts infoInt
  refine wpList_append_own w hgd s x 59 ho base 3 i0 (.int .i64 0) 1 8 undInts hi hz0 hz1 hz2 rfl (by decide) v l.length (iM l) hs hown ad 1 c [.int .i64 q] hx rfl ?_ ?_ (by unfold maxLen; omega) (by omega) hbase ?_
  · intro j u hj
    have hj0 : j = 0 := by
      have := (List.getElem?_eq_some_iff.1 hj).1
      simp at this; exact this
    subst hj0
    simp at hj
    subst hj
    have : ad.add 0 = ad := by unfold Addr.add; split <;> simp_all
    rw [this]; exact hnews
  · intro u hu; simp at hu; subst hu; rfl
  · intro v' w' ho hg _
    refine h v' w' ?_ hg
    unfold OwnM
    have e : iM l ++ [.int .i64 q] = iM (l ++ [q]) := by simp [iM]
    rw [e] at ho
    simpa using ho
/-- What readPiece returns. -/
def PieceTo (bx : Nat) (L : List UInt8) (w : World) (e : Ending) (w' : World) : Prop :=
  ∃ (m : Bool) (got : List Int) (pv : Value) (R : List UInt8) (ok : Bool), e = .returned (.tuple #[.agg #[.bool m, pv], .bool ok]) ∧ got.length ≤ 1000 ∧ OwnM w' w.heap.size pv got ∧ LeftAt w' bx R ∧ w.grownBy w' (some bx) ∧
    ((ok = true ∧ PieceRd L (m, got) R) ∨ (ok = false ∧ R = L ∧ nextF (frontB false) L = none ∧ nextF (frontB true) L = none))
theorem signs_grown (w : World) (row : Option Nat) : Calls Tryz.prog 130 #[] w fun e w' => ∃ B, e = .returned (.map (some B)) ∧ SignsAt w' B ∧ w.grownBy w' row :=
  (signs_any w).mono (by rintro e w' ⟨B, rfl, _, _, h, hb⟩; exact ⟨B, rfl, h, below_grown hb row⟩)
set_option maxRecDepth 100000 in
set_option maxHeartbeats 8000000 in
theorem readPiece_any (bx : Nat) (L : List UInt8) (hL : L.length ≤ 990) (w : World) (h : LeftAt w bx L) : Calls Tryz.prog 134 #[.func (.func 190) #[] #[.pointer (some ⟨bx, 0, none⟩)]] w (PieceTo bx L w) := by
  have HL0 := Lib.hid (h.kept (World.grownBy_alloc w (.cells #[.bool false, .slice none 0 0] 87) none) (by simp))
  have HP0 := Lib.hid (Two.new w (.bool false) (.slice none 0 0) 87)
  have HG0 := Lib.hid (World.grownBy_alloc w (.cells #[.bool false, .slice none 0 0] 87) (some bx))
  have hbx := h.2.2
  have hsf := sign_front
  clear h
  go_enter Tryz.func134, Tryz.ntmps134
  go_wp2_with fail
  refine (signs_grown _ none).mono ?_
  rintro e w1 ⟨B1, rfl, hs1, hg1⟩
  have hlk := hs1.look3 false
  have L1 := HL0.out.kept hg1 (by simp)
  have P1 := HP0.out.kept hg1 (by simp)
  have G1 := HG0.out.andThen hg1 (fun j hj => by cases hj)
  have hN1 := next_any bx (frontB false) L (by omega) w1 L1
  have HN1 := Lib.hid hN1
  have HP1 := Lib.hid P1
  have HG1 := Lib.hid G1
  obtain ⟨f1, hf1⟩ : ∃ f, frontB false = f := ⟨_, rfl⟩
  rw [hf1] at HN1 hlk
  have HF1 := Lib.hid hf1
  clear hs1 hg1 L1 P1 G1 hN1 HL0 HP0 HG0 hf1
  go_wp2_with fail
  refine HN1.out.mono ?_
  rintro e w2 ⟨n2, ok2, R2, rfl, hn2, hl2, hg2⟩
  have P2 := HP1.out.kept hg2 (fun e => by have := Option.some.inj e; omega)
  have HPS := Lib.hid P2
  have HLS := Lib.hid hl2
  have HGS := Lib.hid (HG1.out.trans hg2)
  clear P2 hl2 hg2 HN1 HP1 HG1 hlk
  rcases hn2 with ⟨rfl, hn2⟩ | ⟨rfl, rfl, hRL, hn2⟩
  · have hlt2 := nextF_len hn2
    have HN2 : Hid (nextF (frontB false) L = some (n2, R2)) := Lib.hid (by rw [HF1.out]; exact hn2)
    clear hn2
    have HST : Hid (PRel L false true n2 [] R2) := Lib.hid (.inl ⟨rfl, fun ns R hr => .plus HN2.out hr⟩)
    go_wp2
    go_loopw [3, 4] (fun okv mv wr => ∃ (ok : Bool) (n : Int) (got : List Int) (L2 : List UInt8) (pv : Value), okv = .bool ok ∧ mv = .int .i64 n ∧ Hid (Two wr w.heap.size (.bool false) pv 87) ∧ Hid (OwnM wr (w.heap.size + 1) pv got) ∧ Hid (LeftAt wr bx L2) ∧ got.length ≤ 1000 ∧ L2.length ≤ 990 ∧ (ok = true → got.length + L2.length ≤ 990) ∧ Hid (PRel L false ok n got L2) ∧ Hid (w.grownBy wr (some bx))) (fun okv _ wr => match okv with | .bool true => leftLen wr bx + 1 | _ => 0)
    case atStart => exact ⟨true, n2, [], R2, .slice none 0 0, rfl, rfl, HPS, Lib.hid (ownM_nil _ _), HLS, by simp, by omega, by intro _; simp; omega, HST, HGS⟩
    case round =>
      obtain ⟨ok, n, got, L2, pv, rfl, rfl, HP, HO, HLL, hgl, hll, hgo, HR, HG⟩ := hrel
      clear HPS HLS HGS HST
      have p0 := HP.out.c0
      have p1 := HP.out.c1
      have pf0 := HP.out.fr (i := 0)
      have pf1 := HP.out.fr (i := 1)
      have hpl := HP.out.lt
      cases ok
      · obtain ⟨av, cv, rfl, _⟩ := (HO.out.at (by omega)).placed
        have hR : (got ≠ [] ∧ PieceRd L (false, got) L2) ∨ (got = [] ∧ L2 = L ∧ nextF (frontB false) L = none ∧ nextF (frontB true) L = none) := by
          rcases HR.out with h | h | h
          · exact absurd h.1 (by simp)
          · exact .inl h.2
          · exact .inr h.2
        have HRR := Lib.hid hR
        have hgk : Hid (decide (0 < (got.length : Int)) = true ↔ got ≠ []) := Lib.hid (by rw [decide_eq_true_iff]; constructor <;> intro h <;> cases got <;> simp_all)
        clear hR HR
        go_wp2
        refine bodyPost_ret (v := .tuple #[.agg #[.bool false, .slice av got.length cv], .bool (decide (0 < (got.length : Int)))]) ?_ rfl ?_
        · have X4 := (HP.out.set0 (.bool false)).set1 (.slice av got.length cv) rfl
          have d0 := X4.c0
          have d1 := X4.c1
          simp [results, Tryz.results134, go_sem, d0, d1]
        · have hg4 := (two_after HP.out (.bool false) (.slice av got.length cv) rfl).2.2.2
          have hlb := HLL.out.2.2
          refine ⟨false, got, _, L2, _, rfl, hgl, ?_, HLL.out.kept hg4 (fun e => by have := Option.some.inj e; omega), HG.out.andThen hg4 (fun j hj => by have := Option.some.inj hj; exact .inl (by omega)), ?_⟩
          · refine (HO.out.kept hg4 ?_).low (by omega)
            cases hv : (Value.slice av got.length cv).ownBlock with
            | none => exact .inl rfl
            | some q => right; have h1 := (HO.out.lt q hv).1; intro e; have := Option.some.inj e; omega
          · rcases HRR.out with h | h
            · exact .inl ⟨hgk.out.2 h.1, h.2⟩
            · exact .inr ⟨by cases hd : decide (0 < (got.length : Int)) with | false => rfl | true => exact absurd h.1 (hgk.out.1 hd), h.2.1, h.2.2.1, h.2.2.2⟩
      · have hgl2 : got.length + L2.length ≤ 990 := hgo rfl
        have hbsz := HG.out.size
        clear hgo
        go_wp2_with (at_builtin; refine wpList_appM rfl _ _ rfl (w.heap.size + 1) pv got rfl (HO.out.below ((Below.refl _ wr).alloc (Nat.le_refl _) _)) ⟨wr.heap.size, 0, none⟩ 1 n rfl (cell_one wr _ _) (by omega) (by simp; omega) ?_; intro vr w3 hor hgr; have hr1 : ∀ k, pv.ownBlock = some k → w.heap.size + 1 ≤ k := fun k hk => (HO.out.lt k hk).1; have hal' := World.grownBy_alloc wr (.cells #[.int .i64 n] 3) none; have P3 := (HP.out.alloc (.cells #[.int .i64 n] 3)).kept hgr (fun e => (by have := hr1 _ e.symm; omega)); have hlb := HLL.out.2.2; have L3 := (HLL.out.kept hal' (by simp)).kept hgr (fun e => (by have := hr1 _ e.symm; omega)); have G3 := (HG.out.trans (World.grownBy_alloc wr (.cells #[.int .i64 n] 3) (some bx))).andThen hgr (fun j hj => .inl (by have := hr1 _ hj; omega)); obtain ⟨g3, hge⟩ : ∃ g3, got ++ [n] = g3 := ⟨_, rfl⟩; rw [hge] at hor; have HRL : Hid (g3.length = got.length + 1) := Lib.hid (by rw [← hge]; simp); have HGE := Lib.hid hge; clear hge; obtain ⟨av, cv, rfl, _⟩ := (hor.at (by have := HRL.out; omega)).placed; have HP3 := Lib.hid P3; have HL3 := Lib.hid L3; have HG3 := Lib.hid G3; have HO3 := Lib.hid hor; have p1' := P3.c1; have pf1' := P3.fr (i := 1); clear P3 L3 G3 hor hgr hal' hr1 p0 p1 pf0 pf1)
        have hg4 := grownBy_setCell w3 ⟨w.heap.size, 1, none⟩ (.slice av g3.length cv)
        have P4 := HP3.out.set1 (.slice av g3.length cv) rfl
        have L4 := HL3.out.kept hg4 (fun e => by have h : bx = w.heap.size := Option.some.inj e; omega)
        have O4 := HO3.out.kept hg4 (by
          cases hv : (Value.slice av g3.length cv).ownBlock with
          | none => exact .inl rfl
          | some q => right; have h1 := (HO3.out.lt q hv).1; intro e; have h : q = w.heap.size := Option.some.inj e; omega)
        have G4 := HG3.out.andThen hg4 (fun j hj => .inl (by have h : w.heap.size = j := Option.some.inj hj; omega))
        refine (next_any bx [42] L2 (by omega) _ L4).mono ?_
        rintro e w5 ⟨n5, ok5, L5, rfl, hn5, hl5, hg5⟩
        have P5 := P4.kept hg5 (fun e => by have := Option.some.inj e; omega)
        have O5 := O4.kept hg5 (by
          cases hv : (Value.slice av g3.length cv).ownBlock with
          | none => exact .inl rfl
          | some q => right; have h1 := (HO3.out.lt q hv).1; intro e; have := Option.some.inj e; omega)
        have G5 := G4.trans hg5
        have hm1 : leftLen wr bx = L2.length := HLL.out.len
        have hm2 : leftLen w5 bx = L5.length := hl5.len
        have HP5 := Lib.hid P5
        have HO5 := Lib.hid O5
        have HG5 := Lib.hid G5
        have HL5 := Lib.hid hl5
        have HM1 := Lib.hid hm1
        have HM2 := Lib.hid hm2
        clear P4 L4 O4 G4 P5 O5 G5 hg4 hg5 hl5 p1' pf1' hm1 hm2
        rcases hn5 with ⟨rfl, hn5⟩ | ⟨rfl, rfl, rfl, hn5⟩
        · have hlt5 := nextF_len hn5
          have HR5 := Lib.hid (HR.out.step hn5)
          rw [HGE.out] at HR5
          simp only [List.length_cons, List.length_nil] at hlt5
          clear hn5
          go_wp2
          go_roundw
          case rel => exact ⟨true, n5, g3, L5, _, rfl, rfl, HP5, HO5, HL5, by have := HRL.out; omega, by omega, by intro _; have := HRL.out; omega, HR5, HG5⟩
          case measure => show leftLen w5 bx + 1 < leftLen wr bx + 1; rw [HM1.out, HM2.out]; omega
        · have HR5 := Lib.hid (HR.out.stop (n3 := 0) hn5)
          rw [HGE.out] at HR5
          clear hn5
          go_wp2
          go_roundw
          case rel => exact ⟨false, 0, g3, L5, _, rfl, rfl, HP5, HO5, HL5, by have := HRL.out; omega, by omega, by simp, HR5, HG5⟩
          case measure => show 0 < leftLen wr bx + 1; omega
  · have hRL' := hRL.symm
    clear hRL
    subst hRL'
    have HN2 : Hid (nextF (frontB false) L = none) := Lib.hid (by rw [HF1.out]; exact hn2)
    clear hn2
    have p0 := HPS.out.c0
    have pf0 := HPS.out.fr (i := 0)
    go_wp2_with fail
    have hg3 := grownBy_setCell w2 ⟨w.heap.size, 0, none⟩ (.bool true)
    have P3 := HPS.out.set0 (.bool true)
    have L3 := HLS.out.kept hg3 (fun e => by have h : bx = w.heap.size := Option.some.inj e; omega)
    have G3 := HGS.out.andThen hg3 (fun j hj => .inl (by have h : w.heap.size = j := Option.some.inj hj; omega))
    refine (signs_grown _ none).mono ?_
    rintro e w4 ⟨B4, rfl, hs4, hg4⟩
    have hlk4 := hs4.look3 true
    have L4 := L3.kept hg4 (by simp)
    have P4 := P3.kept hg4 (by simp)
    have G4 := G3.andThen hg4 (fun j hj => by cases hj)
    have HN4 := Lib.hid (next_any bx (frontB true) L (by omega) w4 L4)
    have HP4 := Lib.hid P4
    have HG4 := Lib.hid G4
    obtain ⟨f4, hf4⟩ : ∃ f, frontB true = f := ⟨_, rfl⟩
    rw [hf4] at HN4 hlk4
    have HF4 := Lib.hid hf4
    clear hs4 hg4 L3 P3 G3 hg3 L4 P4 G4 hf4 HPS HLS HGS p0 pf0
    go_wp2_with fail
    refine HN4.out.mono ?_
    rintro e w5 ⟨n5, ok5, R5, rfl, hn5, hl5, hg5⟩
    have P5 := HP4.out.kept hg5 (fun e => by have := Option.some.inj e; omega)
    have HPS := Lib.hid P5
    have HLS := Lib.hid hl5
    have HGS := Lib.hid (HG4.out.trans hg5)
    clear P5 hl5 hg5 HN4 HP4 HG4 hlk4
    rcases hn5 with ⟨rfl, hn5⟩ | ⟨rfl, rfl, hRL, hn5⟩
    · have hlt2 := nextF_len hn5
      have HN5 : Hid (nextF (frontB true) L = some (n5, R5)) := Lib.hid (by rw [HF4.out]; exact hn5)
      clear hn5
      have HST : Hid (PRel L true true n5 [] R5) := Lib.hid (.inl ⟨rfl, fun ns R hr => .minus HN2.out HN5.out hr⟩)
      go_wp2
      go_loopw [3, 4] (fun okv mv wr => ∃ (ok : Bool) (n : Int) (got : List Int) (L2 : List UInt8) (pv : Value), okv = .bool ok ∧ mv = .int .i64 n ∧ Hid (Two wr w.heap.size (.bool true) pv 87) ∧ Hid (OwnM wr (w.heap.size + 1) pv got) ∧ Hid (LeftAt wr bx L2) ∧ got.length ≤ 1000 ∧ L2.length ≤ 990 ∧ (ok = true → got.length + L2.length ≤ 990) ∧ Hid (PRel L true ok n got L2) ∧ Hid (w.grownBy wr (some bx))) (fun okv _ wr => match okv with | .bool true => leftLen wr bx + 1 | _ => 0)
      case atStart => exact ⟨true, n5, [], R5, .slice none 0 0, rfl, rfl, HPS, Lib.hid (ownM_nil _ _), HLS, by simp, by omega, by intro _; simp; omega, HST, HGS⟩
      case round =>
        obtain ⟨ok, n, got, L2, pv, rfl, rfl, HP, HO, HLL, hgl, hll, hgo, HR, HG⟩ := hrel
        clear HPS HLS HGS HST
        have p0 := HP.out.c0
        have p1 := HP.out.c1
        have pf0 := HP.out.fr (i := 0)
        have pf1 := HP.out.fr (i := 1)
        have hpl := HP.out.lt
        cases ok
        · obtain ⟨av, cv, rfl, _⟩ := (HO.out.at (by omega)).placed
          have hR : (got ≠ [] ∧ PieceRd L (true, got) L2) ∨ (got = [] ∧ L2 = L ∧ nextF (frontB false) L = none ∧ nextF (frontB true) L = none) := by
            rcases HR.out with h | h | h
            · exact absurd h.1 (by simp)
            · exact .inl h.2
            · exact .inr h.2
          have HRR := Lib.hid hR
          have hgk : Hid (decide (0 < (got.length : Int)) = true ↔ got ≠ []) := Lib.hid (by rw [decide_eq_true_iff]; constructor <;> intro h <;> cases got <;> simp_all)
          clear hR HR
          go_wp2
          refine bodyPost_ret (v := .tuple #[.agg #[.bool true, .slice av got.length cv], .bool (decide (0 < (got.length : Int)))]) ?_ rfl ?_
          · have X4 := (HP.out.set0 (.bool true)).set1 (.slice av got.length cv) rfl
            have d0 := X4.c0
            have d1 := X4.c1
            simp [results, Tryz.results134, go_sem, d0, d1]
          · have hg4 := (two_after HP.out (.bool true) (.slice av got.length cv) rfl).2.2.2
            have hlb := HLL.out.2.2
            refine ⟨true, got, _, L2, _, rfl, hgl, ?_, HLL.out.kept hg4 (fun e => by have := Option.some.inj e; omega), HG.out.andThen hg4 (fun j hj => by have := Option.some.inj hj; exact .inl (by omega)), ?_⟩
            · refine (HO.out.kept hg4 ?_).low (by omega)
              cases hv : (Value.slice av got.length cv).ownBlock with
              | none => exact .inl rfl
              | some q => right; have h1 := (HO.out.lt q hv).1; intro e; have := Option.some.inj e; omega
            · rcases HRR.out with h | h
              · exact .inl ⟨hgk.out.2 h.1, h.2⟩
              · exact .inr ⟨by cases hd : decide (0 < (got.length : Int)) with | false => rfl | true => exact absurd h.1 (hgk.out.1 hd), h.2.1, h.2.2.1, h.2.2.2⟩
        · have hgl2 : got.length + L2.length ≤ 990 := hgo rfl
          have hbsz := HG.out.size
          clear hgo
          go_wp2_with (at_builtin; refine wpList_appM rfl _ _ rfl (w.heap.size + 1) pv got rfl (HO.out.below ((Below.refl _ wr).alloc (Nat.le_refl _) _)) ⟨wr.heap.size, 0, none⟩ 1 n rfl (cell_one wr _ _) (by omega) (by simp; omega) ?_; intro vr w3 hor hgr; have hr1 : ∀ k, pv.ownBlock = some k → w.heap.size + 1 ≤ k := fun k hk => (HO.out.lt k hk).1; have hal' := World.grownBy_alloc wr (.cells #[.int .i64 n] 3) none; have P3 := (HP.out.alloc (.cells #[.int .i64 n] 3)).kept hgr (fun e => (by have := hr1 _ e.symm; omega)); have hlb := HLL.out.2.2; have L3 := (HLL.out.kept hal' (by simp)).kept hgr (fun e => (by have := hr1 _ e.symm; omega)); have G3 := (HG.out.trans (World.grownBy_alloc wr (.cells #[.int .i64 n] 3) (some bx))).andThen hgr (fun j hj => .inl (by have := hr1 _ hj; omega)); obtain ⟨g3, hge⟩ : ∃ g3, got ++ [n] = g3 := ⟨_, rfl⟩; rw [hge] at hor; have HRL : Hid (g3.length = got.length + 1) := Lib.hid (by rw [← hge]; simp); have HGE := Lib.hid hge; clear hge; obtain ⟨av, cv, rfl, _⟩ := (hor.at (by have := HRL.out; omega)).placed; have HP3 := Lib.hid P3; have HL3 := Lib.hid L3; have HG3 := Lib.hid G3; have HO3 := Lib.hid hor; have p1' := P3.c1; have pf1' := P3.fr (i := 1); clear P3 L3 G3 hor hgr hal' hr1 p0 p1 pf0 pf1)
          have hg4 := grownBy_setCell w3 ⟨w.heap.size, 1, none⟩ (.slice av g3.length cv)
          have P4 := HP3.out.set1 (.slice av g3.length cv) rfl
          have L4 := HL3.out.kept hg4 (fun e => by have h : bx = w.heap.size := Option.some.inj e; omega)
          have O4 := HO3.out.kept hg4 (by
            cases hv : (Value.slice av g3.length cv).ownBlock with
            | none => exact .inl rfl
            | some q => right; have h1 := (HO3.out.lt q hv).1; intro e; have h : q = w.heap.size := Option.some.inj e; omega)
          have G4 := HG3.out.andThen hg4 (fun j hj => .inl (by have h : w.heap.size = j := Option.some.inj hj; omega))
          refine (next_any bx [42] L2 (by omega) _ L4).mono ?_
          rintro e w5 ⟨n5, ok5, L5, rfl, hn5, hl5, hg5⟩
          have P5 := P4.kept hg5 (fun e => by have := Option.some.inj e; omega)
          have O5 := O4.kept hg5 (by
            cases hv : (Value.slice av g3.length cv).ownBlock with
            | none => exact .inl rfl
            | some q => right; have h1 := (HO3.out.lt q hv).1; intro e; have := Option.some.inj e; omega)
          have G5 := G4.trans hg5
          have hm1 : leftLen wr bx = L2.length := HLL.out.len
          have hm2 : leftLen w5 bx = L5.length := hl5.len
          have HP5 := Lib.hid P5
          have HO5 := Lib.hid O5
          have HG5 := Lib.hid G5
          have HL5 := Lib.hid hl5
          have HM1 := Lib.hid hm1
          have HM2 := Lib.hid hm2
          clear P4 L4 O4 G4 P5 O5 G5 hg4 hg5 hl5 p1' pf1' hm1 hm2
          rcases hn5 with ⟨rfl, hn5⟩ | ⟨rfl, rfl, rfl, hn5⟩
          · have hlt5 := nextF_len hn5
            have HR5 := Lib.hid (HR.out.step hn5)
            rw [HGE.out] at HR5
            simp only [List.length_cons, List.length_nil] at hlt5
            clear hn5
            go_wp2
            go_roundw
            case rel => exact ⟨true, n5, g3, L5, _, rfl, rfl, HP5, HO5, HL5, by have := HRL.out; omega, by omega, by intro _; have := HRL.out; omega, HR5, HG5⟩
            case measure => show leftLen w5 bx + 1 < leftLen wr bx + 1; rw [HM1.out, HM2.out]; omega
          · have HR5 := Lib.hid (HR.out.stop (n3 := 0) hn5)
            rw [HGE.out] at HR5
            clear hn5
            go_wp2
            go_roundw
            case rel => exact ⟨false, 0, g3, L5, _, rfl, rfl, HP5, HO5, HL5, by have := HRL.out; omega, by omega, by simp, HR5, HG5⟩
            case measure => show 0 < leftLen wr bx + 1; omega
    · have hRL' := hRL.symm
      clear hRL
      subst hRL'
      have HN5 : Hid (nextF (frontB true) L = none) := Lib.hid (by rw [HF4.out]; exact hn5)
      clear hn5
      have HST : Hid (PRel L true false 0 [] L) := Lib.hid (.inr (.inr ⟨rfl, rfl, rfl, HN2.out, HN5.out⟩))
      go_wp2
      go_loopw [3, 4] (fun okv mv wr => ∃ (ok : Bool) (n : Int) (got : List Int) (L2 : List UInt8) (pv : Value), okv = .bool ok ∧ mv = .int .i64 n ∧ Hid (Two wr w.heap.size (.bool true) pv 87) ∧ Hid (OwnM wr (w.heap.size + 1) pv got) ∧ Hid (LeftAt wr bx L2) ∧ got.length ≤ 1000 ∧ L2.length ≤ 990 ∧ (ok = true → got.length + L2.length ≤ 990) ∧ Hid (PRel L true ok n got L2) ∧ Hid (w.grownBy wr (some bx))) (fun okv _ wr => match okv with | .bool true => leftLen wr bx + 1 | _ => 0)
      case atStart => exact ⟨false, 0, [], L, .slice none 0 0, rfl, rfl, HPS, Lib.hid (ownM_nil _ _), HLS, by simp, by omega, by intro _; simp; omega, HST, HGS⟩
      case round =>
        obtain ⟨ok, n, got, L2, pv, rfl, rfl, HP, HO, HLL, hgl, hll, hgo, HR, HG⟩ := hrel
        clear HPS HLS HGS HST
        have p0 := HP.out.c0
        have p1 := HP.out.c1
        have pf0 := HP.out.fr (i := 0)
        have pf1 := HP.out.fr (i := 1)
        have hpl := HP.out.lt
        cases ok
        · obtain ⟨av, cv, rfl, _⟩ := (HO.out.at (by omega)).placed
          have hR : (got ≠ [] ∧ PieceRd L (true, got) L2) ∨ (got = [] ∧ L2 = L ∧ nextF (frontB false) L = none ∧ nextF (frontB true) L = none) := by
            rcases HR.out with h | h | h
            · exact absurd h.1 (by simp)
            · exact .inl h.2
            · exact .inr h.2
          have HRR := Lib.hid hR
          have hgk : Hid (decide (0 < (got.length : Int)) = true ↔ got ≠ []) := Lib.hid (by rw [decide_eq_true_iff]; constructor <;> intro h <;> cases got <;> simp_all)
          clear hR HR
          go_wp2
          refine bodyPost_ret (v := .tuple #[.agg #[.bool true, .slice av got.length cv], .bool (decide (0 < (got.length : Int)))]) ?_ rfl ?_
          · have X4 := (HP.out.set0 (.bool true)).set1 (.slice av got.length cv) rfl
            have d0 := X4.c0
            have d1 := X4.c1
            simp [results, Tryz.results134, go_sem, d0, d1]
          · have hg4 := (two_after HP.out (.bool true) (.slice av got.length cv) rfl).2.2.2
            have hlb := HLL.out.2.2
            refine ⟨true, got, _, L2, _, rfl, hgl, ?_, HLL.out.kept hg4 (fun e => by have := Option.some.inj e; omega), HG.out.andThen hg4 (fun j hj => by have := Option.some.inj hj; exact .inl (by omega)), ?_⟩
            · refine (HO.out.kept hg4 ?_).low (by omega)
              cases hv : (Value.slice av got.length cv).ownBlock with
              | none => exact .inl rfl
              | some q => right; have h1 := (HO.out.lt q hv).1; intro e; have := Option.some.inj e; omega
            · rcases HRR.out with h | h
              · exact .inl ⟨hgk.out.2 h.1, h.2⟩
              · exact .inr ⟨by cases hd : decide (0 < (got.length : Int)) with | false => rfl | true => exact absurd h.1 (hgk.out.1 hd), h.2.1, h.2.2.1, h.2.2.2⟩
        · have hgl2 : got.length + L2.length ≤ 990 := hgo rfl
          have hbsz := HG.out.size
          clear hgo
          go_wp2_with (at_builtin; refine wpList_appM rfl _ _ rfl (w.heap.size + 1) pv got rfl (HO.out.below ((Below.refl _ wr).alloc (Nat.le_refl _) _)) ⟨wr.heap.size, 0, none⟩ 1 n rfl (cell_one wr _ _) (by omega) (by simp; omega) ?_; intro vr w3 hor hgr; have hr1 : ∀ k, pv.ownBlock = some k → w.heap.size + 1 ≤ k := fun k hk => (HO.out.lt k hk).1; have hal' := World.grownBy_alloc wr (.cells #[.int .i64 n] 3) none; have P3 := (HP.out.alloc (.cells #[.int .i64 n] 3)).kept hgr (fun e => (by have := hr1 _ e.symm; omega)); have hlb := HLL.out.2.2; have L3 := (HLL.out.kept hal' (by simp)).kept hgr (fun e => (by have := hr1 _ e.symm; omega)); have G3 := (HG.out.trans (World.grownBy_alloc wr (.cells #[.int .i64 n] 3) (some bx))).andThen hgr (fun j hj => .inl (by have := hr1 _ hj; omega)); obtain ⟨g3, hge⟩ : ∃ g3, got ++ [n] = g3 := ⟨_, rfl⟩; rw [hge] at hor; have HRL : Hid (g3.length = got.length + 1) := Lib.hid (by rw [← hge]; simp); have HGE := Lib.hid hge; clear hge; obtain ⟨av, cv, rfl, _⟩ := (hor.at (by have := HRL.out; omega)).placed; have HP3 := Lib.hid P3; have HL3 := Lib.hid L3; have HG3 := Lib.hid G3; have HO3 := Lib.hid hor; have p1' := P3.c1; have pf1' := P3.fr (i := 1); clear P3 L3 G3 hor hgr hal' hr1 p0 p1 pf0 pf1)
          have hg4 := grownBy_setCell w3 ⟨w.heap.size, 1, none⟩ (.slice av g3.length cv)
          have P4 := HP3.out.set1 (.slice av g3.length cv) rfl
          have L4 := HL3.out.kept hg4 (fun e => by have h : bx = w.heap.size := Option.some.inj e; omega)
          have O4 := HO3.out.kept hg4 (by
            cases hv : (Value.slice av g3.length cv).ownBlock with
            | none => exact .inl rfl
            | some q => right; have h1 := (HO3.out.lt q hv).1; intro e; have h : q = w.heap.size := Option.some.inj e; omega)
          have G4 := HG3.out.andThen hg4 (fun j hj => .inl (by have h : w.heap.size = j := Option.some.inj hj; omega))
          refine (next_any bx [42] L2 (by omega) _ L4).mono ?_
          rintro e w5 ⟨n5, ok5, L5, rfl, hn5, hl5, hg5⟩
          have P5 := P4.kept hg5 (fun e => by have := Option.some.inj e; omega)
          have O5 := O4.kept hg5 (by
            cases hv : (Value.slice av g3.length cv).ownBlock with
            | none => exact .inl rfl
            | some q => right; have h1 := (HO3.out.lt q hv).1; intro e; have := Option.some.inj e; omega)
          have G5 := G4.trans hg5
          have hm1 : leftLen wr bx = L2.length := HLL.out.len
          have hm2 : leftLen w5 bx = L5.length := hl5.len
          have HP5 := Lib.hid P5
          have HO5 := Lib.hid O5
          have HG5 := Lib.hid G5
          have HL5 := Lib.hid hl5
          have HM1 := Lib.hid hm1
          have HM2 := Lib.hid hm2
          clear P4 L4 O4 G4 P5 O5 G5 hg4 hg5 hl5 p1' pf1' hm1 hm2
          rcases hn5 with ⟨rfl, hn5⟩ | ⟨rfl, rfl, rfl, hn5⟩
          · have hlt5 := nextF_len hn5
            have HR5 := Lib.hid (HR.out.step hn5)
            rw [HGE.out] at HR5
            simp only [List.length_cons, List.length_nil] at hlt5
            clear hn5
            go_wp2
            go_roundw
            case rel => exact ⟨true, n5, g3, L5, _, rfl, rfl, HP5, HO5, HL5, by have := HRL.out; omega, by omega, by intro _; have := HRL.out; omega, HR5, HG5⟩
            case measure => show leftLen w5 bx + 1 < leftLen wr bx + 1; rw [HM1.out, HM2.out]; omega
          · have HR5 := Lib.hid (HR.out.stop (n3 := 0) hn5)
            rw [HGE.out] at HR5
            clear hn5
            go_wp2
            go_roundw
            case rel => exact ⟨false, 0, g3, L5, _, rfl, rfl, HP5, HO5, HL5, by have := HRL.out; omega, by omega, by simp, HR5, HG5⟩
            case measure => show 0 < leftLen wr bx + 1; omega
end Go.Proofs.YtkjclafbpocabaaGreatDoor
