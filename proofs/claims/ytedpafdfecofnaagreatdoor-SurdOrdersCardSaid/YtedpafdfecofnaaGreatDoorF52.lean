/-
  Contracts of the program's own functions (and their plain mathematics), on the way to the law: each for all arguments that its hypotheses let.
-/
import Derived.Test.YtedpafdfecofnaaGreatDoorF50
import Derived.Test.YtedpafdfecofnaaGreatDoorF51
import Derived.WalkKit
import Derived.WalkSpells
import Derived.WalkLawsBesides
import Derived.Deep.QuietTactic
import Derived.BigQuiet
import Derived.Lib.Hide
import Derived.WalkSmall
import Derived.Maps.OwnSet
import Derived.Maps.RangeWalk
import Derived.Deep.RegionWith
import Derived.Deep.RegionHeld3
import Derived.Deep.DrawnRows
import Derived.Deep.DeepCutAuto
import Derived.OneCell
import Derived.KernelRfl
import Derived.Laws.StructEq
import Derived.StillTailTactics
import Derived.Laws.Externs
import Derived.RangeFuncBox
import Derived.Test.YtedpafdfecofnaaGreatDoorPlain
set_option linter.unusedSimpArgs false
set_option linter.unusedVariables false

/-! ## S123 -/
namespace Go.Proofs.YtedpafdfecofnaaGreatDoor
open Go.RowKit Go.Maps Go.Shelf Go.Sort
/-- What the blocks of Read hold. -/
def RdI (w wr : World) (d c r : Int) (ts : List (Int × Int)) (v : Value) : Prop :=
  OwnT wr (w.heap.size + 3) v ts ∧ Two wr (w.heap.size + 1) (.int .i64 d) v 24 ∧ Two wr (w.heap.size + 2) (.int .i64 c) (.int .i64 r) 34 ∧ Two wr w.heap.size (.int .i64 0) (.slice none 0 0) 24 ∧ Below w.heap.size w wr ∧ w.heap.size + 3 ≤ wr.heap.size
theorem own_ne {wr : World} {base B : Nat} {v : Value} {ts : List (Int × Int)} (h : OwnT wr base v ts) (hB : B < base) : v.ownBlock = none ∨ v.ownBlock ≠ some B := by
  cases hv : v.ownBlock with
  | none => exact .inl rfl
  | some k => right; intro e; have := (h.lt k hv).1; have := Option.some.inj e; omega
theorem RdI.setd {w wr : World} {d c r : Int} {ts : List (Int × Int)} {v : Value} (h : RdI w wr d c r ts v) (x : Int) : RdI w (wr.setCell ⟨w.heap.size + 1, 0, none⟩ (.int .i64 x)) x c r ts v := by
  obtain ⟨h1, h2, h3, h4, h5, h6⟩ := h
  exact ⟨h1.kept (grownBy_setCell _ _ _) (own_ne h1 (by simp)), h2.set0 _, h3.kept (grownBy_setCell _ _ _) (by simp), h4.kept (grownBy_setCell _ _ _) (by simp), h5.setCell (by simp) _, by simpa using h6⟩
theorem RdI.setc {w wr : World} {d c r : Int} {ts : List (Int × Int)} {v : Value} (h : RdI w wr d c r ts v) (x : Int) : RdI w (wr.setCell ⟨w.heap.size + 2, 0, none⟩ (.int .i64 x)) d x r ts v := by
  obtain ⟨h1, h2, h3, h4, h5, h6⟩ := h
  exact ⟨h1.kept (grownBy_setCell _ _ _) (own_ne h1 (by simp)), h2.kept (grownBy_setCell _ _ _) (by simp), h3.set0 _, h4.kept (grownBy_setCell _ _ _) (by simp), h5.setCell (by simp) _, by simpa using h6⟩
theorem RdI.setr {w wr : World} {d c r : Int} {ts : List (Int × Int)} {v : Value} (h : RdI w wr d c r ts v) (x : Int) : RdI w (wr.setCell ⟨w.heap.size + 2, 1, none⟩ (.int .i64 x)) d c x ts v := by
  obtain ⟨h1, h2, h3, h4, h5, h6⟩ := h
  exact ⟨h1.kept (grownBy_setCell _ _ _) (own_ne h1 (by simp)), h2.kept (grownBy_setCell _ _ _) (by simp), h3.set1 _ rfl, h4.kept (grownBy_setCell _ _ _) (by simp), h5.setCell (by simp) _, by simpa using h6⟩
theorem two_at (W : World) (b : Nat) (x y : Value) (T : TypeId) (h : W.heap.size = b) : Two (W.alloc (.cells #[x, y] T)) b x y T := by subst h; exact Two.new W x y T
theorem RdI.start (w : World) : RdI w ((((((w.alloc (.cells #[.int .i64 0, .slice none 0 0] 24)).alloc (.cells #[.int .i64 1, .slice none 0 0] 24)).alloc (.cells #[.int .i64 0, .int .i64 1] 34))))) 1 0 1 [] (.slice none 0 0) := by
  refine ⟨World.ownsRow_nil _ _ _ _, ?_, ?_, ((Two.new _ _ _ _).alloc _).alloc _, (((Below.refl _ _).alloc (Nat.le_refl _) _).alloc (by simp) _).alloc (by simp; omega) _, by simp⟩
  · exact (two_at _ _ _ _ _ (by simp)).alloc _
  · exact two_at _ _ _ _ _ (by simp)
theorem RdI.cells {w wr : World} {d c r : Int} {ts : List (Int × Int)} {v : Value} (h : RdI w wr d c r ts v) :
    wr.cell? ⟨w.heap.size + 1, 0, none⟩ = some (.int .i64 d) ∧ wr.cell? ⟨w.heap.size + 1, 1, none⟩ = some v ∧ wr.cell? ⟨w.heap.size + 2, 0, none⟩ = some (.int .i64 c) ∧ wr.cell? ⟨w.heap.size + 2, 1, none⟩ = some (.int .i64 r) ∧
    wr.cell? ⟨w.heap.size, 0, none⟩ = some (.int .i64 0) ∧ wr.cell? ⟨w.heap.size, 1, none⟩ = some (.slice none 0 0) :=
  ⟨h.2.1.c0, h.2.1.c1, h.2.2.1.c0, h.2.2.1.c1, h.2.2.2.1.c0, h.2.2.2.1.c1⟩
theorem RdI.thaw {w wr : World} {d c r : Int} {ts : List (Int × Int)} {v : Value} (h : RdI w wr d c r ts v) :
    (∀ i, wr.frozen? ⟨w.heap.size + 1, i, none⟩ = false) ∧ (∀ i, wr.frozen? ⟨w.heap.size + 2, i, none⟩ = false) ∧ (∀ i, wr.frozen? ⟨w.heap.size, i, none⟩ = false) :=
  ⟨fun _ => h.2.1.fr, fun _ => h.2.2.1.fr, fun _ => h.2.2.2.1.fr⟩
theorem RdI.below {w wr w' : World} {d c r : Int} {ts : List (Int × Int)} {v : Value} (h : RdI w wr d c r ts v) (hb : Below wr.heap.size wr w') : RdI w w' d c r ts v := by
  obtain ⟨h1, h2, h3, h4, h5, h6⟩ := h
  exact ⟨h1.below hb, h2.below hb h2.lt, h3.below hb h3.lt, h4.below hb h4.lt, h5.trans (hb.mono h5.size), Nat.le_trans h6 hb.size⟩
theorem byte_ne {b c : UInt8} (h : b ≠ c) : ((b.toNat : Int) == (c.toNat : Int)) = false := by
  rw [beq_eq_false_iff_ne]
  intro e
  exact h (UInt8.toNat_inj.1 (by omega))
/-- What Read gives: a number of the text, or none. -/
def ReadsTo (L : List UInt8) (w : World) (e : Ending) (w' : World) : Prop :=
  ∃ (d : Int) (l : List (Int × Int)) (v : Value) (ok : Bool), e = .returned (.tuple #[.agg #[.int .i64 d, v], .bool ok]) ∧ TermsAt w' v l ∧ Below w.heap.size w w' ∧
    (ok = true → validF d l = true ∧ textB d l = L) ∧ (ok = false → ∀ d l, validF d l = true → textB d l ≠ L)
theorem none_reads {L : List UInt8} (h : rgo true (L ++ [0]) rinit = none) : ∀ d l, validF d l = true → textB d l ≠ L := by
  intro d l hv e
  obtain ⟨s, hs, _⟩ := rgo_text d l hv
  rw [e, h] at hs
  cases hs
theorem some_reads {L : List UInt8} {s : RSt} (h : rgo true (L ++ [0]) rinit = some s) (hn : ¬ (validF s.d s.ts = true ∧ textB s.d s.ts = L)) : ∀ d l, validF d l = true → textB d l ≠ L := by
  intro d l hv e
  obtain ⟨s', hs, h1, h2⟩ := rgo_text d l hv
  rw [e, h] at hs
  have e2 := Option.some.inj hs
  subst e2
  exact hn (by rw [h1, h2]; exact ⟨hv, e⟩)
theorem drop_at {L : List UInt8} {k : Nat} (h : k ≤ L.length) : (L ++ [0]).drop k = (L ++ [0]).getD k 0 :: (L ++ [0]).drop (k + 1) := by
  have hk : k < (L ++ [0]).length := by simp; omega
  rw [List.drop_eq_getElem_cons hk, List.getD_eq_getElem?_getD, List.getElem?_eq_getElem hk]; rfl
theorem byte_at {L : List UInt8} {k : Nat} (h : k < L.length) : (L ++ [0]).getD k 0 = L[k] := by
  rw [List.getD_eq_getElem?_getD, List.getElem?_append_left h, List.getElem?_eq_getElem h]; rfl
theorem byte_end (L : List UInt8) : (L ++ [0]).getD L.length 0 = 0 := by
  rw [List.getD_eq_getElem?_getD, List.getElem?_append_right (Nat.le_refl _)]; simp
set_option maxRecDepth 100000 in
set_option maxHeartbeats 40000000 in
theorem rread_any (L : List UInt8) (hL : L.length ≤ 80) (w : World) : Calls Tryz.prog 44 #[.string ⟨L.toArray⟩] w (ReadsTo L w) := by
  obtain ⟨TOT, hTOT⟩ : ∃ T, rgo true (L ++ [0]) rinit = T := ⟨_, rfl⟩
  have HTOT := Lib.hid hTOT
  clear hTOT
  have HI0 := Lib.hid (RdI.start w)
  obtain ⟨i0, hi, hz0, hz1, hz2⟩ := info_parts info34
  go_enter Tryz.func44, Tryz.ntmps44
  go_wp2_with fail
  go_loopw [6, 7, 8, 9, 10, 11, 12] (fun s6 s7 s8 s9 s10 _ _ wr => ∃ (k : Nat) (st : RSt) (v : Value), k ≤ L.length + 1 ∧ s6 = .int .i64 st.sg ∧ s7 = .int .i64 (st.n : Nat) ∧ s8 = .bool st.ro ∧ s9 = .bool st.dn ∧ s10 = .int .i64 (k : Nat) ∧ st.n ≤ 6 ∧ st.ts.length ≤ k ∧ Hid (rgo (decide (k = 0)) ((L ++ [0]).drop k) st = TOT) ∧ Hid (RdI w wr st.d st.c st.r st.ts v)) (fun _ _ _ _ s10 _ _ _ => L.length + 1 - (intOf s10).toNat)
  case atStart => exact ⟨0, rinit, .slice none 0 0, Nat.zero_le _, rfl, rfl, rfl, rfl, rfl, Nat.zero_le _, Nat.zero_le _, HTOT, HI0⟩
  case round =>
    clear HI0
    obtain ⟨k, ⟨d, ts, c, r, sg, n, ro, dn⟩, v, hk, rfl, rfl, rfl, rfl, rfl, hn, hts, HGO, HI⟩ := hrel
    dsimp only at hn hts HGO HI
    by_cases hkl : k ≤ L.length
    rotate_left
    · have hk1 : k = L.length + 1 := by omega
      have HS : Hid (rgo true (L ++ [0]) rinit = some ⟨d, ts, c, r, sg, n, ro, dn⟩) := Lib.hid (by rw [HTOT.out, ← HGO.out, hk1, List.drop_of_length_le (by simp)]; rfl)
      obtain ⟨a, cap, rfl, _⟩ := HI.out.1.shape
      obtain ⟨e1, e2, _, _, _, _⟩ := HI.out.cells
      have htl : ts.length ≤ 100 := by omega
      have HT := Lib.hid (HI.out.1.at (by omega))
      have hnum := number_any d (.slice a ts.length cap) ts
      have hs1 : w.heap.size + 1 < wr.heap.size := by have := HI.out.2.2.2.2.2; omega
      clear HGO hk1
      cases hv : validF d ts
      · simp only [hv] at hnum
        have HNR : Hid (∀ d l, validF d l = true → textB d l ≠ L) := Lib.hid (some_reads HS.out (fun h => by dsimp only at h; rw [hv] at h; exact absurd h.1 (by decide)))
        have HNUM := Lib.hid hnum
        clear hv hnum HS
        go_wp2_with fail
        refine (HNUM.out _ HT.out).mono ?_
        rintro e w2 ⟨rfl, hb2⟩
        have HI2 := Lib.hid (HI.out.below hb2)
        have hz0 : w.heap.size < w2.heap.size := by have := hb2.size; omega
        have f0 := HI2.out.thaw.2.2 0
        have f1 := HI2.out.thaw.2.2 1
        clear hb2 e1 e2
        obtain ⟨_, _, _, _, e5, e6⟩ := HI2.out.cells
        go_wp2
        obtain ⟨d0, d1, d2, hg⟩ := two_after HI2.out.2.2.2.1 (.int .i64 0) (.slice none 0 0) rfl
        refine bodyPost_ret (v := .tuple #[.agg #[.int .i64 0, .slice none 0 0], .bool false]) ?_ rfl ?_
        · simp [results, Tryz.results44, go_sem, d1, d2]
        · exact ⟨0, [], .slice none 0 0, false, rfl, termsAt_nil _, HI2.out.2.2.2.2.1.grown hg (by omega) (by intro q hq; cases hq; omega), fun h => (by cases h), fun _ => HNR.out⟩
      · simp only [hv] at hnum
        have V := vld_of hv
        have hbb : Hid (∀ t ∈ ts, (-1000000 < t.1 ∧ t.1 < 1000000) ∧ (0 < t.2 ∧ t.2 < 1000000) ∧ t.1 ≠ 0) := Lib.hid (fun t ht => by have h1 := vld_pt V t ht; have h2 := V.cf t ht; exact ⟨by omega, by omega, h2.2.2⟩)
        have hl4 := V.len
        have hd1 := V.d1
        have hd2 := V.d2
        have htx := fun w0 h0 => rtext_any d (.slice a ts.length cap) ts w0 h0 hl4 (by omega) (by omega) hbb
        obtain ⟨T, hT⟩ : ∃ T, textB d ts = T := ⟨_, rfl⟩
        rw [hT] at htx
        have HTX := Lib.hid htx
        have HTE := Lib.hid hT
        have HV := Lib.hid hv
        have HNUM := Lib.hid hnum
        clear hv hnum hT htx V
        go_wp2_with fail
        refine (HNUM.out _ HT.out).mono ?_
        rintro e w2 ⟨rfl, hb2⟩
        have HI2 := Lib.hid (HI.out.below hb2)
        have HT2 := Lib.hid (HT.out.below hb2)
        have hz2 : w.heap.size + 1 < w2.heap.size := by have := hb2.size; omega
        clear hb2 e1 e2
        obtain ⟨e1, e2, _, _, _, _⟩ := HI2.out.cells
        go_wp2_with fail
        refine (HTX.out _ HT2.out).mono ?_
        rintro e w3 ⟨rfl, hb3⟩
        have HI3 := Lib.hid (HI2.out.below hb3)
        have HT3 := Lib.hid (HT2.out.below hb3)
        have hz3 : w.heap.size + 1 < w3.heap.size := by have := hb3.size; omega
        have hz0 : w.heap.size < w3.heap.size := by omega
        clear hb3 e1 e2
        obtain ⟨e1, e2, _, _, e5, e6⟩ := HI3.out.cells
        have f0 := HI3.out.thaw.2.2 0
        have f1 := HI3.out.thaw.2.2 1
        by_cases hTL : T = L
        · have hq : (T == L) = true := by simpa using hTL
          have HTL := Lib.hid hTL
          clear hTL
          go_wp2
          obtain ⟨d0, d1, d2, hg⟩ := two_after HI3.out.2.2.2.1 (.int .i64 d) (.slice a ts.length cap) rfl
          refine bodyPost_ret (v := .tuple #[.agg #[.int .i64 d, .slice a ts.length cap], .bool true]) ?_ rfl ?_
          · simp [results, Tryz.results44, go_sem, d1, d2]
          · exact ⟨d, ts, .slice a ts.length cap, true, rfl, HT3.out.kept hg (own_ne HI3.out.1 (by omega)), HI3.out.2.2.2.2.1.grown hg (by omega) (by intro q hq; cases hq; omega), fun _ => ⟨HV.out, by rw [HTE.out, HTL.out]⟩, fun h => (by cases h)⟩
        · have hq : (T == L) = false := by simpa using hTL
          have HNR : Hid (∀ d l, validF d l = true → textB d l ≠ L) := Lib.hid (some_reads HS.out (fun h => hTL (by rw [← HTE.out]; exact h.2)))
          clear hTL
          go_wp2
          obtain ⟨d0, d1, d2, hg⟩ := two_after HI3.out.2.2.2.1 (.int .i64 0) (.slice none 0 0) rfl
          refine bodyPost_ret (v := .tuple #[.agg #[.int .i64 0, .slice none 0 0], .bool false]) ?_ rfl ?_
          · simp [results, Tryz.results44, go_sem, d1, d2]
          · exact ⟨0, [], .slice none 0 0, false, rfl, termsAt_nil _, HI3.out.2.2.2.2.1.grown hg (by omega) (by intro q hq; cases hq; omega), fun h => (by cases h), fun _ => HNR.out⟩
    obtain ⟨b, hb⟩ : ∃ b, (L ++ [0]).getD k 0 = b := ⟨_, rfl⟩
    have HST : Hid (rgo (decide (k = 0)) (b :: (L ++ [0]).drop (k + 1)) ⟨d, ts, c, r, sg, n, ro, dn⟩ = TOT) := Lib.hid (by rw [← hb, ← drop_at hkl]; exact HGO.out)
    clear HGO
    go_upto_if 24 with fail
    go_cut [11] (fun s wx => s = .int .u8 (b.toNat : Int) ∧ wx = wr)
    case first =>
      by_cases hlt : k < L.length
      · have hbv : ∀ h, (({ data := L.toArray } : ByteArray)[k]'h) = b := fun h => (byte_at hlt).symm.trans hb
        clear hb
        go_wp2_with fail
        go_meet
        exact ⟨rfl, rfl⟩
      · have hke : k = L.length := by omega
        have hb0 : b = 0 := by rw [← hb, hke, byte_end]
        clear hb
        have HBT : Hid (Value.int IntKind.u8 0 = .int .u8 (b.toNat : Int)) := Lib.hid (by rw [hb0]; rfl)
        clear hb0
        go_wp2_with fail
        go_meet
        exact ⟨HBT.out, rfl⟩
    case rest KK0 hKK0 =>
      obtain ⟨rfl, rfl⟩ := hcut
      obtain ⟨wr, hw⟩ : ∃ W, W = wc := ⟨wc, rfl⟩
      subst hw
      go_upto_region 9 with fail
      go_cut [29] (fun s wx => s = .bool (isDig b) ∧ wx = wr)
      case first =>
        by_cases hd1 : 48 ≤ b.toNat
        · by_cases hd2 : b.toNat ≤ 57
          · have HV : Hid (Value.bool true = .bool (isDig b)) := Lib.hid (by simp [isDig, hd1, hd2])
            have g1 : 48 ≤ (b.toNat : Int) := by omega
            have g2 : (b.toNat : Int) ≤ 57 := by omega
            go_wp2_with fail
            go_meet
            exact ⟨HV.out, rfl⟩
          · have HV : Hid (Value.bool false = .bool (isDig b)) := Lib.hid (by simp [isDig, hd2])
            have g1 : 48 ≤ (b.toNat : Int) := by omega
            have g2 : ¬ (b.toNat : Int) ≤ 57 := by omega
            go_wp2_with fail
            go_meet
            exact ⟨HV.out, rfl⟩
        · have HV : Hid (Value.bool false = .bool (isDig b)) := Lib.hid (by simp [isDig, hd1])
          have g1 : ¬ 48 ≤ (b.toNat : Int) := by omega
          go_wp2_with fail
          go_meet
          exact ⟨HV.out, rfl⟩
      case rest KK1 hKK1 =>
        obtain ⟨rfl, rfl⟩ := hcut
        obtain ⟨wr, hw⟩ : ∃ W, W = wc := ⟨wc, rfl⟩
        subst hw
        cases hdg : isDig b
        rotate_left
        · -- a digit
          have hd0 : 48 ≤ b.toNat ∧ b.toNat ≤ 57 := by simpa [isDig] using hdg
          obtain ⟨hd1, hd2⟩ := hd0
          by_cases hn6 : 6 < n + 1
          · have HR : Hid (rgo true (L ++ [0]) rinit = none) := Lib.hid (by rw [HTOT.out, ← HST.out]; exact rgo_none (by unfold rstep; rw [if_pos hdg, if_pos hn6]))
            have hq : 6 < (n : Int) + 1 := by omega
            obtain ⟨_, _, _, _, e5, e6⟩ := HI.out.cells
            have f0 := HI.out.thaw.2.2 0
            have f1 := HI.out.thaw.2.2 1
            have hz0 : w.heap.size < wr.heap.size := by have := HI.out.2.2.2.2.2; omega
            clear hdg hd1 hd2 hn6
            go_wp2
            obtain ⟨d0, d1, d2, hg⟩ := two_after HI.out.2.2.2.1 (.int .i64 0) (.slice none 0 0) rfl
            refine bodyPost_ret (v := .tuple #[.agg #[.int .i64 0, .slice none 0 0], .bool false]) ?_ rfl ?_
            · simp [results, Tryz.results44, go_sem, d1, d2]
            · exact ⟨0, [], .slice none 0 0, false, rfl, termsAt_nil _, HI.out.2.2.2.2.1.grown hg (by omega) (by intro q hq; cases hq; omega), fun h => (by cases h), fun _ => none_reads HR.out⟩
          · have hq : ¬ 6 < (n : Int) + 1 := by omega
            have w1 : IntKind.u8.wrap ((b.toNat : Int) - 48) = (b.toNat : Int) - 48 := IntWalk.u8_in _ (by omega)
            have w2 : IntKind.i64.wrap ((b.toNat : Int) - 48) = (b.toNat : Int) - 48 := IntWalk.i64_in _ (by omega)
            have HDG := Lib.hid hdg
            clear hdg
            cases hdn : dn
            rotate_left
            · subst hdn
              obtain ⟨y, hy⟩ : ∃ y, IntKind.i64.wrap (10 * d) = y := ⟨_, rfl⟩
              have hzz : digS d b = IntKind.i64.wrap (y + ((b.toNat : Int) - 48)) := by unfold digS; rw [hy]
              obtain ⟨z, hz⟩ : ∃ z, IntKind.i64.wrap (y + ((b.toNat : Int) - 48)) = z := ⟨_, rfl⟩
              rw [hz] at hzz
              have HG2 : Hid (rgo (decide (k + 1 = 0)) ((L ++ [0]).drop (k + 1)) ⟨z, ts, c, r, sg, n + 1, ro, true⟩ = TOT) := Lib.hid (by
                rw [← HST.out, rgo_cons (s' := ⟨z, ts, c, r, sg, n + 1, ro, true⟩) (by unfold rstep; rw [if_pos HDG.out, if_neg hn6]; dsimp only; simp [hzz])]; rfl)
              have HI2 := Lib.hid (HI.out.setd z)
              have hs1 : w.heap.size + 1 < wr.heap.size := by have := HI.out.2.2.2.2.2; omega
              have hs2 : w.heap.size + 2 < wr.heap.size := by have := HI.out.2.2.2.2.2; omega
              obtain ⟨e1, e2, e3, e4, _, _⟩ := HI.out.cells
              have f0 := HI.out.thaw.1 0
              clear hn6 hzz
              go_wp2
              go_roundw
              case rel => exact ⟨k + 1, ⟨z, ts, c, r, sg, n + 1, ro, true⟩, v, by omega, rfl, by go_num, rfl, rfl, by go_num, by dsimp only; omega, by dsimp only; omega, HG2, HI2⟩
              case measure => simp [intOf]; omega
            cases hro : ro
            rotate_left
            · subst hdn hro
              obtain ⟨y, hy⟩ : ∃ y, IntKind.i64.wrap (10 * r) = y := ⟨_, rfl⟩
              have hzz : digS r b = IntKind.i64.wrap (y + ((b.toNat : Int) - 48)) := by unfold digS; rw [hy]
              obtain ⟨z, hz⟩ : ∃ z, IntKind.i64.wrap (y + ((b.toNat : Int) - 48)) = z := ⟨_, rfl⟩
              rw [hz] at hzz
              have HG2 : Hid (rgo (decide (k + 1 = 0)) ((L ++ [0]).drop (k + 1)) ⟨d, ts, c, z, sg, n + 1, true, false⟩ = TOT) := Lib.hid (by
                rw [← HST.out, rgo_cons (s' := ⟨d, ts, c, z, sg, n + 1, true, false⟩) (by unfold rstep; rw [if_pos HDG.out, if_neg hn6]; dsimp only; simp [hzz])]; rfl)
              have HI2 := Lib.hid (HI.out.setr z)
              have hs1 : w.heap.size + 1 < wr.heap.size := by have := HI.out.2.2.2.2.2; omega
              have hs2 : w.heap.size + 2 < wr.heap.size := by have := HI.out.2.2.2.2.2; omega
              obtain ⟨e1, e2, e3, e4, _, _⟩ := HI.out.cells
              have f0 := HI.out.thaw.2.1 1
              clear hn6 hzz
              go_wp2
              go_roundw
              case rel => exact ⟨k + 1, ⟨d, ts, c, z, sg, n + 1, true, false⟩, v, by omega, rfl, by go_num, rfl, rfl, by go_num, by dsimp only; omega, by dsimp only; omega, HG2, HI2⟩
              case measure => simp [intOf]; omega
            · subst hdn hro
              obtain ⟨y, hy⟩ : ∃ y, IntKind.i64.wrap (10 * c) = y := ⟨_, rfl⟩
              have hzz : digS c b = IntKind.i64.wrap (y + ((b.toNat : Int) - 48)) := by unfold digS; rw [hy]
              obtain ⟨z, hz⟩ : ∃ z, IntKind.i64.wrap (y + ((b.toNat : Int) - 48)) = z := ⟨_, rfl⟩
              rw [hz] at hzz
              have HG2 : Hid (rgo (decide (k + 1 = 0)) ((L ++ [0]).drop (k + 1)) ⟨d, ts, z, r, sg, n + 1, false, false⟩ = TOT) := Lib.hid (by
                rw [← HST.out, rgo_cons (s' := ⟨d, ts, z, r, sg, n + 1, false, false⟩) (by unfold rstep; rw [if_pos HDG.out, if_neg hn6]; dsimp only; simp [hzz])]; rfl)
              have HI2 := Lib.hid (HI.out.setc z)
              have hs1 : w.heap.size + 1 < wr.heap.size := by have := HI.out.2.2.2.2.2; omega
              have hs2 : w.heap.size + 2 < wr.heap.size := by have := HI.out.2.2.2.2.2; omega
              obtain ⟨e1, e2, e3, e4, _, _⟩ := HI.out.cells
              have f0 := HI.out.thaw.2.1 0
              clear hn6 hzz
              go_wp2
              go_roundw
              case rel => exact ⟨k + 1, ⟨d, ts, z, r, sg, n + 1, false, false⟩, v, by omega, rfl, by go_num, rfl, rfl, by go_num, by dsimp only; omega, by dsimp only; omega, HG2, HI2⟩
              case measure => simp [intOf]; omega
        · have HDG := Lib.hid hdg
          clear hdg
          go_upto_region 19 with fail
          go_cut [64] (fun s wx => s = .bool (decide (b = 114 ∧ dn = false ∧ ro = false)) ∧ wx = wr)
          case first =>
            by_cases h1 : b = 114
            · have q1 : ((b.toNat : Int) == 114) = true := by rw [h1]; rfl
              cases dn
              · cases ro
                · have HV : Hid (Value.bool true = .bool (decide (b = 114 ∧ false = false ∧ false = false))) := Lib.hid (by simp [h1])
                  clear h1
                  go_wp2_with fail
                  go_meet
                  exact ⟨HV.out, rfl⟩
                · have HV : Hid (Value.bool false = .bool (decide (b = 114 ∧ false = false ∧ true = false))) := Lib.hid (by simp)
                  clear h1
                  go_wp2_with fail
                  go_meet
                  exact ⟨HV.out, rfl⟩
              · have HV : Hid (Value.bool false = .bool (decide (b = 114 ∧ true = false ∧ ro = false))) := Lib.hid (by simp)
                clear h1
                go_wp2_with fail
                go_meet
                exact ⟨HV.out, rfl⟩
            · have q1 : ((b.toNat : Int) == 114) = false := byte_ne (c := 114) h1
              have HV : Hid (Value.bool false = .bool (decide (b = 114 ∧ dn = false ∧ ro = false))) := Lib.hid (by simp [h1])
              clear h1
              go_wp2_with fail
              go_meet
              exact ⟨HV.out, rfl⟩
          case rest KK2 hKK2 =>
            obtain ⟨rfl, rfl⟩ := hcut
            obtain ⟨wr, hw⟩ : ∃ W, W = wc := ⟨wc, rfl⟩
            subst hw
            by_cases h1 : b = 114 ∧ dn = false ∧ ro = false
            · obtain ⟨hb14, rfl, rfl⟩ := h1
              have HB := Lib.hid hb14
              rw [show decide (b = 114 ∧ false = false ∧ false = false) = true by simp [hb14]]
              clear hb14
              by_cases hn0 : n = 0
              · subst hn0
                have HG2 : Hid (rgo (decide (k + 1 = 0)) ((L ++ [0]).drop (k + 1)) ⟨d, ts, 1, 0, sg, 0, true, false⟩ = TOT) := Lib.hid (by
                  rw [← HST.out, rgo_cons (s' := ⟨d, ts, 1, 0, sg, 0, true, false⟩) (by unfold rstep; rw [if_neg (by rw [HDG.out]; decide), if_pos ⟨HB.out, rfl, rfl⟩]; dsimp only; rw [if_pos rfl])]; rfl)
                have HI2 := Lib.hid (HI.out.setc 1 |>.setr 0)
                have hs2 : w.heap.size + 2 < wr.heap.size := by have := HI.out.2.2.2.2.2; omega
                obtain ⟨_, _, e3, e4, _, _⟩ := HI.out.cells
                have f0 := HI.out.thaw.2.1 0
                have f1 := HI.out.thaw.2.1 1
                have q1 : (((0 : Nat) : Int) == 0) = true := rfl
                go_wp2
                go_roundw
                case rel => exact ⟨k + 1, ⟨d, ts, 1, 0, sg, 0, true, false⟩, v, by omega, rfl, by go_num, rfl, rfl, by go_num, by dsimp only; omega, by dsimp only; omega, HG2, HI2⟩
                case measure => simp [intOf]; omega
              · have HG2 : Hid (rgo (decide (k + 1 = 0)) ((L ++ [0]).drop (k + 1)) ⟨d, ts, c, 0, sg, 0, true, false⟩ = TOT) := Lib.hid (by
                  rw [← HST.out, rgo_cons (s' := ⟨d, ts, c, 0, sg, 0, true, false⟩) (by unfold rstep; rw [if_neg (by rw [HDG.out]; decide), if_pos ⟨HB.out, rfl, rfl⟩]; dsimp only; rw [if_neg hn0])]; rfl)
                have HI2 := Lib.hid (HI.out.setr 0)
                have hs2 : w.heap.size + 2 < wr.heap.size := by have := HI.out.2.2.2.2.2; omega
                obtain ⟨_, _, e3, e4, _, _⟩ := HI.out.cells
                have f0 := HI.out.thaw.2.1 0
                have f1 := HI.out.thaw.2.1 1
                have q1 : ((n : Int) == 0) = false := by simp; omega
                clear hn0
                go_wp2
                go_roundw
                case rel => exact ⟨k + 1, ⟨d, ts, c, 0, sg, 0, true, false⟩, v, by omega, rfl, by go_num, rfl, rfl, by go_num, by dsimp only; omega, by dsimp only; omega, HG2, HI2⟩
                case measure => simp [intOf]; omega
            rw [decide_eq_false h1]
            have H1 := Lib.hid h1
            clear h1
            go_upto_region 23 with fail
            go_cut [79] (fun s wx => s = .bool (decide (b = 40 ∧ k = 0)) ∧ wx = wr)
            case first =>
              by_cases h2 : b = 40
              · have q2 : ((b.toNat : Int) == 40) = true := by rw [h2]; rfl
                by_cases hk0 : k = 0
                · have q3 : ((k : Int) == 0) = true := by simp; omega
                  have HV : Hid (Value.bool true = .bool (decide (b = 40 ∧ k = 0))) := Lib.hid (by simp [h2, hk0])
                  clear h2 hk0
                  go_wp2_with fail
                  go_meet
                  exact ⟨HV.out, rfl⟩
                · have q3 : ((k : Int) == 0) = false := by simp; omega
                  have HV : Hid (Value.bool false = .bool (decide (b = 40 ∧ k = 0))) := Lib.hid (by simp [hk0])
                  clear h2 hk0
                  go_wp2_with fail
                  go_meet
                  exact ⟨HV.out, rfl⟩
              · have q2 : ((b.toNat : Int) == 40) = false := byte_ne (c := 40) h2
                have HV : Hid (Value.bool false = .bool (decide (b = 40 ∧ k = 0))) := Lib.hid (by simp [h2])
                clear h2
                go_wp2_with fail
                go_meet
                exact ⟨HV.out, rfl⟩
            case rest KK3 hKK3 =>
              obtain ⟨rfl, rfl⟩ := hcut
              obtain ⟨wr, hw⟩ : ∃ W, W = wc := ⟨wc, rfl⟩
              subst hw
              by_cases h2 : b = 40 ∧ k = 0
              · rw [decide_eq_true h2]
                have HG2 : Hid (rgo (decide (k + 1 = 0)) ((L ++ [0]).drop (k + 1)) ⟨d, ts, c, r, sg, n, ro, dn⟩ = TOT) := Lib.hid (by
                  rw [← HST.out, rgo_cons (s' := ⟨d, ts, c, r, sg, n, ro, dn⟩) (by unfold rstep; rw [if_neg (by rw [HDG.out]; decide), if_neg H1.out, if_pos ⟨h2.1, decide_eq_true h2.2⟩])]; rfl)
                clear h2
                go_wp2
                go_roundw
                case rel => exact ⟨k + 1, ⟨d, ts, c, r, sg, n, ro, dn⟩, v, by omega, rfl, rfl, rfl, rfl, by go_num, hn, by dsimp only; omega, HG2, HI⟩
                case measure => simp [intOf]; omega
              rw [decide_eq_false h2]
              have H2 := Lib.hid h2
              clear h2
              obtain ⟨p, hp⟩ : ∃ p : Bool, p = true ↔ IsEnd b := ⟨decide (b = 41 ∨ b = 43 ∨ b = 45 ∨ b = 47 ∨ b = 0), by rw [decide_eq_true_eq]; rfl⟩
              have HP := Lib.hid hp
              clear hp
              go_upto_region 24 with fail
              go_cut [86] (fun s wx => s = .bool p ∧ wx = wr)
              case first =>
                have hp := HP.out
                by_cases h41 : b = 41
                · have q41 : ((b.toNat : Int) == 41) = true := by rw [h41]; rfl
                  have HV : Hid (Value.bool true = .bool p) := Lib.hid (by rw [hp.2 (by unfold IsEnd; simp [h41])])
                  clear hp h41
                  go_wp2_with fail
                  go_meet
                  exact ⟨HV.out, rfl⟩
                have q41 : ((b.toNat : Int) == 41) = false := byte_ne (c := 41) h41
                by_cases h43 : b = 43
                · have q43 : ((b.toNat : Int) == 43) = true := by rw [h43]; rfl
                  have HV : Hid (Value.bool true = .bool p) := Lib.hid (by rw [hp.2 (by unfold IsEnd; simp [h43])])
                  clear hp h43
                  go_wp2_with fail
                  go_meet
                  exact ⟨HV.out, rfl⟩
                have q43 : ((b.toNat : Int) == 43) = false := byte_ne (c := 43) h43
                by_cases h45 : b = 45
                · have q45 : ((b.toNat : Int) == 45) = true := by rw [h45]; rfl
                  have HV : Hid (Value.bool true = .bool p) := Lib.hid (by rw [hp.2 (by unfold IsEnd; simp [h45])])
                  clear hp h45
                  go_wp2_with fail
                  go_meet
                  exact ⟨HV.out, rfl⟩
                have q45 : ((b.toNat : Int) == 45) = false := byte_ne (c := 45) h45
                by_cases h47 : b = 47
                · have q47 : ((b.toNat : Int) == 47) = true := by rw [h47]; rfl
                  have HV : Hid (Value.bool true = .bool p) := Lib.hid (by rw [hp.2 (by unfold IsEnd; simp [h47])])
                  clear hp h47
                  go_wp2_with fail
                  go_meet
                  exact ⟨HV.out, rfl⟩
                have q47 : ((b.toNat : Int) == 47) = false := byte_ne (c := 47) h47
                by_cases h0 : b = 0
                · have q0 : ((b.toNat : Int) == 0) = true := by rw [h0]; rfl
                  have HV : Hid (Value.bool true = .bool p) := Lib.hid (by rw [hp.2 (by unfold IsEnd; simp [h0])])
                  clear hp h0
                  go_wp2_with fail
                  go_meet
                  exact ⟨HV.out, rfl⟩
                have q0 : ((b.toNat : Int) == 0) = false := byte_ne (c := 0) h0
                have HV : Hid (Value.bool false = .bool p) := Lib.hid (by
                  have : ¬ p = true := fun h => by
                    rcases hp.1 h with h | h | h | h | h
                    · exact h41 h
                    · exact h43 h
                    · exact h45 h
                    · exact h47 h
                    · exact h0 h
                  simpa using this)
                clear hp h41 h43 h45 h47 h0
                go_wp2_with fail
                go_meet
                exact ⟨HV.out, rfl⟩
              case rest KK4 hKK4 =>
                obtain ⟨rfl, rfl⟩ := hcut
                obtain ⟨wr, hw⟩ : ∃ W, W = wc := ⟨wc, rfl⟩
                subst hw
                cases p
                · have HR : Hid (rgo true (L ++ [0]) rinit = none) := Lib.hid (by
                    rw [HTOT.out, ← HST.out]
                    refine rgo_none ?_
                    unfold rstep
                    rw [if_neg (by rw [HDG.out]; decide), if_neg H1.out, if_neg (fun h => H2.out ⟨h.1, of_decide_eq_true h.2⟩), if_neg]
                    intro h
                    exact absurd (HP.out.2 h) (by decide))
                  obtain ⟨_, _, _, _, e5, e6⟩ := HI.out.cells
                  have f0 := HI.out.thaw.2.2 0
                  have f1 := HI.out.thaw.2.2 1
                  have hz0 : w.heap.size < wr.heap.size := by have := HI.out.2.2.2.2.2; omega
                  go_wp2
                  obtain ⟨d0, d1, d2, hg⟩ := two_after HI.out.2.2.2.1 (.int .i64 0) (.slice none 0 0) rfl
                  refine bodyPost_ret (v := .tuple #[.agg #[.int .i64 0, .slice none 0 0], .bool false]) ?_ rfl ?_
                  · simp [results, Tryz.results44, go_sem, d1, d2]
                  · exact ⟨0, [], .slice none 0 0, false, rfl, termsAt_nil _, HI.out.2.2.2.2.1.grown hg (by omega) (by intro q hq; cases hq; omega), fun h => (by cases h), fun _ => none_reads HR.out⟩
                have HE : Hid (IsEnd b) := Lib.hid (HP.out.1 rfl)
                go_upto_region 25 with fail
                go_cut [113] (fun s wx => s = .bool (!dn && (decide (0 < n) || ro)) ∧ wx = wr)
                case first =>
                  cases dn
                  · by_cases hn0 : 0 < n
                    · have HV : Hid (Value.bool true = .bool (!false && (decide (0 < n) || ro))) := Lib.hid (by simp [hn0])
                      have q1 : 0 < (n : Int) := by omega
                      clear hn0
                      go_wp2_with fail
                      go_meet
                      exact ⟨HV.out, rfl⟩
                    · obtain rfl : n = 0 := by omega
                      cases ro
                      · have HV : Hid (Value.bool false = .bool (!false && (decide (0 < 0) || false))) := Lib.hid (by simp)
                        skip
                        go_wp2_with fail
                        go_meet
                        exact ⟨HV.out, rfl⟩
                      · have HV : Hid (Value.bool true = .bool (!false && (decide (0 < 0) || true))) := Lib.hid (by simp)
                        skip
                        go_wp2_with fail
                        go_meet
                        exact ⟨HV.out, rfl⟩
                  · have HV : Hid (Value.bool false = .bool (!true && (decide (0 < n) || ro))) := Lib.hid (by simp)
                    go_wp2_with fail
                    go_meet
                    exact ⟨HV.out, rfl⟩
                case rest KK5 hKK5 =>
                  obtain ⟨rfl, rfl⟩ := hcut
                  obtain ⟨wr, hw⟩ : ∃ W, W = wc := ⟨wc, rfl⟩
                  subst hw
                  obtain ⟨fl, hfl⟩ : ∃ fl, (!dn && (decide (0 < n) || ro)) = fl := ⟨_, rfl⟩
                  rw [hfl]
                  have HFL := Lib.hid hfl
                  clear hfl
                  go_upto_if 113 with fail
                  go_cut [15] (fun _ wx => ∃ c2 v2, RdI w wx d c2 r (flushT ⟨d, ts, c, r, sg, n, ro, dn⟩) v2)
                  case first =>
                    cases fl
                    · have HF : Hid (flushT ⟨d, ts, c, r, sg, n, ro, dn⟩ = ts) := Lib.hid (by
                        unfold flushT
                        dsimp only
                        rw [if_neg]
                        intro h
                        have := HFL.out
                        rw [h.1] at this
                        rcases h.2 with h2 | h2
                        · rw [decide_eq_true h2] at this; simp at this
                        · rw [h2] at this; simp at this)
                      go_wp2_with fail
                      go_meet
                      exact ⟨c, v, by rw [HF.out]; exact HI.out⟩
                    · have HFT : Hid (flushT ⟨d, ts, c, r, sg, n, ro, dn⟩ = if IntKind.i64.wrap (c * sg) = 0 then ts else ts ++ [(IntKind.i64.wrap (c * sg), r)]) := Lib.hid (by
                        unfold flushT
                        dsimp only
                        have := HFL.out
                        simp only [Bool.and_eq_true, Bool.not_eq_true', Bool.or_eq_true, decide_eq_true_eq] at this
                        rw [if_pos this])
                      obtain ⟨m, hm⟩ : ∃ m, IntKind.i64.wrap (c * sg) = m := ⟨_, rfl⟩
                      have HFT2 : Hid (flushT ⟨d, ts, c, r, sg, n, ro, dn⟩ = if m = 0 then ts else ts ++ [(m, r)]) := Lib.hid (by rw [HFT.out, hm])
                      have hs1 : w.heap.size + 1 < wr.heap.size := by have := HI.out.2.2.2.2.2; omega
                      have hs2 : w.heap.size + 2 < wr.heap.size := by have := HI.out.2.2.2.2.2; omega
                      have hs3 : w.heap.size + 3 ≤ wr.heap.size := HI.out.2.2.2.2.2
                      obtain ⟨e1, e2, e3, e4, _, _⟩ := HI.out.cells
                      have f0 := HI.out.thaw.2.1 0
                      have f1 := HI.out.thaw.1 1
                      have HI1 := Lib.hid (HI.out.setc m)
                      obtain ⟨x1, x2, x3, x4, _, _⟩ := HI1.out.cells
                      by_cases hm0 : m = 0
                      · have q1 : (m != 0) = false := by simpa using hm0
                        have HF : Hid (flushT ⟨d, ts, c, r, sg, n, ro, dn⟩ = ts) := Lib.hid (by rw [HFT2.out, if_pos hm0])
                        clear hm0
                        go_wp2_with fail
                        go_meet
                        exact ⟨m, v, by rw [HF.out]; exact HI1.out⟩
                      · have q1 : (m != 0) = true := by simpa using hm0
                        have HF : Hid (flushT ⟨d, ts, c, r, sg, n, ro, dn⟩ = ts ++ [(m, r)]) := Lib.hid (by rw [HFT2.out, if_neg hm0])
                        have HNE : Hid (some (w.heap.size + 1) ≠ v.ownBlock ∧ some (w.heap.size + 2) ≠ v.ownBlock ∧ some w.heap.size ≠ v.ownBlock ∧ ∀ q, v.ownBlock = some q → w.heap.size ≤ q) := Lib.hid (by
                          have hlt := fun k hk => (HI1.out.1.lt k hk).1
                          refine ⟨fun e => ?_, fun e => ?_, fun e => ?_, fun q e => ?_⟩
                          · have := hlt _ e.symm; omega
                          · have := hlt _ e.symm; omega
                          · have := hlt _ e.symm; omega
                          · have := hlt _ e; omega)
                        obtain ⟨a, cap, rfl, _⟩ := HI.out.1.shape
                        have hrow : OwnT (wr.setCell ⟨w.heap.size + 2, 0, none⟩ (.int .i64 m)) (w.heap.size + 3) (.slice a ts.length cap) ts := HI1.out.1
                        have hl1 : ts.length ≤ 100 := by omega
                        clear hm0
                        go_wp2_with (first
                          | (at_builtin; refine wpList_append_own _ rfl _ _ 22 rfl (w.heap.size + 3) 34 i0 (.agg #[.int .i64 0, .int .i64 0]) 2 16 und22 hi hz0 hz1 hz2 rfl (by decide) (.slice a ts.length cap) ts.length (flatT ts) rfl (World.ownsRow.alloc hrow _) ⟨wr.heap.size, 0, none⟩ 1 1 [.int .i64 m, .int .i64 r] rfl rfl (by intro j u h; have := cell_two_new (wr.setCell ⟨w.heap.size + 2, 0, none⟩ (.int .i64 m)) (.int .i64 m) (.int .i64 r) 34 j u h; simpa using this) (by simp [Value.oneCell']) (by unfold maxLen; omega) (by omega) (by simp; omega) ?_; intro v' w3 hown3 hgrow3 _; have t3 := (HI1.out.2.1.alloc (.cells #[.int .i64 m, .int .i64 r] 34)).kept hgrow3 HNE.out.1; have y1 := t3.c1; have g2 := t3.fr (i := 1); have HT3 := Lib.hid t3; obtain ⟨g', cap', rfl⟩ := ownsRow_succ hown3; have HGW3 := Lib.hid hgrow3; have HOW3 := Lib.hid hown3; clear t3 hgrow3 hown3 hrow))
                        go_meet
                        refine ⟨m, .slice (some ⟨g', 0, none⟩) (ts.length + 1) cap', ?_⟩
                        rw [HF.out]
                        refine ⟨?_, HT3.out.set1 _ rfl, ?_, ?_, ?_, ?_⟩
                        · have h1 : OwnT w3 (w.heap.size + 3) (.slice (some ⟨g', 0, none⟩) (ts.length + 1) cap') (ts ++ [(m, r)]) := by unfold OwnT; rw [flatT_snoc, List.length_append]; exact HOW3.out
                          exact ownsRow_setCell_other h1 (by have := (HOW3.out.lt g' rfl).1; simp [Value.ownBlock]; omega) _
                        · exact ((HI1.out.2.2.1.alloc _).kept HGW3.out HNE.out.2.1).kept (grownBy_setCell _ _ _) (by simp)
                        · exact ((HI1.out.2.2.2.1.alloc _).kept HGW3.out HNE.out.2.2.1).kept (grownBy_setCell _ _ _) (by simp)
                        · exact ((HI1.out.2.2.2.2.1.alloc (by simp; omega) _).grown HGW3.out (by simp; omega) (fun q hq => HNE.out.2.2.2 q hq)).setCell (by simp) _
                        · have := HGW3.out.size; simp at this ⊢; omega
                  case rest KK6 hKK6 =>
                    obtain ⟨c2, v2, HI2⟩ := hcut
                    obtain ⟨TS, hTS⟩ : ∃ TS, flushT ⟨d, ts, c, r, sg, n, ro, dn⟩ = TS := ⟨_, rfl⟩
                    have htl : TS.length ≤ k + 1 := by
                      rw [← hTS]; unfold flushT; dsimp only
                      split
                      · split
                        · omega
                        · simp; omega
                      · omega
                    rw [hTS] at HI2
                    have HTS := Lib.hid hTS
                    replace HI2 := Lib.hid HI2
                    have hs1 : w.heap.size + 1 < wc.heap.size := by have := HI2.out.2.2.2.2.2; omega
                    have hs2 : w.heap.size + 2 < wc.heap.size := by have := HI2.out.2.2.2.2.2; omega
                    obtain ⟨e1, e2, e3, e4, _, _⟩ := HI2.out.cells
                    have f0 := HI2.out.thaw.2.1 0
                    have f1 := HI2.out.thaw.2.1 1
                    have g0 := HI2.out.thaw.1 0
                    obtain ⟨y1, y2, y3, y4, _, _⟩ := ((HI2.out.setc 0).setr 1).cells
                    clear hTS HI HFL
                    by_cases h45 : b = 45
                    · have h47 : ¬ b = 47 := by rw [h45]; decide
                      have q45 : ((b.toNat : Int) == 45) = true := by rw [h45]; rfl
                      have q47 : ((b.toNat : Int) == 47) = false := byte_ne (c := 47) h47
                      have HG2 : Hid (rgo (decide (k + 1 = 0)) ((L ++ [0]).drop (k + 1)) ⟨d, TS, 0, 1, -1, 0, false, dn⟩ = TOT) := Lib.hid (by
                        have h := rgo_cons (L := (L ++ [0]).drop (k + 1)) (rstep_end (f := decide (k = 0)) b HE.out ⟨d, ts, c, r, sg, n, ro, dn⟩)
                        rw [HST.out, HTS.out] at h
                        rw [h]; simp [h45, h47])
                      have HI3 := Lib.hid ((HI2.out.setc 0).setr 1)
                      clear h45 h47
                      go_wp2
                      go_roundw
                      case rel => exact ⟨k + 1, ⟨d, TS, 0, 1, -1, 0, false, dn⟩, v2, by omega, rfl, by go_num, rfl, rfl, by go_num, by dsimp only; omega, by dsimp only; omega, HG2, HI3⟩
                      case measure => simp [intOf]; omega
                    have q45 : ((b.toNat : Int) == 45) = false := byte_ne (c := 45) h45
                    by_cases h47 : b = 47
                    · have q47 : ((b.toNat : Int) == 47) = true := by rw [h47]; rfl
                      have HG2 : Hid (rgo (decide (k + 1 = 0)) ((L ++ [0]).drop (k + 1)) ⟨0, TS, 0, 1, 1, 0, false, true⟩ = TOT) := Lib.hid (by
                        have h := rgo_cons (L := (L ++ [0]).drop (k + 1)) (rstep_end (f := decide (k = 0)) b HE.out ⟨d, ts, c, r, sg, n, ro, dn⟩)
                        rw [HST.out, HTS.out] at h
                        rw [h]; simp [h45, h47])
                      have HI3 := Lib.hid (((HI2.out.setc 0).setr 1).setd 0)
                      clear h45 h47
                      go_wp2
                      go_roundw
                      case rel => exact ⟨k + 1, ⟨0, TS, 0, 1, 1, 0, false, true⟩, v2, by omega, rfl, by go_num, rfl, rfl, by go_num, by dsimp only; omega, by dsimp only; omega, HG2, HI3⟩
                      case measure => simp [intOf]; omega
                    · have q47 : ((b.toNat : Int) == 47) = false := byte_ne (c := 47) h47
                      have HG2 : Hid (rgo (decide (k + 1 = 0)) ((L ++ [0]).drop (k + 1)) ⟨d, TS, 0, 1, 1, 0, false, dn⟩ = TOT) := Lib.hid (by
                        have h := rgo_cons (L := (L ++ [0]).drop (k + 1)) (rstep_end (f := decide (k = 0)) b HE.out ⟨d, ts, c, r, sg, n, ro, dn⟩)
                        rw [HST.out, HTS.out] at h
                        rw [h]; simp [h45, h47])
                      have HI3 := Lib.hid ((HI2.out.setc 0).setr 1)
                      clear h45 h47
                      go_wp2
                      go_roundw
                      case rel => exact ⟨k + 1, ⟨d, TS, 0, 1, 1, 0, false, dn⟩, v2, by omega, rfl, by go_num, rfl, rfl, by go_num, by dsimp only; omega, by dsimp only; omega, HG2, HI3⟩
                      case measure => simp [intOf]; omega
end Go.Proofs.YtedpafdfecofnaaGreatDoor
