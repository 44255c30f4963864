/-
  Contracts of the program's own functions (and their plain mathematics), on the way to the law: each for all arguments that its hypotheses let.
-/
import Derived.Test.YtkjclafbpocabaaGreatDoorG8
import Derived.Test.YtkjclafbpocabaaGreatDoorG24
import Derived.WalkKit
import Derived.WalkSpells
import Derived.WalkLawsBesides
import Derived.Deep.QuietTactic
import Derived.BigQuiet
import Derived.Lib.Hide
import Derived.WalkSmall
import Derived.Maps.OwnSet
import Derived.Maps.RangeWalk
import Derived.Deep.RegionWith
import Derived.Deep.RegionHeld3
import Derived.Deep.DrawnRows
import Derived.Deep.DeepCutAuto
import Derived.OneCell
import Derived.KernelRfl
import Derived.Laws.StructEq
import Derived.StillTailTactics
import Derived.Laws.Externs
import Derived.RangeFuncBox
import Derived.Test.YtkjclafbpocabaaGreatDoorH4
import Derived.Test.YtkjclafbpocabaaGreatDoorG29
import Derived.Test.YtkjclafbpocabaaGreatDoorPlain
import Derived.Test.YtkjclafbpocabaaGreatDoorH7
import Derived.Deep.RegionLaw
set_option linter.unusedSimpArgs false
set_option linter.unusedVariables false

/-! ## ZR4 -/
namespace Go.Proofs.YtkjclafbpocabaaGreatDoor
open Go.RowKit Go.Maps
def NumrTo (l : List (Int × Int)) (w : World) (e : Ending) (w' : World) : Prop := e = .returned (.tuple #[.int .i64 (nmrF l).1, .bool (nmrF l).2]) ∧ Below w.heap.size w w'
set_option maxHeartbeats 1000000 in
theorem numerator_any (d : Int) (v : Value) (l : List (Int × Int)) (w : World) (h : TermsAt w v l) :
    Calls Tryz.prog 88 #[.agg #[.int .i64 d, v]] w (NumrTo l w) := by
  obtain ⟨a, cap, rfl, hp⟩ := h.placed
  have hl := h.1
  have BB : Below w.heap.size w (w.alloc (.cells #[.int .i64 d, .slice a l.length cap] 34)) := (Below.refl _ w).alloc (Nat.le_refl _) _
  have X := Two.new w (.int .i64 d) (.slice a l.length cap) 34
  have x0 := X.c0
  have x1 := X.c1
  have HB := Lib.hid BB
  clear BB X h
  match l, hp, hl with
  | [], hp, hl =>
    clear hp
    go_enter Tryz.func88, Tryz.ntmps88
    go_wp2
    go_ret2
    exact ⟨rfl, HB.out⟩
  | [(c, r)], hp, hl =>
    obtain ⟨b, off, rfl, hb, k0, k1⟩ := hp 0 (by simp)
    have k0 := (HB.out.cell (p := ⟨b, _, none⟩) hb).trans k0
    have k1 := (HB.out.cell (p := ⟨b, _, none⟩) hb).trans k1
    simp at k0 k1
    by_cases hr : r = 1
    · subst hr
      go_enter Tryz.func88, Tryz.ntmps88
      go_wp2
      go_ret2
      exact ⟨by simp [nmrF], HB.out⟩
    · go_enter Tryz.func88, Tryz.ntmps88
      go_wp2
      go_ret2
      exact ⟨by simp [nmrF, hr], HB.out⟩
  | t :: u :: us, hp, hl =>
    obtain ⟨b, off, rfl, hb, k0, k1⟩ := hp 0 (by simp)
    clear hp k0 k1
    have hz : ¬ ((us.length + 1 + 1 : Nat) : Int) = 0 := by omega
    have hz1 : ¬ ((us.length + 1 + 1 : Nat) : Int) = 1 := by omega
    simp only [List.length_cons] at *
    go_enter Tryz.func88, Tryz.ntmps88
    go_wp2
    go_ret2
    exact ⟨by simp [nmrF], HB.out⟩
/-- By which piece a fraction c / d is corrected towards the root of n. -/
def corrF (d c n : Int) : Int × Int :=
  if c ≤ 0 then (0, 3) else if n * d * d - c * c = 0 then (0, 9)
  else if (2 * c * d).tmod (n * d * d - c * c) ≠ 0 ∨ max (n * d * d - c * c) (-(n * d * d - c * c)) = 2 * c * d then (0, 7)
  else ((2 * c * d).tdiv (n * d * d - c * c), 0)
theorem corr_bd {d c n : Int} (hd1 : 1 ≤ d) (hd2 : d ≤ 100000) (hc1 : -100000 ≤ c) (hc2 : c ≤ 100000) (hn1 : 1 ≤ n) (hn2 : n ≤ 1000) :
    (0 ≤ n * d ∧ n * d ≤ 100000000) ∧ (0 ≤ n * d * d ∧ n * d * d ≤ 10000000000000) ∧ (0 ≤ c * c ∧ c * c ≤ 10000000000) ∧ (-200000 ≤ 2 * c ∧ 2 * c ≤ 200000) ∧ (-20000000000 ≤ 2 * c * d ∧ 2 * c * d ≤ 20000000000) := by
  have a1 : n * d ≤ 1000 * 100000 := Int.mul_le_mul hn2 hd2 (by omega) (by omega)
  have a0 : 0 ≤ n * d := Int.mul_nonneg (by omega) (by omega)
  have b1 : n * d * d ≤ 100000000 * 100000 := Int.mul_le_mul (by omega) hd2 (by omega) (by omega)
  have b0 : 0 ≤ n * d * d := Int.mul_nonneg a0 (by omega)
  have c1 := mul_abs_le c c 100000 100000 hc1 hc2 hc1 hc2
  have c0 : 0 ≤ c * c := by
    rcases Int.lt_or_le c 0 with h | h
    · have := Int.mul_nonneg (show 0 ≤ -c by omega) (show 0 ≤ -c by omega)
      have e : -c * -c = c * c := by grind
      omega
    · exact Int.mul_nonneg h h
  have e1 := mul_abs_le (2 * c) d 200000 100000 (by omega) (by omega) (by omega) (by omega)
  omega
set_option maxHeartbeats 2000000 in
theorem correction_any (d c n : Int) (v : Value) (l : List (Int × Int)) (w : World) (h : TermsAt w v l) (hl : Hid (nmrF l = (c, true))) (hd1 : 1 ≤ d) (hd2 : d ≤ 100000) (hc1 : -100000 ≤ c) (hc2 : c ≤ 100000) (hn1 : 1 ≤ n) (hn2 : n ≤ 1000) :
    Calls Tryz.prog 83 #[.agg #[.int .i64 d, v], .int .i64 n] w fun e w' => e = .returned (.tuple #[.int .i64 (corrF d c n).1, .int .i64 (corrF d c n).2]) ∧ Below w.heap.size w w' := by
  have BB : Below w.heap.size w (w.alloc (.cells #[.int .i64 d, v] 34)) := (Below.refl _ w).alloc (Nat.le_refl _) _
  have X := Two.new w (.int .i64 d) v 34
  have XX := Lib.hid X
  have HB := Lib.hid BB
  have hnum := numerator_any d v l _ (h.below BB)
  obtain ⟨⟨h1, h2⟩, ⟨h3, h4⟩, ⟨h5, h6⟩, ⟨h7, h8⟩, ⟨h9, h10⟩⟩ := corr_bd hd1 hd2 hc1 hc2 hn1 hn2
  have HN := Lib.hid hnum
  clear X BB h hnum
  obtain ⟨ab, hab⟩ : ∃ ab, n * d * d - c * c = ab := ⟨_, rfl⟩
  obtain ⟨be, hbe⟩ : ∃ be, 2 * c * d = be := ⟨_, rfl⟩
  have hF : corrF d c n = if c ≤ 0 then (0, 3) else if ab = 0 then (0, 9) else if be.tmod ab ≠ 0 ∨ max ab (-ab) = be then (0, 7) else (be.tdiv ab, 0) := by unfold corrF; rw [hab, hbe]
  have HF := Lib.hid hF
  have hab1 : -10000000000 ≤ ab ∧ ab ≤ 10000000000000 := by omega
  obtain ⟨hab1, hab2⟩ := hab1
  have hbe1 : -20000000000 ≤ be ∧ be ≤ 20000000000 := by omega
  obtain ⟨hbe1, hbe2⟩ := hbe1
  have HAB := Lib.hid hab
  have HBE := Lib.hid hbe
  clear hF hab hbe
  go_enter Tryz.func83, Tryz.ntmps83
  go_wp2_with fail
  refine HN.out.mono ?_
  rintro e w2 ⟨rfl, hb⟩
  rw [hl.out]
  have X2 := XX.out.below hb XX.out.lt
  have HB2 := Lib.hid (HB.out.trans (hb.mono HB.out.size))
  have x0 := X2.c0
  have x1 := X2.c1
  clear hb X2 HN
  go_wp2
  go_quiet (fail)
  rw [HAB.out, HBE.out]
  by_cases q1 : c ≤ 0
  · have Q1 := Lib.hid q1
    go_wp2
    go_ret2
    exact ⟨by rw [HF.out, if_pos Q1.out]; rfl, below_drewN HB2.out _⟩
  · have Q1 := Lib.hid q1
    by_cases q2 : ab = 0
    · subst q2
      go_wp2
      go_ret2
      exact ⟨by rw [HF.out, if_neg (by have := Q1.out; omega)]; rfl, below_drewN HB2.out _⟩
    · have Q2 := Lib.hid q2
      have hm1 : -20000000000 ≤ be.tmod ab ∧ be.tmod ab ≤ 20000000000 := by
        have := tmod_bd be ab q2 (by omega) (by omega)
        have h : (be.tmod ab).natAbs = be.natAbs % ab.natAbs := Int.natAbs_tmod be ab
        have h2 : be.natAbs % ab.natAbs ≤ be.natAbs := Nat.mod_le _ _
        generalize be.natAbs % ab.natAbs = z at h h2
        omega
      have hq0 : -20000000000 ≤ be.tdiv ab ∧ be.tdiv ab ≤ 20000000000 := by
        have h : (be.tdiv ab).natAbs = be.natAbs / ab.natAbs := Int.natAbs_tdiv be ab
        have h2 : be.natAbs / ab.natAbs ≤ be.natAbs := Nat.div_le_self _ _
        generalize be.natAbs / ab.natAbs = z at h h2
        omega
      obtain ⟨hm1, hm2⟩ := hm1
      obtain ⟨hq1, hq2⟩ := hq0
      by_cases q3 : be.tmod ab = 0
      · by_cases q4 : max ab (-ab) = be
        · have HP := Lib.hid (show be.tmod ab ≠ 0 ∨ max ab (-ab) = be from .inr q4)
          by_cases q5 : ab < 0
          · have q6 : -ab = be := by omega
            clear q4
            go_wp2
            go_ret2
            exact ⟨by rw [HF.out, if_neg (by have := Q1.out; omega), if_neg (by have := Q2.out; omega), if_pos HP.out]; rfl, below_drewN HB2.out _⟩
          · have q6 : ab = be := by omega
            clear q4
            go_wp2
            go_ret2
            exact ⟨by rw [HF.out, if_neg (by have := Q1.out; omega), if_neg (by have := Q2.out; omega), if_pos HP.out]; rfl, below_drewN HB2.out _⟩
        · have HP : Hid (¬ (be.tmod ab ≠ 0 ∨ max ab (-ab) = be)) := Lib.hid (fun h => h.elim (fun h => h q3) q4)
          by_cases q5 : ab < 0
          · have q6 : ¬ -ab = be := by omega
            clear q4
            go_wp2
            go_ret2
            exact ⟨by rw [HF.out, if_neg (by have := Q1.out; omega), if_neg (by have := Q2.out; omega), if_neg HP.out]; rfl, below_drewN HB2.out _⟩
          · have q6 : ¬ ab = be := by omega
            clear q4
            go_wp2
            go_ret2
            exact ⟨by rw [HF.out, if_neg (by have := Q1.out; omega), if_neg (by have := Q2.out; omega), if_neg HP.out]; rfl, below_drewN HB2.out _⟩
      · have HP := Lib.hid (show be.tmod ab ≠ 0 ∨ max ab (-ab) = be from .inl q3)
        go_wp2
        go_ret2
        exact ⟨by rw [HF.out, if_neg (by have := Q1.out; omega), if_neg (by have := Q2.out; omega), if_pos HP.out]; rfl, below_drewN HB2.out _⟩
end Go.Proofs.YtkjclafbpocabaaGreatDoor

/-! ## ZP2 -/
namespace Go.Proofs.YtkjclafbpocabaaGreatDoor
open Go.RowKit Go.Maps Go.Shelf Go.Sort
/-- The value of an old fraction as p / q. -/
def sumOld : Int × Int → PiecesL → Int × Int
  | pq, [] => pq
  | pq, x :: xs => sumOld (prodF x.2 * pq.1 + 1 * pq.2 * signI x.1, pq.2 * prodF x.2) xs
theorem signI_bd (m : Bool) : -1 ≤ signI m ∧ signI m ≤ 1 := by cases m <;> decide
theorem with_val {ps : PiecesL} {x : Int × List (Int × Int)} {r : Int × List (Int × Int) × Int} (h : WithP x ps r) : ∀ {p q : Int}, Val x.1 x.2 p q → PiecesOk ps → (r.2.2 = 0 ∧ Val r.1 r.2.1 (sumOld (p, q) ps).1 (sumOld (p, q) ps).2) ∨ r = (0, [], 10) := by
  induction h with
  | done x => intro p q hx _; exact .inl ⟨rfl, hx⟩
  | over _ => intro p q _ _; exact .inr rfl
  | @err x p ps f s h hf ha he =>
    intro a q hx ho
    have hp := (ho p (by simp)).1.prod
    have hs := signI_bd p.1
    obtain ⟨hf0, hfv⟩ := val_make hp.1 h (by omega) (by omega) hf
    rcases val_add hx hfv ha with h1 | h1
    · exact absurd h1.1 he
    · rw [h1]; exact .inr rfl
  | @more x p ps f s r h hf ha he t ih =>
    intro a q hx ho
    have hp := (ho p (by simp)).1.prod
    have hs := signI_bd p.1
    obtain ⟨hf0, hfv⟩ := val_make hp.1 h (by omega) (by omega) hf
    rcases val_add hx hfv ha with h1 | h1
    · have := ih h1.2 (fun y hy => ho y (by simp [hy]))
      exact this
    · rw [h1] at he; exact absurd he (by decide)
theorem value_val {n : Int} {ps : PiecesL} {r : Int × List (Int × Int) × Int} (ho : oldF (n, ps) = true) (h : ValueTo (n, ps) r) : (r.2.2 = 0 ∧ Val r.1 r.2.1 (sumOld (n, 1) ps).1 (sumOld (n, 1) ps).2) ∨ r = (0, [], 10) := by
  obtain ⟨f, hf, hw⟩ := h.2 ho
  obtain ⟨h1, _, h3⟩ := oldF_ok ho
  have hv := (val_make (m := 1) (c := n) (by omega) (by omega) (by omega) (by omega) hf).2
  exact with_val hw hv h3
theorem val_num2 {d p q : Int} {l : List (Int × Int)} (x : Val d l p q) : ∃ c, l = qL c ∧ nmrF l = (c, true) ∧ c * q = p * d ∧ (1 ≤ d ∧ d ≤ 100000) ∧ (-100000 ≤ c ∧ c ≤ 100000) := by
  obtain ⟨c, h1, h2, h3, h4⟩ := val_num x
  refine ⟨c, h1, h2, h3, ⟨h4.d1, h4.d2⟩, ?_⟩
  by_cases h0 : c = 0
  · omega
  · have := h4.cf (c, 1) (by unfold qL; rw [if_neg h0]; simp)
    exact ⟨this.1, this.2.1⟩
theorem corr_range {d c n : Int} (hd1 : 1 ≤ d) (hd2 : d ≤ 100000) (hc1 : -100000 ≤ c) (hc2 : c ≤ 100000) (hn1 : 1 ≤ n) (hn2 : n ≤ 1000) : -20000000000 ≤ (corrF d c n).1 ∧ (corrF d c n).1 ≤ 20000000000 := by
  obtain ⟨_, _, _, _, ⟨h9, h10⟩⟩ := corr_bd hd1 hd2 hc1 hc2 hn1 hn2
  unfold corrF
  split
  · simp
  · split
    · simp
    · split
      · simp
      · simp only
        generalize 2 * c * d = be at h9 h10
        generalize n * d * d - c * c = ab
        have h : (be.tdiv ab).natAbs = be.natAbs / ab.natAbs := Int.natAbs_tdiv be ab
        have h2 : be.natAbs / ab.natAbs ≤ be.natAbs := Nat.div_le_self _ _
        generalize be.natAbs / ab.natAbs = z at h h2
        omega
/-- The piece that corrects, and what Extend returns. -/
def nextPiece (δ : Int) (ps : PiecesL) : Bool × List Int := (decide (δ < 0), marksAfterF (max δ (-δ)) ps)
def ExtTo (o : Int × PiecesL) (n : Int) (r : (Int × PiecesL) × Int) : Prop :=
  if oldF o = false then r = ((0, []), 2) else if inB n 1 1000 = false then r = ((0, []), 3) else
    ∃ x, ValueTo o x ∧ ((x.2.2 ≠ 0 ∧ r = ((0, []), x.2.2)) ∨ (x.2.2 = 0 ∧ ∃ δ e, corrF x.1 (nmrF x.2.1).1 n = (δ, e) ∧ ((e ≠ 0 ∧ r = ((0, []), e)) ∨ (e = 0 ∧
      ((o.2.length = 8 ∧ r = ((0, []), 8)) ∨ (o.2.length ≠ 8 ∧ ((isPieceFz (nextPiece δ o.2) = false ∧ r = ((0, []), 10)) ∨ (isPieceFz (nextPiece δ o.2) = true ∧ r = ((o.1, o.2 ++ [nextPiece δ o.2]), 0)))))))))
end Go.Proofs.YtkjclafbpocabaaGreatDoor

/-! ## ZC13 -/
namespace Go.Proofs.YtkjclafbpocabaaGreatDoor
open Go.RowKit Go.Maps Go.Shelf Go.Sort
/-- What Extend returns, with its memory. -/
def ExtendedTo (o : Int × PiecesL) (n : Int) (w : World) (e : Ending) (w' : World) : Prop :=
  ∃ (r : (Int × PiecesL) × Int) (ms : List Value) (v : Value), ExtTo o n r ∧ e = .returned (.tuple #[.agg #[.int .i64 r.1.1, v], .int .i64 r.2]) ∧ RowP w' w.heap.size v r.1.2 ms ∧ MarksIn w' r.1.2 ms (fun k => w.heap.size ≤ k) ∧ r.1.2.length ≤ 100 ∧ Below w.heap.size w w'
set_option maxRecDepth 100000 in
set_option maxHeartbeats 2000000 in
theorem extend_old (hsort : Hid SortC) (n N : Int) (v : Value) (ps : PiecesL) (w : World) (h : PiecesAtz w v ps) : Calls Tryz.prog 31 #[.agg #[.int .i64 n, v], .int .i64 N] w (ExtendedTo (n, ps) N w) := by
  obtain ⟨a, cap, rfl, _, _⟩ := h.placed
  have W2 : Below w.heap.size w ((w.alloc (.cells #[.int .i64 n, .slice a ps.length cap] 24)).alloc (.cells #[.int .i64 0, .slice none 0 0] 24)) := ((Below.refl _ w).alloc (Nat.le_refl _) _).alloc (by simp) _
  have X := (Two.new w (.int .i64 n) (.slice a ps.length cap) 24).alloc (.cells #[.int .i64 0, .slice none 0 0] 24)
  have R : Two ((w.alloc (.cells #[.int .i64 n, .slice a ps.length cap] 24)).alloc (.cells #[.int .i64 0, .slice none 0 0] 24)) (w.heap.size + 1) (.int .i64 0) (.slice none 0 0) 24 := by
    have := Two.new (w.alloc (.cells #[.int .i64 n, .slice a ps.length cap] 24)) (.int .i64 0) (.slice none 0 0) 24
    simpa using this
  have P := h.below W2
  obtain ⟨W1, hW1⟩ : ∃ W1, (w.alloc (.cells #[.int .i64 n, .slice a ps.length cap] 24)).alloc (.cells #[.int .i64 0, .slice none 0 0] 24) = W1 := ⟨_, rfl⟩
  rw [hW1] at W2 X R P
  have x0 := X.c0
  have x1 := X.c1
  have HX := Lib.hid X
  have HR := Lib.hid R
  have HB := Lib.hid W2
  have HP := Lib.hid P
  have HV := Lib.hid (valid_old n _ ps _ P)
  clear h X R W2 P
  go_enter Tryz.func31, Tryz.ntmps31
  go_wp2_with fail
  clear hW1
  refine HV.out.mono ?_
  rintro e w2 ⟨rfl, hb2⟩
  have HX2 := Lib.hid (HX.out.below hb2 HX.out.lt)
  have HR2 := Lib.hid (HR.out.below hb2 HR.out.lt)
  have HB2 := Lib.hid (HB.out.trans (hb2.mono HB.out.size))
  have HP2 := Lib.hid (HP.out.below hb2)
  clear hb2 HX HR HB HP HV x0 x1
  cases ho : oldF (n, ps)
  · have HE : Hid (ExtTo (n, ps) N ((0, []), 2)) := Lib.hid (by unfold ExtTo; rw [if_pos ho])
    have r0 := HR2.out.c0
    have r1 := HR2.out.c1
    have f0 := HR2.out.fr (i := 0)
    have f1 := HR2.out.fr (i := 1)
    clear ho
    go_wp2
    obtain ⟨d0, d1, d2, hg⟩ := two_after HR2.out (.int .i64 0) (.slice none 0 0) rfl
    refine bodyPost_ret (v := .tuple #[.agg #[.int .i64 0, .slice none 0 0], .int .i64 2]) ?_ rfl ?_
    · simp [results, Tryz.results31, go_sem, d0, d1, d2]
    · exact ⟨_, [], _, HE.out, rfl, rowP_nil _ _, fun i hi => by simp at hi, by simp, HB2.out.grown hg HB2.out.size (by intro k hk; cases hk; omega)⟩
  · have HO := Lib.hid ho
    have hok := (oldF_ok ho).2
    have HL8 := Lib.hid hok.1
    have HOK := Lib.hid hok.2
    clear ho hok
    go_wp2_with fail
    refine (cwithin_any N 1 1000 _).mono ?_
    rintro e w3 ⟨rfl, rfl⟩
    cases hi : inB N 1 1000
    · have HE : Hid (ExtTo (n, ps) N ((0, []), 3)) := Lib.hid (by unfold ExtTo; rw [if_neg (by rw [HO.out]; simp), if_pos hi])
      have r0 := HR2.out.c0
      have r1 := HR2.out.c1
      have f0 := HR2.out.fr (i := 0)
      have f1 := HR2.out.fr (i := 1)
      clear hi
      go_wp2
      obtain ⟨d0, d1, d2, hg⟩ := two_after HR2.out (.int .i64 0) (.slice none 0 0) rfl
      refine bodyPost_ret (v := .tuple #[.agg #[.int .i64 0, .slice none 0 0], .int .i64 3]) ?_ rfl ?_
      · simp [results, Tryz.results31, go_sem, d0, d1, d2]
      · exact ⟨_, [], _, HE.out, rfl, rowP_nil _ _, fun i hi => by simp at hi, by simp, HB2.out.grown hg HB2.out.size (by intro k hk; cases hk; omega)⟩
    · have HI := Lib.hid hi
      have hN : 1 ≤ N ∧ N ≤ 1000 := by unfold inB at hi; simp only [Bool.and_eq_true, decide_eq_true_eq] at hi; exact hi
      have HN := Lib.hid hN
      have x0 := HX2.out.c0
      have x1 := HX2.out.c1
      have HVA := Lib.hid (value_any hsort n _ ps _ HP2.out)
      clear hi hN
      go_wp2_with fail
      refine HVA.out.mono ?_
      rintro e w4 ⟨x, hx, vx, rfl, htx, hb4, _⟩
      obtain ⟨ax, cx, rfl, _⟩ := htx.placed
      have HX4 := Lib.hid ((HX2.out.below hb4 HX2.out.lt).alloc (.cells #[.int .i64 x.1, .slice ax x.2.1.length cx] 34))
      have HR4 := Lib.hid ((HR2.out.below hb4 HR2.out.lt).alloc (.cells #[.int .i64 x.1, .slice ax x.2.1.length cx] 34))
      have HB4' := HB2.out.trans (hb4.mono HB2.out.size)
      have HB4 := Lib.hid (HB4'.alloc HB4'.size (.cells #[.int .i64 x.1, .slice ax x.2.1.length cx] 34))
      have HP4 := Lib.hid ((HP2.out.below hb4).alloc (.cells #[.int .i64 x.1, .slice ax x.2.1.length cx] 34))
      have HT4 := Lib.hid (htx.alloc (.cells #[.int .i64 x.1, .slice ax x.2.1.length cx] 34))
      have HN4 := Lib.hid (Two.new w4 (.int .i64 x.1) (.slice ax x.2.1.length cx) 34)
      have HVX := Lib.hid hx
      obtain ⟨er, her⟩ : ∃ er, x.2.2 = er := ⟨_, rfl⟩
      rw [her]
      have HER := Lib.hid her
      clear hb4 htx HB4' hx her HX2 HR2 HB2 HP2 x0 x1 HVA
      by_cases h0 : er = 0
      · subst h0
        have hvx := (value_val HO.out HVX.out).resolve_right (fun h => by have := HER.out; rw [h] at this; exact absurd this (by decide))
        obtain ⟨c, hql, hnm, hcq, hdb, hcb⟩ := val_num2 hvx.2
        clear hql hcq
        have HCO := Lib.hid (correction_any x.1 c N _ x.2.1 _ HT4.out (Lib.hid hnm) hdb.1 hdb.2 hcb.1 hcb.2 HN.out.1 HN.out.2)
        have hrange := corr_range hdb.1 hdb.2 hcb.1 hcb.2 HN.out.1 HN.out.2
        obtain ⟨⟨δ, ce⟩, hce⟩ : ∃ t, corrF x.1 c N = t := ⟨_, rfl⟩
        rw [hce] at HCO hrange
        have HCE : Hid (corrF x.1 (nmrF x.2.1).1 N = (δ, ce)) := Lib.hid (by rw [hnm]; exact hce)
        obtain ⟨hr1, hr2⟩ := hrange
        simp only at hr1 hr2
        have n0 := HN4.out.c0
        have n1 := HN4.out.c1
        clear hvx hnm hdb hcb hce
        go_wp2_with fail
        refine HCO.out.mono ?_
        rintro e w5 ⟨rfl, hb5⟩
        have HX5 := Lib.hid (HX4.out.below hb5 HX4.out.lt)
        have HR5 := Lib.hid (HR4.out.below hb5 HR4.out.lt)
        have HB5 := Lib.hid (HB4.out.trans (hb5.mono HB4.out.size))
        have HP5 := Lib.hid (HP4.out.below hb5)
        clear hb5 HX4 HR4 HB4 HP4 HT4 HN4 n0 n1 HCO
        by_cases hc0 : ce = 0
        · subst hc0
          have hwn : IntKind.i64.wrap (-δ) = -δ := IntWalk.i64_in _ (by omega)
          obtain ⟨D, hD⟩ : ∃ D, max δ (-δ) = D := ⟨_, rfl⟩
          have hD1 : 0 ≤ D ∧ D ≤ 100000000000 := by omega
          have HMA := Lib.hid (marksAfter_any D _ ps _ HP5.out HOK.out hD1.1 hD1.2)
          obtain ⟨M, hM⟩ : ∃ M, marksAfterF D ps = M := ⟨_, rfl⟩
          rw [hM] at HMA
          have HNP : Hid (nextPiece δ ps = (decide (δ < 0), M)) := Lib.hid (by unfold nextPiece; rw [hD, hM])
          have x1 := HX5.out.c1
          clear hM hD1 hr1 hr2
          go_wp2_with fail
          refine HMA.out.mono ?_
          rintro e w6 ⟨vm, rfl, hm6, hb6, hf6⟩
          obtain ⟨am, cm, rfl, _⟩ := hm6.placed
          have hs5 := HB5.out.size
          have hr5 := HR5.out.lt
          have hs6 := hb6.size
          have HX7 := Lib.hid ((HX5.out.below hb6 HX5.out.lt).alloc (.cells #[.bool (decide (δ < 0)), .slice am M.length cm] 87))
          have HR7 := Lib.hid ((HR5.out.below hb6 HR5.out.lt).alloc (.cells #[.bool (decide (δ < 0)), .slice am M.length cm] 87))
          have hB6 := HB5.out.trans (hb6.mono HB5.out.size)
          have HB7 := Lib.hid (hB6.alloc hB6.size (.cells #[.bool (decide (δ < 0)), .slice am M.length cm] 87))
          have HP7 := Lib.hid ((HP5.out.below hb6).alloc (.cells #[.bool (decide (δ < 0)), .slice am M.length cm] 87))
          have HM7 := Lib.hid (hm6.alloc (.cells #[.bool (decide (δ < 0)), .slice am M.length cm] 87))
          have HN7 := Lib.hid (Two.new w6 (.bool (decide (δ < 0))) (.slice am M.length cm) 87)
          have HFM : Hid (M ≠ [] → ∀ k, (Value.slice am M.length cm).ownBlock = some k → w.heap.size + 2 ≤ k ∧ k < w6.heap.size) := Lib.hid (fun hne k hk => ⟨by have := hf6 k hk; omega, marks_lt hm6 hne k hk⟩)
          have HS7 : Hid (w.heap.size + 2 ≤ w6.heap.size) := Lib.hid (by omega)
          clear hm6 hb6 hf6 hB6 HX5 HR5 HB5 HP5 x1 HMA hs5 hr5 hs6 hwn hD
          obtain ⟨w7, hw7⟩ : ∃ w7, w6.alloc (.cells #[.bool (decide (δ < 0)), .slice am M.length cm] 87) = w7 := ⟨_, rfl⟩
          have hs7 : w7.heap.size = w6.heap.size + 1 := by rw [← hw7]; simp
          rw [hw7] at HX7 HR7 HB7 HP7 HM7 HN7
          have HSZ7 := Lib.hid hs7
          clear hs7
          have x1 := HX7.out.c1
          by_cases h8 : ps.length = 8
          · have H8 := Lib.hid h8
            have hb8 : (((ps.length : Nat) : Int) == 8) = true := by rw [h8]; rfl
            have HE : Hid (ExtTo (n, ps) N ((0, []), 8)) := Lib.hid (by unfold ExtTo; rw [if_neg (by rw [HO.out]; simp), if_neg (by rw [HI.out]; simp)]; exact ⟨x, HVX.out, .inr ⟨HER.out, δ, 0, HCE.out, .inr ⟨rfl, .inl ⟨H8.out, rfl⟩⟩⟩⟩)
            have r0 := HR7.out.c0
            have r1 := HR7.out.c1
            have f0 := HR7.out.fr (i := 0)
            have f1 := HR7.out.fr (i := 1)
            clear h8
            go_wp2
            obtain ⟨d0, d1, d2, hg⟩ := two_after HR7.out (.int .i64 0) (.slice none 0 0) rfl
            refine bodyPost_ret (v := .tuple #[.agg #[.int .i64 0, .slice none 0 0], .int .i64 8]) ?_ rfl ?_
            · simp [results, Tryz.results31, go_sem, d0, d1, d2]
            · exact ⟨_, [], _, HE.out, rfl, rowP_nil _ _, fun i hi => by simp at hi, by simp, HB7.out.grown hg HB7.out.size (by intro k hk; cases hk; omega)⟩
          · have H8 := Lib.hid h8
            have hb8 : (((ps.length : Nat) : Int) == 8) = false := by rw [beq_eq_false_iff_ne]; omega
            have p0 := HN7.out.c0
            have p1 := HN7.out.c1
            have HIP := Lib.hid (isPiece_anyz (decide (δ < 0)) _ M _ HM7.out)
            clear h8
            go_wp2_with fail
            refine HIP.out.mono ?_
            rintro e w8 ⟨rfl, hb8'⟩
            have HX8 := Lib.hid (HX7.out.below hb8' HX7.out.lt)
            have HR8 := Lib.hid (HR7.out.below hb8' HR7.out.lt)
            have HB8 := Lib.hid (HB7.out.trans (hb8'.mono HB7.out.size))
            have HP8 := Lib.hid (HP7.out.below hb8')
            have HM8 := Lib.hid (HM7.out.below hb8')
            have HN8 := Lib.hid (HN7.out.below hb8' HN7.out.lt)
            have HS8 : Hid (w6.heap.size + 1 ≤ w8.heap.size) := Lib.hid (by have h1 := hb8'.size; have h2 := HSZ7.out; omega)
            clear hb8' HX7 HR7 HB7 HP7 HM7 HN7 x1 p0 p1 HIP
            cases hip : isPieceFz (decide (δ < 0), M)
            · have HE : Hid (ExtTo (n, ps) N ((0, []), 10)) := Lib.hid (by unfold ExtTo; rw [if_neg (by rw [HO.out]; simp), if_neg (by rw [HI.out]; simp)]; exact ⟨x, HVX.out, .inr ⟨HER.out, δ, 0, HCE.out, .inr ⟨rfl, .inr ⟨H8.out, .inl ⟨by rw [HNP.out]; exact hip, rfl⟩⟩⟩⟩⟩)
              have r0 := HR8.out.c0
              have r1 := HR8.out.c1
              have f0 := HR8.out.fr (i := 0)
              have f1 := HR8.out.fr (i := 1)
              clear hip
              go_wp2
              obtain ⟨d0, d1, d2, hg⟩ := two_after HR8.out (.int .i64 0) (.slice none 0 0) rfl
              refine bodyPost_ret (v := .tuple #[.agg #[.int .i64 0, .slice none 0 0], .int .i64 10]) ?_ rfl ?_
              · simp [results, Tryz.results31, go_sem, d0, d1, d2]
              · exact ⟨_, [], _, HE.out, rfl, rowP_nil _ _, fun i hi => by simp at hi, by simp, HB8.out.grown hg HB8.out.size (by intro k hk; cases hk; omega)⟩
            · have HE : Hid (ExtTo (n, ps) N ((n, ps ++ [(decide (δ < 0), M)]), 0)) := Lib.hid (by unfold ExtTo; rw [if_neg (by rw [HO.out]; simp), if_neg (by rw [HI.out]; simp)]; exact ⟨x, HVX.out, .inr ⟨HER.out, δ, 0, HCE.out, .inr ⟨rfl, .inr ⟨H8.out, .inr ⟨by rw [HNP.out]; exact hip, by rw [HNP.out]⟩⟩⟩⟩⟩)
              have HNE : Hid (M ≠ []) := Lib.hid (marksOk_of hip).2
              have hl8 := HL8.out
              have HCO2 := Lib.hid (copied_old n _ ps _ HP8.out (by omega) HOK.out)
              have x0 := HX8.out.c0
              have x1 := HX8.out.c1
              clear hip hl8
              go_wp2_with fail
              refine HCO2.out.mono ?_
              rintro e w9 ⟨ms, v9, rfl, hrow9, hmi9, hb9⟩
              obtain ⟨a9, c9, rfl, _⟩ := hrow9.shape
              have hs9 := hb9.size
              have hlt9 := hrow9.lt
              have HRV : Hid (∀ q, (Value.slice a9 ps.length c9).ownBlock = some q → w8.heap.size ≤ q ∧ q < w9.heap.size) := Lib.hid hlt9
              have HRA := Lib.hid ((HR8.out.below hb9 HR8.out.lt).alloc (.cells #[.int .i64 n, .slice a9 ps.length c9] 24))
              have hB9 := HB8.out.trans (hb9.mono HB8.out.size)
              have HBA := Lib.hid (hB9.alloc hB9.size (.cells #[.int .i64 n, .slice a9 ps.length c9] 24))
              have HMA := Lib.hid ((HM8.out.below hb9).alloc (.cells #[.int .i64 n, .slice a9 ps.length c9] 24))
              have HNA := Lib.hid ((HN8.out.below hb9 HN8.out.lt).alloc (.cells #[.int .i64 n, .slice a9 ps.length c9] 24))
              have HLA := Lib.hid (Two.new w9 (.int .i64 n) (.slice a9 ps.length c9) 24)
              have HWA := Lib.hid (hrow9.kept (World.grownBy_alloc w9 (.cells #[.int .i64 n, .slice a9 ps.length c9] 24) none) (by cases hv : (Value.slice a9 ps.length c9).ownBlock with | none => exact .inl rfl | some q => right; intro e; cases e))
              have HIA := Lib.hid (hmi9.kept (World.grownBy_alloc w9 (.cells #[.int .i64 n, .slice a9 ps.length c9] 24) none) (fun q _ e => by cases e))
              obtain ⟨wa, hwa⟩ : ∃ wa, w9.alloc (.cells #[.int .i64 n, .slice a9 ps.length c9] 24) = wa := ⟨_, rfl⟩
              have hsa : wa.heap.size = w9.heap.size + 1 := by rw [← hwa]; simp
              rw [hwa] at HRA HBA HMA HNA HLA HWA HIA
              have HSA := Lib.hid hsa
              have HS9 := Lib.hid hs9
              have l0 := HLA.out.c0
              have l1 := HLA.out.c1
              have lf1 := HLA.out.fr (i := 1)
              have p0 := HNA.out.c0
              have p1 := HNA.out.c1
              clear hrow9 hmi9 hb9 hB9 hsa hs9 hlt9 HX8 HR8 HB8 HP8 HM8 HN8 x0 x1 HCO2
              have hl8 := HL8.out
              have HNB : Hid (∀ q, (Value.slice a9 ps.length c9).ownBlock = some q → q ≠ w.heap.size + 1 ∧ q ≠ w9.heap.size) := Lib.hid (fun q hq => by have h1 := HRV.out q hq; have h2 := HS8.out; have h3 := HS7.out; omega)
              have HFV : Hid (∀ k, (Value.slice am M.length cm).ownBlock = some k → w.heap.size + 2 ≤ k ∧ k < w8.heap.size) := Lib.hid (fun k hk => by have h1 := HFM.out HNE.out k hk; have h2 := HS8.out; omega)
              have HQA : Hid (RowP (wa.alloc (.cells #[.bool (decide (δ < 0)), .slice am M.length cm] 87)) w8.heap.size (.slice a9 ps.length c9) ps ms) := Lib.hid (HWA.out.kept (World.grownBy_alloc wa (.cells #[.bool (decide (δ < 0)), .slice am M.length cm] 87) none) (by cases hv : (Value.slice a9 ps.length c9).ownBlock with | none => exact .inl rfl | some q => right; intro e; cases e))
              have HQ2 := Lib.hid (Two.new wa (.bool (decide (δ < 0))) (.slice am M.length cm) 87)
              go_wp2_with (at_builtin; refine wpList_appP rfl _ _ rfl w8.heap.size (.slice a9 ps.length c9) ps ms rfl HQA.out wa.heap.size 1 (decide (δ < 0)) (.slice am M.length cm) rfl HQ2.out.c0 HQ2.out.c1 rfl (by omega) (by have h1 := HSA.out; have h2 := HS9.out; simp; omega) ?_; intro vr wb hrowb hgrb hblb hshb; obtain ⟨ar, cr, rfl⟩ := hshb; have LB := (HLA.out.alloc (.cells #[.bool (decide (δ < 0)), .slice am M.length cm] 87)).kept hgrb (fun e => (HNB.out _ e.symm).2 rfl); have RB := (HRA.out.alloc (.cells #[.bool (decide (δ < 0)), .slice am M.length cm] 87)).kept hgrb (fun e => (HNB.out _ e.symm).1 rfl); have IB := (HIA.out.kept (World.grownBy_alloc wa (.cells #[.bool (decide (δ < 0)), .slice am M.length cm] 87) none) (fun q _ e => by cases e)).kept hgrb (fun k hk => hk.2.1); have KB := (HMA.out.alloc (.cells #[.bool (decide (δ < 0)), .slice am M.length cm] 87)).kept hgrb (by cases hv : (Value.slice am M.length cm).ownBlock with | none => exact .inl rfl | some q => right; intro e; have h1 := HFV.out q hv; have h2 := HRV.out q e.symm; omega); have BB := (HBA.out.alloc HBA.out.size (.cells #[.bool (decide (δ < 0)), .slice am M.length cm] 87)).grown hgrb (HBA.out.alloc HBA.out.size (.cells #[.bool (decide (δ < 0)), .slice am M.length cm] 87)).size (fun q hq => by have h1 := HRV.out q hq; have h2 := HS8.out; have h3 := HS7.out; omega); have l1' := LB.c1; have lf1' := LB.fr (i := 1); have l0' := LB.c0; have HLB := Lib.hid LB; have HRB := Lib.hid RB; have HIB := Lib.hid IB; have HKB := Lib.hid KB; have HBB := Lib.hid BB; have HWB := Lib.hid (hrowb M); have HBL : Hid ((Value.slice ar (ps.length + 1) cr).ownBlock = (Value.slice a9 ps.length c9).ownBlock ∨ (Value.slice ar (ps.length + 1) cr).ownBlock = some (wa.heap.size + 1)) := Lib.hid (by simpa using hblb); have LC := LB.set1 (.slice ar (ps.length + 1) cr) rfl; have RC := RB.kept (grownBy_setCell wb ⟨w9.heap.size, 1, none⟩ (.slice ar (ps.length + 1) cr)) (fun e => by have h : w.heap.size + 1 = w9.heap.size := Option.some.inj e; have h1 := HS8.out; have h2 := HS7.out; have h3 := HS9.out; omega); have c0 := LC.c0; have c1 := LC.c1; have r0 := RC.c0; have r1 := RC.c1; have f0 := RC.fr (i := 0); have f1 := RC.fr (i := 1); have HRC := Lib.hid RC; clear LC RC LB RB IB KB BB hrowb hgrb hblb l0 l1 lf1)
              have hgc := grownBy_setCell wb ⟨w9.heap.size, 1, none⟩ (.slice ar (ps.length + 1) cr)
              have h1 := HS8.out
              have h2 := HS7.out
              have h3 := HS9.out
              have h4 := HSA.out
              have hvr : ∀ q, (Value.slice ar (ps.length + 1) cr).ownBlock = some q → w8.heap.size ≤ q ∧ q ≠ w9.heap.size := fun q hq => by
                rcases HBL.out with h | h
                · rw [h] at hq; have := HRV.out q hq; omega
                · rw [h] at hq; have := Option.some.inj hq; omega
              have IC := HIB.out.kept hgc (fun k hk e => by have h : k = w9.heap.size := Option.some.inj e; omega)
              have KC := HKB.out.kept hgc (by
                cases hv : (Value.slice am M.length cm).ownBlock with
                | none => exact .inl rfl
                | some q => right; have h5 := HFV.out q hv; intro e; have h : q = w9.heap.size := Option.some.inj e; omega)
              have WC := HWB.out.kept hgc (by
                cases hv : (Value.slice ar (ps.length + 1) cr).ownBlock with
                | none => exact .inl rfl
                | some q => right; have h5 := hvr q hv; intro e; have h : q = w9.heap.size := Option.some.inj e; omega)
              have BC := HBB.out.setCell (p := ⟨w9.heap.size, 1, none⟩) (show w.heap.size ≤ w9.heap.size by omega) (.slice ar (ps.length + 1) cr)
              have HIC := Lib.hid IC
              have HKC := Lib.hid KC
              have HWC := Lib.hid WC
              have HBC := Lib.hid BC
              have HVR := Lib.hid hvr
              clear IC KC WC BC hvr hgc
              have hgd := (two_after HRC.out (.int .i64 n) (.slice ar (ps.length + 1) cr) rfl).2.2.2
              have X4 := (HRC.out.set0 (.int .i64 n)).set1 (.slice ar (ps.length + 1) cr) rfl
              have d0 := X4.c0
              have d1 := X4.c1
              have hpl : (ps ++ [(decide (δ < 0), M)]).length ≤ 100 := by simp; omega
              have hmsl := HWA.out.1
              refine bodyPost_ret (v := .tuple #[.agg #[.int .i64 n, .slice ar (ps.length + 1) cr], .int .i64 0]) ?_ rfl ?_
              · simp [results, Tryz.results31, go_sem, d0, d1]
              · refine ⟨_, _, _, HE.out, rfl, (HWC.out.kept hgd ?_).low (by omega), ?_, hpl, HBC.out.grown hgd HBC.out.size (fun q hq => by have h : w.heap.size + 1 = q := Option.some.inj hq; omega)⟩
                · cases hv : (Value.slice ar (ps.length + 1) cr).ownBlock with
                  | none => exact .inl rfl
                  | some q => right; have h5 := HVR.out q hv; intro e; have h : q = w.heap.size + 1 := Option.some.inj e; omega
                · have hI : MarksIn (wb.setCell ⟨w9.heap.size, 1, none⟩ (.slice ar (ps.length + 1) cr)) (ps ++ [(decide (δ < 0), M)]) (ms ++ [.slice am M.length cm]) (fun k => w.heap.size + 2 ≤ k) :=
                    (HIC.out.mono (fun k hk => by omega)).snoc hmsl HKC.out (fun k hk => (HFV.out k hk).1)
                  exact (hI.kept hgd (fun k hk e => by have h : k = w.heap.size + 1 := Option.some.inj e; omega)).mono (fun k hk => by omega)
        · have HC0 := Lib.hid hc0
          have HE : Hid (ExtTo (n, ps) N ((0, []), ce)) := Lib.hid (by unfold ExtTo; rw [if_neg (by rw [HO.out]; simp), if_neg (by rw [HI.out]; simp)]; exact ⟨x, HVX.out, .inr ⟨HER.out, δ, ce, HCE.out, .inl ⟨HC0.out, rfl⟩⟩⟩)
          have r0 := HR5.out.c0
          have r1 := HR5.out.c1
          have f0 := HR5.out.fr (i := 0)
          have f1 := HR5.out.fr (i := 1)
          go_wp2
          obtain ⟨d0, d1, d2, hg⟩ := two_after HR5.out (.int .i64 0) (.slice none 0 0) rfl
          refine bodyPost_ret (v := .tuple #[.agg #[.int .i64 0, .slice none 0 0], .int .i64 ce]) ?_ rfl ?_
          · simp [results, Tryz.results31, go_sem, d0, d1, d2]
          · exact ⟨_, [], _, HE.out, rfl, rowP_nil _ _, fun i hi => by simp at hi, by simp, HB5.out.grown hg HB5.out.size (by intro k hk; cases hk; omega)⟩
      · have H0 := Lib.hid h0
        have HE : Hid (ExtTo (n, ps) N ((0, []), er)) := Lib.hid (by unfold ExtTo; rw [if_neg (by rw [HO.out]; simp), if_neg (by rw [HI.out]; simp)]; exact ⟨x, HVX.out, .inl ⟨by rw [HER.out]; exact H0.out, by rw [HER.out]⟩⟩)
        have r0 := HR4.out.c0
        have r1 := HR4.out.c1
        have f0 := HR4.out.fr (i := 0)
        have f1 := HR4.out.fr (i := 1)
        go_wp2
        obtain ⟨d0, d1, d2, hg⟩ := two_after HR4.out (.int .i64 0) (.slice none 0 0) rfl
        refine bodyPost_ret (v := .tuple #[.agg #[.int .i64 0, .slice none 0 0], .int .i64 er]) ?_ rfl ?_
        · simp [results, Tryz.results31, go_sem, d0, d1, d2]
        · exact ⟨_, [], _, HE.out, rfl, rowP_nil _ _, fun i hi => by simp at hi, by simp, HB4.out.grown hg HB4.out.size (by intro k hk; cases hk; omega)⟩
end Go.Proofs.YtkjclafbpocabaaGreatDoor
