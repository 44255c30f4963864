/-
  Contracts of the program's own functions (and their plain mathematics), on the way to the law: each for all arguments that its hypotheses let.
-/
import Derived.Test.YtkjclafbpocabaaGreatDoorH3
import Derived.WalkKit
import Derived.WalkSpells
import Derived.WalkLawsBesides
import Derived.Deep.QuietTactic
import Derived.BigQuiet
import Derived.Lib.Hide
import Derived.WalkSmall
import Derived.Maps.OwnSet
import Derived.Maps.RangeWalk
import Derived.Deep.RegionWith
import Derived.Deep.RegionHeld3
import Derived.Deep.DrawnRows
import Derived.Deep.DeepCutAuto
import Derived.OneCell
import Derived.KernelRfl
import Derived.Laws.StructEq
import Derived.StillTailTactics
import Derived.Laws.Externs
import Derived.RangeFuncBox
import Derived.Test.YtkjclafbpocabaaGreatDoorH1
import Derived.Lib.ItoaNum
import Derived.Lib.Strings
import Derived.Test.YtkjclafbpocabaaGreatDoorG16
import Derived.Test.YtkjclafbpocabaaGreatDoorPlain
set_option linter.unusedSimpArgs false
set_option linter.unusedVariables false

/-! ## ZC4 -/
namespace Go.Proofs.YtkjclafbpocabaaGreatDoor
open Go.RowKit Go.Maps
/-- What Value returns. -/
def ValueTo (o : Int × PiecesL) (r : Int × List (Int × Int) × Int) : Prop := (oldF o = false → r = (0, [], 2)) ∧ (oldF o = true → ∃ f, makeF 1 [(o.1, 1)] f ∧ WithP (f.1, f.2.1) o.2 r)
theorem oldF_ok {n : Int} {ps : PiecesL} (h : oldF (n, ps) = true) : (0 ≤ n ∧ n ≤ 1000) ∧ ps.length ≤ 8 ∧ PiecesOk ps := by
  unfold oldF inB at h
  simp only [Bool.and_eq_true, decide_eq_true_eq, List.all_eq_true] at h
  exact ⟨h.1, h.2.1, fun p hp => marksOk_of (h.2.2 p hp)⟩
theorem PiecesAtz.gone {w P w' : World} {v : Value} {l : PiecesL} (h : PiecesAtz w v l) (hb : Below P.heap.size P w') (hP : P.heap = w.heap) : PiecesAtz w' v l := by
  have hc : ∀ a, P.cell? a = w.cell? a := fun a => by unfold World.cell?; rw [hP]
  have hm : ∀ v l, MarksAtz w v l → MarksAtz P v l := fun v l h => by
    obtain ⟨hl, h | ⟨b, off, cap, hv, hcap, hbb, ht⟩⟩ := h
    · exact ⟨hl, .inl h⟩
    · exact ⟨hl, .inr ⟨b, off, cap, hv, hcap, by rw [hP]; exact hbb, fun i hi => (hc _).trans (ht i hi)⟩⟩
  have h2 : PiecesAtz P v l := by
    obtain ⟨hl, h | ⟨b, off, cap, hv, hcap, hbb, ht⟩⟩ := h
    · exact ⟨hl, .inl h⟩
    · exact ⟨hl, .inr ⟨b, off, cap, hv, hcap, by rw [hP]; exact hbb, fun i hi => ⟨(hc _).trans (ht i hi).1, by obtain ⟨vm, h1, h2⟩ := (ht i hi).2; exact ⟨vm, (hc _).trans h1, hm _ _ h2⟩⟩⟩⟩
  exact h2.below hb
set_option maxRecDepth 100000 in
set_option maxHeartbeats 4000000 in
theorem value_any (hsort : Hid SortC) (n : Int) (v : Value) (ps : PiecesL) (w : World) (h : PiecesAtz w v ps) :
    Calls Tryz.prog 23 #[.agg #[.int .i64 n, v]] w (NumP (ValueTo (n, ps)) w) := by
  obtain ⟨a, cap, rfl, hl, _⟩ := h.placed
  have W2 : Below w.heap.size w ((w.alloc (.cells #[.int .i64 n, .slice a ps.length cap] 24)).alloc (.cells #[.int .i64 0, .slice none 0 0] 34)) := ((Below.refl _ w).alloc (Nat.le_refl _) _).alloc (by simp) _
  have X := (Two.new w (.int .i64 n) (.slice a ps.length cap) 24).alloc (.cells #[.int .i64 0, .slice none 0 0] 34)
  have R : Two ((w.alloc (.cells #[.int .i64 n, .slice a ps.length cap] 24)).alloc (.cells #[.int .i64 0, .slice none 0 0] 34)) (w.heap.size + 1) (.int .i64 0) (.slice none 0 0) 34 := by
    have := Two.new (w.alloc (.cells #[.int .i64 n, .slice a ps.length cap] 24)) (.int .i64 0) (.slice none 0 0) 34
    simpa using this
  have P2 := h.below W2
  have HE := Lib.hid (valid_old n _ ps _ P2)
  have HX := Lib.hid X
  have HR := Lib.hid R
  have HB := Lib.hid W2
  have HP := Lib.hid P2
  have x0 := X.c0
  have x1 := X.c1
  clear h W2 X R P2
  go_enter Tryz.func23, Tryz.ntmps23
  go_wp2_with fail
  refine HE.out.mono ?_
  rintro e w2 ⟨rfl, hb2⟩
  have X2 := HX.out.below hb2 HX.out.lt
  have R2 := HR.out.below hb2 HR.out.lt
  have P2 := HP.out.below hb2
  have B2 := HB.out.trans (hb2.mono HB.out.size)
  clear hb2 HX HR HP HB HE x0 x1
  cases ho : oldF (n, ps)
  · have HO := Lib.hid ho
    have HR2 := Lib.hid R2
    have HB2 := Lib.hid B2
    have r0 := R2.c0
    have r1 := R2.c1
    have f0 := R2.fr (i := 0)
    have f1 := R2.fr (i := 1)
    clear ho R2 X2 P2 B2
    go_wp2
    obtain ⟨d0, d1, d2, hg⟩ := two_after HR2.out (.int .i64 0) (.slice none 0 0) rfl
    refine bodyPost_ret (v := .tuple #[.agg #[.int .i64 0, .slice none 0 0], .int .i64 2]) ?_ rfl ?_
    · simp [results, Tryz.results23, go_sem, d0, d1, d2]
    · exact ⟨(0, [], 2), ⟨fun _ => rfl, fun h => by rw [HO.out] at h; cases h⟩, _, rfl, termsAt_nil _, HB2.out.grown hg HB2.out.size (by intro k hk; cases hk; omega), fun k hk => by cases hk⟩
  · have HO := Lib.hid ho
    have HOK := Lib.hid (oldF_ok ho).2.2
    have x0 := X2.c0
    have x1 := X2.c1
    have hsz := R2.lt
    clear ho
    go_wp2_with fail
    go_region_held3 (fun W => W.cell? ⟨w.heap.size, 0, none⟩ = some (.int .i64 n) ∧ W.cell? ⟨w.heap.size, 1, none⟩ = some (.slice a ps.length cap))
      (first | exact ⟨X2.c0, X2.c1⟩ | exact ⟨(X2.kept (two_after R2 _ _ rfl).2.2.2 (fun e => by have := Option.some.inj e; omega)).c0, (X2.kept (two_after R2 _ _ rfl).2.2.2 (fun e => by have := Option.some.inj e; omega)).c1⟩ | (go_keep; done))
      (first
        | (go_at_call 74; refine (fraction_num hsort n 1 _).mono ?_; rintro e wf ⟨f, hf, vf, rfl, htf, hbf, hff⟩; obtain ⟨af, cf, rfl, _⟩ := htf.placed; have hlf := hbf.size; have hl2 := B2.size; have hx2 := X2.lt; replace B2 := (by first | exact B2.trans (hbf.mono B2.size) | exact B2.drew.trans (hbf.mono B2.drew.size) : Below w.heap.size w _); replace X2 := two_gone X2 hbf rfl; replace R2 := two_gone R2 hbf rfl; replace P2 := P2.gone hbf rfl; have HVF : Hid (∀ q, (Value.slice af f.2.1.length cf).ownBlock = some q → w.heap.size + 2 ≤ q ∧ (f.2.1 ≠ [] → q < wf.heap.size)) := Lib.hid (fun q hq => ⟨by have h1 := hff q hq; (try simp at h1); omega, fun hl => terms_lt htf hl q hq⟩))
        | (go_at_call 73; refine (withPieces_any hsort (w.heap.size + 2) f.1 _ f.2.1 _ ps _ htf HVF.out (by have := R2.lt; omega) P2 HOK.out).mono ?_; rintro e wp ⟨r, hr, vr, rfl, htr, hbr, hfr⟩; obtain ⟨ar, cr, rfl, _⟩ := htr.placed; replace B2 := (by first | exact B2.trans (hbr.mono B2.size) | exact B2.drew.trans (hbr.mono B2.drew.size) : Below w.heap.size w _); replace X2 := two_gone X2 hbr rfl; replace R2 := two_gone R2 hbr rfl; have r0 := R2.c0; have r1 := R2.c1; have f0 := R2.fr (i := 0); have f1 := R2.fr (i := 1)))
    all_goals
      obtain ⟨d0, d1, d2, hg⟩ := two_after R2 (.int .i64 r.1) (.slice ar r.2.1.length cr) rfl
      go_wp2
      refine bodyPost_ret (v := .tuple #[.agg #[.int .i64 r.1, .slice ar r.2.1.length cr], .int .i64 r.2.2]) ?_ rfl ?_
      · simp [results, Tryz.results23, go_sem, d0, d1, d2]
      · refine ⟨r, ⟨fun h => (by rw [HO.out] at h; cases h), fun _ => ⟨f, hf, hr⟩⟩, _, rfl, htr.kept hg ?_, B2.grown hg B2.size (by intro k hk; cases hk; omega), fun k hk => by have := hfr k hk; omega⟩
        cases hv : (Value.slice ar r.2.1.length cr).ownBlock with
        | none => exact .inl rfl
        | some q => right; have h1 := hfr q hv; intro e; have := Option.some.inj e; omega
end Go.Proofs.YtkjclafbpocabaaGreatDoor

/-! ## ZP1 -/
namespace Go.Proofs.YtkjclafbpocabaaGreatDoor
open Go.RowKit Go.Maps
/-- The texts of old fractions, and how they are read. -/
def isDigB (b : UInt8) : Bool := decide (48 ≤ b.toNat) && decide (b.toNat ≤ 57)
def dvB (b : UInt8) : Int := (b.toNat : Int) - 48
def numC (ds : List UInt8) : Int := ds.foldl (fun n b => min (10 * n + dvB b) 1001) 0
theorem numC_snoc (ds : List UInt8) (b : UInt8) : numC (ds ++ [b]) = min (10 * numC ds + dvB b) 1001 := by unfold numC; rw [List.foldl_append]; rfl
def frontB (m : Bool) : List UInt8 := if m = true then [45, 49, 47] else [43, 49, 47]
def marksB : List UInt8 → List Int → List UInt8
  | _, [] => []
  | f, x :: xs => f ++ (Lib.itoa x ++ marksB [42] xs)
def pieceB (p : Bool × List Int) : List UInt8 := marksB (frontB p.1) p.2
def piecesB : PiecesL → List UInt8
  | [] => []
  | p :: ps => pieceB p ++ piecesB ps
def textO (o : Int × PiecesL) : List UInt8 := Lib.itoa o.1 ++ piecesB o.2
theorem marksB_snoc (x : Int) : ∀ (a : List Int) (f : List UInt8), marksB f (a ++ [x]) = marksB f a ++ ((if a = [] then f else [42]) ++ Lib.itoa x)
  | [], f => by simp [marksB]
  | y :: a, f => by
    have h := marksB_snoc x a [42]
    have e : (if a = [] then ([42] : List UInt8) else [42]) = [42] := by split <;> rfl
    rw [e] at h
    simp [marksB, h]
theorem piecesB_snoc (p : Bool × List Int) : ∀ l : PiecesL, piecesB (l ++ [p]) = piecesB l ++ pieceB p
  | [] => by simp [piecesB]
  | q :: l => by simp [piecesB, piecesB_snoc p l]
def readNum (L : List UInt8) : Int × List UInt8 := (numC (L.takeWhile isDigB), L.dropWhile isDigB)
def nextF (f L : List UInt8) : Option (Int × List UInt8) := if Lib.hasPrefix L f = true then some (readNum (L.drop f.length)) else none
inductive MarksRd : List UInt8 → List Int → List UInt8 → Prop
  | stop {L : List UInt8} (h : nextF [42] L = none) : MarksRd L [] L
  | more {L R R' : List UInt8} {n : Int} {ns : List Int} (h : nextF [42] L = some (n, R)) (t : MarksRd R ns R') : MarksRd L (n :: ns) R'
/-- Which piece is read, and what is left. -/
inductive PieceRd : List UInt8 → (Bool × List Int) → List UInt8 → Prop
  | plus {L R R' : List UInt8} {n : Int} {ns : List Int} (h : nextF (frontB false) L = some (n, R)) (t : MarksRd R ns R') : PieceRd L (false, n :: ns) R'
  | minus {L R R' : List UInt8} {n : Int} {ns : List Int} (h0 : nextF (frontB false) L = none) (h : nextF (frontB true) L = some (n, R)) (t : MarksRd R ns R') : PieceRd L (true, n :: ns) R'
inductive PiecesRd : List UInt8 → PiecesL → Prop
  | stop {L : List UInt8} (h0 : nextF (frontB false) L = none) (h : nextF (frontB true) L = none) : PiecesRd L []
  | more {L R : List UInt8} {p : Bool × List Int} {ps : PiecesL} (h : PieceRd L p R) (t : PiecesRd R ps) : PiecesRd L (p :: ps)
def OldRd (s : List UInt8) (o : Int × PiecesL) : Prop := ∃ R, nextF [] s = some (o.1, R) ∧ PiecesRd R o.2
theorem MarksRd.det {L : List UInt8} {ns ms : List Int} {R R' : List UInt8} (h : MarksRd L ns R) (g : MarksRd L ms R') : ns = ms ∧ R = R' := by
  induction h generalizing ms R' with
  | stop h =>
    cases g with
    | stop => exact ⟨rfl, rfl⟩
    | more h2 => rw [h] at h2; cases h2
  | more h t ih =>
    cases g with
    | stop h2 => rw [h] at h2; cases h2
    | more h2 t2 =>
      rw [h] at h2
      cases h2
      obtain ⟨rfl, rfl⟩ := ih t2
      exact ⟨rfl, rfl⟩
theorem PieceRd.det {L : List UInt8} {p q : Bool × List Int} {R R' : List UInt8} (h : PieceRd L p R) (g : PieceRd L q R') : p = q ∧ R = R' := by
  cases h with
  | plus h t =>
    cases g with
    | plus h2 t2 => rw [h] at h2; cases h2; obtain ⟨rfl, rfl⟩ := t.det t2; exact ⟨rfl, rfl⟩
    | minus h0 _ _ => rw [h] at h0; cases h0
  | minus h0 h t =>
    cases g with
    | plus h2 _ => rw [h0] at h2; cases h2
    | minus _ h2 t2 => rw [h] at h2; cases h2; obtain ⟨rfl, rfl⟩ := t.det t2; exact ⟨rfl, rfl⟩
theorem PieceRd.no {L R : List UInt8} {p : Bool × List Int} (h : PieceRd L p R) (h0 : nextF (frontB false) L = none) (h1 : nextF (frontB true) L = none) : False := by
  cases h with
  | plus h _ => rw [h0] at h; cases h
  | minus _ h _ => rw [h1] at h; cases h
theorem PiecesRd.det {L : List UInt8} {ps qs : PiecesL} (h : PiecesRd L ps) (g : PiecesRd L qs) : ps = qs := by
  induction h generalizing qs with
  | stop h0 h1 =>
    cases g with
    | stop => rfl
    | more h2 _ => exact (h2.no h0 h1).elim
  | more h t ih =>
    cases g with
    | stop h0 h1 => exact (h.no h0 h1).elim
    | more h2 t2 =>
      obtain ⟨rfl, rfl⟩ := h.det h2
      rw [ih t2]
theorem OldRd.det {s : List UInt8} {o p : Int × PiecesL} (h : OldRd s o) (g : OldRd s p) : o = p := by
  obtain ⟨R, h1, h2⟩ := h
  obtain ⟨R', g1, g2⟩ := g
  rw [h1] at g1
  have e1 := congrArg Prod.fst (Option.some.inj g1)
  have e2 := congrArg Prod.snd (Option.some.inj g1)
  simp only at e1 e2
  subst e2
  exact Prod.ext e1 (h2.det g2)
theorem dropWhile_le (p : UInt8 → Bool) : ∀ L : List UInt8, (L.dropWhile p).length ≤ L.length
  | [] => by simp
  | b :: L => by
    have := dropWhile_le p L
    rw [List.dropWhile_cons]
    split
    · simp only [List.length_cons]; omega
    · exact Nat.le_refl _
theorem nextF_len {f L R : List UInt8} {n : Int} (h : nextF f L = some (n, R)) : R.length + f.length ≤ L.length := by
  unfold nextF at h
  split at h
  · next hp =>
    have := Option.some.inj h
    unfold readNum at this
    have e := congrArg Prod.snd this
    simp only at e
    rw [← e]
    have h1 := dropWhile_le isDigB (L.drop f.length)
    rw [List.length_drop] at h1
    have h2 := (List.isPrefixOf_iff_prefix.1 (show f.isPrefixOf L = true from hp)).length_le
    omega
  · cases h
/-- What is written is read. -/
def NoDg (R : List UInt8) : Prop := ∀ b R', R = b :: R' → isDigB b = false
theorem dig_ofB (k : Nat) (h : k < 10) : isDigB (UInt8.ofNat (48 + k)) = true ∧ dvB (UInt8.ofNat (48 + k)) = (k : Int) := by
  have : k = 0 ∨ k = 1 ∨ k = 2 ∨ k = 3 ∨ k = 4 ∨ k = 5 ∨ k = 6 ∨ k = 7 ∨ k = 8 ∨ k = 9 := by omega
  rcases this with rfl | rfl | rfl | rfl | rfl | rfl | rfl | rfl | rfl | rfl <;> exact ⟨rfl, rfl⟩
theorem dec_digB (n : Nat) : (∀ b ∈ Lib.decDigits n, isDigB b = true) ∧ (n ≤ 1001 → numC (Lib.decDigits n) = n) := by
  induction n using Nat.strongRecOn with
  | ind n ih =>
    rw [Lib.decDigits]
    by_cases h : n < 10
    · rw [dif_pos h]
      have := dig_ofB n h
      refine ⟨fun b hb => by rw [List.mem_singleton] at hb; subst hb; exact this.1, fun _ => ?_⟩
      unfold numC
      simp only [List.foldl_cons, List.foldl_nil]
      rw [this.2]; omega
    · rw [dif_neg h]
      have h2 := dig_ofB (n % 10) (by omega)
      have h3 := ih (n / 10) (by omega)
      refine ⟨fun b hb => ?_, fun hn => ?_⟩
      · rcases List.mem_append.1 hb with hb | hb
        · exact h3.1 b hb
        · rw [List.mem_singleton] at hb; subst hb; exact h2.1
      · rw [numC_snoc, h3.2 (by omega), h2.2]; omega
theorem tw_all {α : Type} (p : α → Bool) (A R : List α) (hA : ∀ b ∈ A, p b = true) (hR : ∀ b R', R = b :: R' → p b = false) : (A ++ R).takeWhile p = A ∧ (A ++ R).dropWhile p = R := by
  induction A with
  | nil =>
    cases R with
    | nil => exact ⟨rfl, rfl⟩
    | cons b R => have := hR b R rfl; simp [this]
  | cons a A ih =>
    have h1 := hA a (by simp)
    have h2 := ih (fun b hb => hA b (by simp [hb]))
    simp [h1, h2]
theorem itoa_nat (n : Int) (h : 0 ≤ n) : Lib.itoa n = Lib.decDigits n.toNat := by unfold Lib.itoa; rw [if_neg (by omega)]
theorem readNum_back (n : Int) (h0 : 0 ≤ n) (h1 : n ≤ 1001) (R : List UInt8) (hR : NoDg R) : readNum (Lib.itoa n ++ R) = (n, R) := by
  rw [itoa_nat n h0]
  have h := dec_digB n.toNat
  obtain ⟨h2, h3⟩ := tw_all isDigB _ R h.1 hR
  unfold readNum
  rw [h2, h3, h.2 (by omega)]
  exact Prod.ext (by simp; omega) rfl
theorem nextF_back (f : List UInt8) (n : Int) (h0 : 0 ≤ n) (h1 : n ≤ 1001) (R : List UInt8) (hR : NoDg R) : nextF f (f ++ (Lib.itoa n ++ R)) = some (n, R) := by
  unfold nextF
  rw [if_pos (show Lib.hasPrefix (f ++ (Lib.itoa n ++ R)) f = true from List.isPrefixOf_iff_prefix.2 (List.prefix_append _ _)), List.drop_left, readNum_back n h0 h1 R hR]
theorem nextF_no (f L : List UInt8) (a : UInt8) (f' : List UInt8) (hf : f = a :: f') (h : ∀ b L', L = b :: L' → b ≠ a) : nextF f L = none := by
  unfold nextF
  rw [if_neg]
  subst hf
  intro hp
  have := List.isPrefixOf_iff_prefix.1 (show (a :: f').isPrefixOf L = true from hp)
  obtain ⟨t, ht⟩ := this
  exact h a (f' ++ t) (by rw [← ht]; rfl) rfl
def Ends (R : List UInt8) : Prop := ∀ b R', R = b :: R' → b = 43 ∨ b = 45
theorem Ends.noDg {R : List UInt8} (h : Ends R) : NoDg R := fun b R' e => by
  rcases h b R' e with rfl | rfl <;> rfl
theorem star_noDg (R : List UInt8) (xs : List Int) (hR : Ends R) : NoDg (marksB [42] xs ++ R) := by
  cases xs with
  | nil => exact hR.noDg
  | cons x xs => intro b R' e; simp [marksB] at e; rw [← e.1]; rfl
theorem marks_back (R : List UInt8) (hR : Ends R) : ∀ xs : List Int, (∀ x ∈ xs, 0 ≤ x ∧ x ≤ 1001) → MarksRd (marksB [42] xs ++ R) xs R
  | [], _ => .stop (nextF_no _ _ 42 [] rfl (fun b L' e => by rcases hR b L' (by simpa [marksB] using e) with rfl | rfl <;> decide))
  | x :: xs, h => by
    have hx := h x (by simp)
    refine .more (R := marksB [42] xs ++ R) ?_ (marks_back R hR xs (fun y hy => h y (by simp [hy])))
    have := nextF_back [42] x hx.1 hx.2 (marksB [42] xs ++ R) (star_noDg R xs hR)
    simpa [marksB] using this
theorem piece_back (m : Bool) (x : Int) (xs : List Int) (R : List UInt8) (hR : Ends R) (h : ∀ y ∈ x :: xs, 0 ≤ y ∧ y ≤ 1001) : PieceRd (pieceB (m, x :: xs) ++ R) (m, x :: xs) R := by
  have hx := h x (by simp)
  have hn := nextF_back (frontB m) x hx.1 hx.2 (marksB [42] xs ++ R) (star_noDg R xs hR)
  have e : pieceB (m, x :: xs) ++ R = frontB m ++ (Lib.itoa x ++ (marksB [42] xs ++ R)) := by simp [pieceB, marksB]
  have ht := marks_back R hR xs (fun y hy => h y (by simp [hy]))
  rw [e]
  cases m with
  | false => exact .plus hn ht
  | true =>
    refine .minus ?_ hn ht
    exact nextF_no _ _ 43 [49, 47] rfl (fun b L' e => by simp [frontB] at e; rw [← e.1]; decide)
theorem piece_ends (p : Bool × List Int) (R : List UInt8) (hp : p.2 ≠ []) : Ends (pieceB p ++ R) := by
  obtain ⟨m, l⟩ := p
  cases l with
  | nil => exact absurd rfl hp
  | cons x xs =>
    intro b R' e
    cases m <;> simp [pieceB, marksB, frontB] at e <;> simp [← e.1]
theorem pieces_ends (ps : PiecesL) (h : ∀ p ∈ ps, p.2 ≠ []) : Ends (piecesB ps) := by
  cases ps with
  | nil => intro b R' e; simp [piecesB] at e
  | cons p ps => exact piece_ends p _ (h p (by simp))
theorem pieces_back : ∀ ps : PiecesL, (∀ p ∈ ps, p.2 ≠ [] ∧ ∀ y ∈ p.2, 0 ≤ y ∧ y ≤ 1001) → PiecesRd (piecesB ps) ps
  | [], _ => .stop (nextF_no _ _ 43 [49, 47] rfl (fun b L' e => by simp [piecesB] at e)) (nextF_no _ _ 45 [49, 47] rfl (fun b L' e => by simp [piecesB] at e))
  | p :: ps, h => by
    have hp := h p (by simp)
    have he := pieces_ends ps (fun q hq => (h q (by simp [hq])).1)
    obtain ⟨m, l⟩ := p
    cases l with
    | nil => exact absurd rfl hp.1
    | cons x xs => exact .more (piece_back m x xs (piecesB ps) he hp.2) (pieces_back ps (fun q hq => h q (by simp [hq])))
theorem oldF_parts {n : Int} {ps : PiecesL} (h : oldF (n, ps) = true) : (0 ≤ n ∧ n ≤ 1000) ∧ ps.length ≤ 8 ∧ ∀ p ∈ ps, (1 ≤ p.2.length ∧ p.2.length ≤ 6) ∧ ∀ y ∈ p.2, 2 ≤ y ∧ y ≤ 1000 := by
  unfold oldF isPieceFz isMarkF inB at h
  simp only [Bool.and_eq_true, decide_eq_true_eq, List.all_eq_true] at h
  obtain ⟨h1, h2, h3⟩ := h
  refine ⟨by omega, h2, fun p hp => ?_⟩
  have := h3 p hp
  exact ⟨by omega, fun y hy => by have := this.2 y hy; omega⟩
theorem old_back {o : Int × PiecesL} (h : oldF o = true) : OldRd (textO o) o := by
  obtain ⟨n, ps⟩ := o
  obtain ⟨h1, _, h3⟩ := oldF_parts h
  have h4 : ∀ p ∈ ps, p.2 ≠ [] ∧ ∀ y ∈ p.2, 0 ≤ y ∧ y ≤ 1001 := fun p hp => ⟨fun e => by have := (h3 p hp).1; rw [e] at this; simp at this, fun y hy => by have := (h3 p hp).2 y hy; omega⟩
  refine ⟨piecesB ps, ?_, pieces_back ps h4⟩
  have := nextF_back [] n (by omega) (by omega) (piecesB ps) (pieces_ends ps (fun p hp => (h4 p hp).1)).noDg
  simpa [textO] using this
/-- What Parse returns. -/
def ParseTo (s : List UInt8) (r : (Int × PiecesL) × Int) : Prop := (300 < s.length → r = ((0, []), 5)) ∧ (s.length ≤ 300 → ∃ o, OldRd s o ∧ r = if oldF o = true ∧ textO o = s then (o, 0) else ((0, []), 4))
theorem parse_ok {s : List UInt8} {r : (Int × PiecesL) × Int} (h : ParseTo s r) (h0 : r.2 = 0) : s.length ≤ 300 ∧ oldF r.1 = true ∧ textO r.1 = s := by
  rcases Nat.lt_or_ge 300 s.length with hl | hl
  · rw [h.1 hl] at h0; exact absurd h0 (by decide)
  · obtain ⟨o, _, e⟩ := h.2 hl
    split at e
    · next g => subst e; exact ⟨hl, g.1, g.2⟩
    · subst e; exact absurd h0 (by decide)
theorem parse_back {o : Int × PiecesL} (ho : oldF o = true) {r : (Int × PiecesL) × Int} (h : ParseTo (textO o) r) (hl : (textO o).length ≤ 300) : r = (o, 0) := by
  obtain ⟨p, hp, e⟩ := h.2 hl
  have := hp.det (old_back ho)
  subst this
  rw [if_pos ⟨ho, rfl⟩] at e
  exact e
end Go.Proofs.YtkjclafbpocabaaGreatDoor

/-! ## ZC5 -/
namespace Go.Proofs.YtkjclafbpocabaaGreatDoor
open Go.RowKit Go.Maps Go.Shelf Go.Sort
theorem SignsAt.look3 {w : World} {B : Nat} (h : SignsAt w B) (m : Bool) : (Instr.lookup 172 (.map (some B)) (.bool m) false).run Tryz.prog w = .ok (.agg #[.int .i64 (signI m), .string ⟨(frontB m).toArray⟩]) w := h.look m
theorem front_len (m : Bool) : (frontB m).length ≤ 3 := by cases m <;> decide
theorem cat_three (a b c : List UInt8) : (⟨a.toArray⟩ : ByteArray) ++ (⟨b.toArray⟩ ++ ⟨c.toArray⟩) = ⟨(a ++ (b ++ c)).toArray⟩ := by rw [cat_str, cat_str]
theorem piecesB_succ (l : PiecesL) (k : Nat) (h : k < l.length) : piecesB (l.take (k + 1)) = piecesB (l.take k) ++ pieceB (l[k]?.getD (false, [])) := by
  rw [List.take_succ_eq_append_getElem h, piecesB_snoc]; simp [h]
theorem marksB_succ (f : List UInt8) (l : List Int) (k : Nat) (h : k < l.length) : marksB f (l.take (k + 1)) = marksB f (l.take k) ++ ((if k = 0 then f else [42]) ++ Lib.itoa (l[k]?.getD 0)) := by
  rw [List.take_succ_eq_append_getElem h, marksB_snoc]
  have : (l.take k = []) ↔ k = 0 := by
    constructor
    · intro e
      have := congrArg List.length e
      rw [List.length_take] at this
      simp at this
      rcases this with h1 | h1
      · exact h1
      · subst h1; simp at h
    · intro e; subst e; simp
  simp [this, h]
set_option maxRecDepth 100000 in
set_option maxHeartbeats 4000000 in
theorem text_old (n : Int) (v : Value) (ps : PiecesL) (w : World) (h : PiecesAtz w v ps) (hw : WOk w) (hn0 : 0 ≤ n) (hn1 : n ≤ 1000) (hl8 : ps.length ≤ 8) (ho : PiecesOk ps) :
    Calls Tryz.prog 72 #[.agg #[.int .i64 n, v]] w (StrTo (textO (n, ps)) w) := by
  obtain ⟨a, cap, rfl, _, hp⟩ := h.placed
  have HP := Lib.hid hp
  have HO := Lib.hid ho
  have HW := Lib.hid hw
  have BB : Below w.heap.size w (w.alloc (.cells #[.int .i64 n, .slice a ps.length cap] 24)) := (Below.refl _ w).alloc (Nat.le_refl _) _
  have X := Two.new w (.int .i64 n) (.slice a ps.length cap) 24
  have HX := Lib.hid X
  have HB := Lib.hid BB
  have x0 := X.c0
  obtain ⟨D, hD⟩ : ∃ D, Lib.itoa n = D := ⟨_, rfl⟩
  have hDl : D.length ≤ 7 := by rw [← hD]; exact itoa_len n (by omega) (by omega)
  have HD := Lib.hid hD
  have HI := Lib.hid (itoa_any n D HD (by omega) (by omega) _ (hw.below BB))
  clear h hp ho hw X BB hD
  go_enter Tryz.func72, Tryz.ntmps72
  go_wp2_with fail
  refine HI.out.mono ?_
  rintro e w1 ⟨rfl, hb1⟩
  have X1 := HX.out.below hb1 HX.out.lt
  have HB1 := Lib.hid (HB.out.trans (hb1.mono HB.out.size))
  have x1 := X1.c1
  clear hb1 HX HB HI x0 X1
  go_wp2
  go_loopw [3, 15] (fun s i wr => ∃ k : Nat, k ≤ ps.length ∧ i = .int .i64 k ∧ (∃ S : List UInt8, s = .string ⟨S.toArray⟩ ∧ S.length ≤ 7 + 60 * k ∧ Hid (S = D ++ piecesB (ps.take k))) ∧ Hid (Below w.heap.size w wr)) (fun _ i _ => ps.length - (intOf i).toNat)
  case atStart => exact ⟨0, Nat.zero_le _, rfl, ⟨D, rfl, by omega, Lib.hid (by simp [piecesB])⟩, HB1⟩
  case round =>
    obtain ⟨k, hk, rfl, ⟨S, rfl, hS, HS⟩, HBk⟩ := hrel
    clear HB1 x1
    by_cases hlt : k < ps.length
    · obtain ⟨b, off, rfl, hbb, c1, vm, c2, hm⟩ := HP.out k hlt
      have c1 := (HBk.out.cell (p := ⟨b, _, none⟩) hbb).trans c1
      have c2 := (HBk.out.cell (p := ⟨b, _, none⟩) hbb).trans c2
      have hsu := piecesB_succ ps k hlt
      obtain ⟨⟨m, ml⟩, hel⟩ : ∃ t, ps[k]?.getD (false, []) = t := ⟨_, rfl⟩
      have hok := (HO.out (m, ml) (by rw [← hel]; simp [hlt])).1
      rw [hel] at c1 hm hsu
      simp only at c1 hm hok
      obtain ⟨am, cm, rfl, _, hpm⟩ := hm.placed
      have HPM := Lib.hid hpm
      have HOK := Lib.hid hok
      have HSU := Lib.hid hsu
      have hml : ml.length ≤ 6 := hok.1
      have BP : Below w.heap.size w (wr.alloc (.cells #[.bool m, .slice am ml.length cm] 87)) := HBk.out.alloc HBk.out.size _
      have PP := Two.new wr (.bool m) (.slice am ml.length cm) 87
      have p0 := PP.c0
      have hsf := sign_front
      have hszr := HBk.out.size
      obtain ⟨fr, hfr⟩ : ∃ fr, frontB m = fr := ⟨_, rfl⟩
      have hfl : fr.length ≤ 3 := by rw [← hfr]; exact front_len m
      have HFR := Lib.hid hfr
      clear hel hok hsu hm hpm hfr
      go_wp2_with fail
      go_region_held3 (fun W => W.cell? ⟨wr.heap.size, 0, none⟩ = some (.bool m))
        (first | exact PP.c0 | (go_keep; done))
        (first
          | (go_at_call 130; refine (signs_any _).mono ?_; rintro e ws ⟨B, rfl, hB1, hB2, hsg, hbs⟩; have hlk := hsg.look3 m; rw [HFR.out] at hlk; replace BP := (by first | exact BP.trans (hbs.mono BP.size) | exact BP.drew.trans (hbs.mono BP.drew.size) : Below w.heap.size w _); replace PP := two_gone PP hbs rfl))
      have p1 := PP.c1
      have HBs := Lib.hid BP
      have hss := BP.size
      clear BP PP p0 hsf hsg hbs hlk c1 c2
      go_wp2
      go_loopw [3, 6, 27] (fun s f i wz => ∃ j : Nat, j ≤ ml.length ∧ i = .int .i64 j ∧ (∃ T : List UInt8, s = .string ⟨T.toArray⟩ ∧ T.length ≤ 7 + 60 * k + 10 * j ∧ Hid (T = S ++ marksB fr (ml.take j))) ∧ (∃ F : List UInt8, f = .string ⟨F.toArray⟩ ∧ F.length ≤ 3 ∧ Hid (F = if j = 0 then fr else [42])) ∧ Hid (Below w.heap.size w wz)) (fun _ _ i _ => ml.length - (intOf i).toNat)
      case atStart => exact ⟨0, Nat.zero_le _, rfl, ⟨S, rfl, by omega, Lib.hid (by simp [marksB])⟩, ⟨fr, rfl, hfl, Lib.hid rfl⟩, HBs⟩
      case round =>
        obtain ⟨j, hj, rfl, ⟨T, rfl, hTl, HT⟩, ⟨F, rfl, hFl, HF⟩, HBz⟩ := hrel
        clear p1 hss HBs
        by_cases hjl : j < ml.length
        · obtain ⟨bm, om, rfl, hbm, cm1⟩ := HPM.out j hjl
          rename_i wy
          have cm1 := (HBz.out.cell (p := ⟨bm, _, none⟩) hbm).trans cm1
          have hmu := marksB_succ fr ml j hjl
          have hx := HOK.out.2 (ml[j]?.getD 0) (by simp [hjl])
          obtain ⟨x, hxe⟩ : ∃ x, ml[j]?.getD 0 = x := ⟨_, rfl⟩
          rw [hxe] at cm1 hmu hx
          obtain ⟨I, hI⟩ : ∃ I, Lib.itoa x = I := ⟨_, rfl⟩
          have hIl : I.length ≤ 7 := by rw [← hI]; exact itoa_len x (by omega) (by omega)
          have HI := Lib.hid hI
          have HMU : Hid (S ++ marksB fr (ml.take (j + 1)) = T ++ (F ++ I)) := Lib.hid (by rw [hmu, hI, HT.out, HF.out]; simp)
          obtain ⟨hx1, hx2⟩ := hx
          have HCI := Lib.hid (itoa_any x I HI (by omega) (by omega) _ (HW.out.below HBz.out))
          clear hxe hmu hI HF
          go_wp2_with fail
          refine HCI.out.mono ?_
          rintro e w5 ⟨rfl, hb5⟩
          have HB5 := Lib.hid (HBz.out.trans (hb5.mono HBz.out.size))
          clear hb5 HCI
          go_wp2
          go_roundw
          case rel => exact ⟨j + 1, by omega, by go_num, ⟨T ++ (F ++ I), congrArg Value.string (cat_three T F I), by simp; omega, Lib.hid HMU.out.symm⟩, ⟨[42], rfl, by simp, Lib.hid (by simp)⟩, HB5⟩
          case measure => simp [intOf]; omega
        · have hje : j = ml.length := by omega
          have HT2 : Hid (T = D ++ piecesB (ps.take (k + 1))) := Lib.hid (by have := HT.out; rw [hje, List.take_length] at this; rw [this, HSU.out, HS.out]; simp [pieceB, HFR.out])
          have hT2l : T.length ≤ 7 + 60 * (k + 1) := by omega
          clear hje HT HF
          go_wp2
          go_roundw
          case rel => exact ⟨k + 1, by omega, by go_num, ⟨T, rfl, hT2l, HT2⟩, HBz⟩
          case measure => simp [intOf]; omega
    · have hke : k = ps.length := by omega
      have HT : Hid (textO (n, ps) = S) := Lib.hid (by have := HS.out; rw [hke, List.take_length] at this; rw [this, ← HD.out]; rfl)
      clear hke HS
      go_wp2
      go_ret
      exact ⟨ret_str HT.out.symm, HBk.out⟩
/-- What Format returns. -/
def OldTextTo (o : Int × PiecesL) (w : World) (e : Ending) (w' : World) : Prop := e = .returned (.tuple #[str (if oldF o = true then textO o else []), .int .i64 (oldE o)]) ∧ Below w.heap.size w w'
theorem format_old (n : Int) (v : Value) (ps : PiecesL) (w : World) (h : PiecesAtz w v ps) (hw : WOk w) : Calls Tryz.prog 22 #[.agg #[.int .i64 n, v]] w (OldTextTo (n, ps) w) := by
  obtain ⟨a, cap, rfl, _, _⟩ := h.placed
  have BB : Below w.heap.size w (w.alloc (.cells #[.int .i64 n, .slice a ps.length cap] 24)) := (Below.refl _ w).alloc (Nat.le_refl _) _
  have X := Two.new w (.int .i64 n) (.slice a ps.length cap) 24
  have HX := Lib.hid X
  have HB := Lib.hid BB
  have x0 := X.c0
  have x1 := X.c1
  have HP := Lib.hid (h.below BB)
  have HW := Lib.hid (hw.below BB)
  have HE := Lib.hid (valid_old n _ ps _ HP.out)
  clear h hw X BB
  go_enter Tryz.func22, Tryz.ntmps22
  go_wp2_with fail
  refine HE.out.mono ?_
  rintro e w1 ⟨rfl, hb1⟩
  have X1 := HX.out.below hb1 HX.out.lt
  have HP1 := Lib.hid (HP.out.below hb1)
  have HW1 := Lib.hid (HW.out.below hb1)
  have HB1 := Lib.hid (HB.out.trans (hb1.mono HB.out.size))
  clear x0 x1
  have x0 := X1.c0
  have x1 := X1.c1
  clear hb1 X1 HX HB HP HW HE
  cases ho : oldF (n, ps)
  · have HO : Hid ((if oldF (n, ps) = true then textO (n, ps) else []) = [] ∧ oldE (n, ps) = 2) := Lib.hid (by unfold oldE; rw [ho]; simp)
    clear ho
    go_wp2
    refine bodyPost_ret (v := .tuple #[str [], .int .i64 2]) (by simp [results, Tryz.results22, go_sem]) rfl ?_
    exact ⟨by rw [HO.out.1, HO.out.2], HB1.out⟩
  · have HO : Hid ((if oldF (n, ps) = true then textO (n, ps) else []) = textO (n, ps) ∧ oldE (n, ps) = 0) := Lib.hid (by unfold oldE; rw [ho]; simp)
    obtain ⟨q1, q2, q3⟩ := oldF_ok ho
    have HT := Lib.hid (text_old n _ ps _ HP1.out HW1.out q1.1 q1.2 q2 q3)
    clear ho q1 q2 q3
    go_wp2_with fail
    refine HT.out.mono ?_
    rintro e w2 ⟨rfl, hb2⟩
    have HB2 := Lib.hid (HB1.out.trans (hb2.mono HB1.out.size))
    clear hb2
    go_wp2
    refine bodyPost_ret (v := .tuple #[str (textO (n, ps)), .int .i64 0]) (by simp [results, Tryz.results22, go_sem]) rfl ?_
    exact ⟨by rw [HO.out.1, HO.out.2], HB2.out⟩
end Go.Proofs.YtkjclafbpocabaaGreatDoor
