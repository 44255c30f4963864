/-
  THE LAW KilnCrushes, FOR EVERY STACK AND EVERY LIST OF WHAT ITS TIERS BEAR: it returns true, and its arguments read as they did. No condition.
-/
import Derived.Test.YtopnlcjbklmicaaKC0
import Derived.Test.YtopnlcjbklmicaaK34
import Derived.Test.YtopnlcjbklmicaaK53
import Derived.Test.YtopnlcjbklmicaaK56
import Derived.Test.YtopnlcjbklmicaaK57
import Derived.Test.YtopnlcjbklmicaaK64
import Derived.Test.YtopnlcjbklmicaaK67
import Derived.Laws.AppendOwnNone
import Derived.Laws.IdiomArrays
import Derived.Test.YtopnlcjbklmicaaRows
import Derived.WalkKit
import Derived.ProofKit
import Derived.OpenShut
import Derived.Deep.DeepHandedRow
import Derived.Deep.SlicePairs
import Derived.Lib.SmallJoins
import Derived.Stop.LaidErr
import Derived.MakeChecks
import Derived.Lay
namespace Go.Proofs.Ytopnlcjbklmicaa
open Go.ChangeMaps Go.MakeChecks Go.ChangeShapes Go.WideShapes Go.ChangeAt Go.RowKit Go.Deep Go.Joins
set_option linter.unusedVariables false
set_option linter.unusedSimpArgs false
set_option linter.constructorNameAsVariable false
def LargeTo (ts : List (List Int × List Int)) (w : World) (e : Ending) (w' : World) : Prop := Below w.heap.size w w' ∧ ∃ r, e = .returned (.bool r) ∧ (r = false → ts.length ≤ 12 ∧ ∀ t, t < ts.length → (ts[t]?.getD ([], [])).1.length ≤ 150 ∧ (ts[t]?.getD ([], [])).2.length ≤ 150)
theorem LargeTo.yes {ts : List (List Int × List Int)} {w w' : World} (h : Below w.heap.size w w') : LargeTo ts w (.returned (.bool true)) w' := ⟨h, true, rfl, fun h => by cases h⟩
theorem LargeTo.no {ts : List (List Int × List Int)} {w w' : World} (h : Below w.heap.size w w') (h1 : ts.length ≤ 12) (h2 : ∀ t, t < ts.length → (ts[t]?.getD ([], [])).1.length ≤ 150 ∧ (ts[t]?.getD ([], [])).2.length ≤ 150) : LargeTo ts w (.returned (.bool false)) w' := ⟨h, false, rfl, fun _ => ⟨h1, h2⟩⟩
set_option maxRecDepth 100000 in
set_option maxHeartbeats 4000000 in
theorem large_any (W H : Int) (tv : Value) (ts : List (List Int × List Int)) (w : World) (hs : SrcT w tv ts) :
    Calls Try.prog 30 #[.agg #[.int .i64 W, .int .i64 H, tv]] w (LargeTo ts w) := by
  obtain ⟨a, cap, rfl, hl, hp⟩ := hs
  have A := Blk.new w #[.int .i64 W, .int .i64 H, .slice a ts.length cap] 69
  have B0 := (Below.refl _ w).alloc (Nat.le_refl _) (.cells #[.int .i64 W, .int .i64 H, .slice a ts.length cap] 69)
  have HP := Lib.hid hp
  clear hp
  go_enter Try.func30, Try.ntmps30
  go_wp2_with fail
  obtain ⟨w1, hw1⟩ : ∃ x, w.alloc (.cells #[.int .i64 W, .int .i64 H, .slice a ts.length cap] 69) = x := ⟨_, rfl⟩
  rw [hw1] at A B0 ⊢
  clear hw1
  have HB := Lib.hid B0
  have x2 := A.cell (i := 2) (v := .slice a ts.length cap) rfl
  clear A B0
  go_loopw [3] (fun i wr => wr = w1 ∧ ∃ k : Nat, k ≤ ts.length ∧ i = .int .i64 k ∧ Hid (∀ t, t < k → (ts[t]?.getD ([], [])).1.length ≤ 150 ∧ (ts[t]?.getD ([], [])).2.length ≤ 150)) (fun i _ => ts.length - (intOf i).toNat)
  case atStart => exact ⟨rfl, 0, Nat.zero_le _, rfl, Lib.hid (fun t ht => by omega)⟩
  case round =>
    obtain ⟨rfl, k, hk, rfl, HL⟩ := hrel
    by_cases hlt : k < ts.length
    · obtain ⟨b, off, rfl, hbb, vc, vw, c1, c2, s1, s2⟩ := HP.out k hlt
      have c1 := (HB.out.cell (p := ⟨b, _, none⟩) hbb).trans c1
      have c2 := (HB.out.cell (p := ⟨b, _, none⟩) hbb).trans c2
      obtain ⟨ac, cc, rfl⟩ := s1.shape
      obtain ⟨aw, cw, rfl⟩ := s2.shape
      have hll1 := s1.1
      have hll2 := s2.1
      clear s1 s2
      obtain ⟨n1, hn1⟩ : ∃ n, (ts[k]?.getD ([], [])).1.length = n := ⟨_, rfl⟩
      obtain ⟨n2, hn2⟩ : ∃ n, (ts[k]?.getD ([], [])).2.length = n := ⟨_, rfl⟩
      rw [hn1] at c1 hll1
      rw [hn2] at c2 hll2
      have HN := Lib.hid (And.intro hn1 hn2)
      clear hn1 hn2
      have hki : (0 : Int) ≤ (k : Int) := by omega
      have hkl : (k : Int) < (ts.length : Int) := by omega
      by_cases h1 : 150 < n1
      · have h1i : (150 : Int) < (n1 : Int) := by omega
        go_wp2_with fail
        go_ret
        exact LargeTo.yes HB.out
      · have h1i : ¬ (150 : Int) < (n1 : Int) := by omega
        by_cases h2 : 150 < n2
        · have h2i : (150 : Int) < (n2 : Int) := by omega
          go_wp2_with fail
          go_ret
          exact LargeTo.yes HB.out
        · have h2i : ¬ (150 : Int) < (n2 : Int) := by omega
          have HL2 : Hid (∀ t, t < k + 1 → (ts[t]?.getD ([], [])).1.length ≤ 150 ∧ (ts[t]?.getD ([], [])).2.length ≤ 150) := Lib.hid fun t ht => by
            rcases Nat.lt_or_ge t k with h | h
            · exact HL.out t h
            · obtain rfl : t = k := by omega
              exact ⟨by rw [HN.out.1]; omega, by rw [HN.out.2]; omega⟩
          go_wp2
          go_roundw
          case rel => exact ⟨trivial, k + 1, by omega, by go_num, HL2⟩
          case measure => simp [intOf]; omega
    · have hke : k = ts.length := by omega
      subst hke
      clear HP
      by_cases h8 : 12 < ts.length
      · have h8i : (12 : Int) < (ts.length : Int) := by omega
        go_wp2_with fail
        go_ret
        exact LargeTo.yes HB.out
      · have h8i : ¬ (12 : Int) < (ts.length : Int) := by omega
        go_wp2_with fail
        go_ret
        exact LargeTo.no HB.out (by omega) HL.out
theorem lowestF_err (n d : Nat) : (lowestF n d).2.2 = 0 ∨ (lowestF n d).2.2 = 10 := by
  unfold lowestF
  split
  · exact .inr rfl
  · exact .inl rfl
theorem addF_err (a b : Nat × Nat) : (addF a b).2 = 0 ∨ (addF a b).2 = 10 := by
  unfold addF
  exact lowestF_err _ _
theorem sumF_err (pr : List (Nat × Nat)) (cs : List Nat) : ∀ acc, (sumF pr cs acc).2 = 0 ∨ (sumF pr cs acc).2 = 10 := by
  induction cs with
  | nil => intro acc; exact .inl rfl
  | cons c cs ih =>
    intro acc
    unfold sumF
    split
    · exact ih _
    · exact addF_err _ _
theorem pressF_err (n d wt c : Nat) : (pressF n d wt c).2.2 = 0 ∨ (pressF n d wt c).2.2 = 10 := by
  unfold pressF
  split
  · exact lowestF_err _ _
  · exact lowestF_err _ _
theorem brickF_err (ts : List (List Int × List Int)) (ti : Nat) (pr : List (Nat × Nat)) (b : Nat) : (brickF ts ti pr b).2.2 = 0 ∨ (brickF ts ti pr b).2.2 = 10 := by
  unfold brickF
  dsimp only
  split
  · exact pressF_err _ _ _ _
  · exact sumF_err _ _ _
theorem passS_err (ts : List (List Int × List Int)) (ti : Nat) (pr : List (Nat × Nat)) (bs : List Nat) : ∀ ls bl, (passS ts ti pr bs ls bl).2.2 = 0 ∨ (passS ts ti pr bs ls bl).2.2 = 10 := by
  induction bs with
  | nil => intro ls bl; exact .inl rfl
  | cons b bs ih =>
    intro ls bl
    unfold passS
    split
    · exact ih _ _
    · exact brickF_err _ _ _ _
theorem loadsS_err (ts : List (List Int × List Int)) (N : Nat) (l : List Nat) : ∀ rows pr, (loadsS ts N l rows pr).2.2 = 0 ∨ (loadsS ts N l rows pr).2.2 = 10 := by
  induction l with
  | nil => intro rows pr; exact .inl rfl
  | cons t l ih =>
    intro rows pr
    unfold loadsS
    split
    · exact ih _ _
    · exact passS_err _ _ _ _ _ _
theorem loadsF_err {ts : List (List Int × List Int)} {N : Nat} (h : (loadsF ts N).2.2 ≠ 0) : (loadsF ts N).2.2 = 10 := by
  rcases loadsS_err ts N (List.range ts.length).reverse (List.replicate ts.length []) (List.replicate N (0, 1)) with h1 | h1
  · exact absurd h1 h
  · exact h1
theorem checkF_err {W H : Int} {ts : List (List Int × List Int)} (h : checkF W H ts ≠ 0) : checkF W H ts = 2 := by
  unfold checkF at h ⊢
  split
  · rename_i h1; rw [if_pos h1] at h; exact absurd rfl h
  · rfl
/-- A copy of ints that came in, into a new row. -/
theorem wpList_copyI {ops : Array Oper} {rest : List Oper} {o : Oper} {a : Act} {W : World} {Q : Exit → Act → World → Prop} (hgd : o.guard = none) (s x : Operand)
    (ho : o.op = .call { callee := .builtin .append, args := #[s, x], argTypes := #[46, 46] }) (base b : Nat) (hs : a.eval s = .slice (some ⟨b, 0, none⟩) 0 0) (hown : IntsR W base (.slice (some ⟨b, 0, none⟩) 0 0) [])
    (l : List Int) (v : Value) (hx : a.eval x = v) (hsrc : SrcI W v l) (hl : l.length ≤ 1000) (hbase : base ≤ W.heap.size)
    (h : ∀ v' W', IntsR W' base v' l → W.grownBy W' (some b) → wpList Try.prog ops Q rest (a.put o.dst v') W') : wpList Try.prog ops Q (o :: rest) a W := by
  obtain ⟨i0, hi, hz0, hz1, hz2⟩ := info_parts infoInt
  have hgen : ∀ ad c, v = .slice (some ad) l.length c → (∀ j u, (iM l)[j]? = some u → W.cell? (ad.add j) = some u) → wpList Try.prog ops Q (o :: rest) a W := fun ad c hv hn =>
    wpList_append_own_at W hgd s x 46 ho base 3 i0 (.int .i64 0) 1 8 undInts hi hz0 hz1 hz2 rfl (by decide) (.slice (some ⟨b, 0, none⟩) 0 0) 0 [] hs hown ad l.length c (iM l) (by rw [hx, hv]) (by simp [iM]) hn (fun u hu => by obtain ⟨x, _, rfl⟩ := List.mem_map.1 hu; rfl) (by unfold maxLen; omega) (by omega) hbase
      (fun v' W' h1 h2 _ h4 => by rw [Nat.zero_add, List.nil_append] at h1; exact h v' W' h1 h2)
  obtain ⟨h0, ⟨rfl, rfl⟩ | ⟨ad, c, rfl, rfl⟩ | ⟨b', off, c, rfl, hc, hb, hC⟩⟩ := hsrc
  · exact wpList_append_own_none hgd s x 46 ho base 3 i0 1 undInts hi (.slice (some ⟨b, 0, none⟩) 0 0) 0 [] hs hown hx (h _ _ hown ⟨rfl, rfl, rfl, Nat.le_refl _, fun _ _ _ => rfl⟩)
  · exact hgen ad c rfl (fun j u hj => by simp [iM] at hj)
  · refine hgen _ c rfl fun j u hj => ?_
    have hlt : j < l.length := by simpa [iM] using (List.getElem?_eq_some_iff.1 hj).1
    rw [addr_addT, hC j hlt, ← hj]
    simp [iM, hlt]
/-- A new row of ints. -/
theorem intsR_new (w : World) (b : Nat) (hb : w.heap.size = b) : IntsR (w.alloc (.cells #[] 3)) b (.slice (some ⟨b, 0, none⟩) 0 0) [] := by
  subst hb
  exact World.ownsRow_lit (base := w.heap.size) (e := 3) (size := 1) w #[] 0 (Nat.le_refl _) (by simp) (by simp)
/-- What Crushed hands back, in numbers. -/
def CrushR (W H : Int) (ts : List (List Int × List Int)) (bears : List Int) (x y er : Int) : Prop :=
  (checkF W H ts ≠ 0 ∧ x = 0 ∧ y = 0 ∧ er = 2) ∨
  (checkF W H ts = 0 ∧ bears.length ≠ ts.length ∧ x = 0 ∧ y = 0 ∧ er = 4) ∨
  (checkF W H ts = 0 ∧ bears.length = ts.length ∧ (bears.all fun n => inB n 0 1000000) = false ∧ x = 0 ∧ y = 0 ∧ er = 3) ∨
  (checkF W H ts = 0 ∧ bears.length = ts.length ∧ (bears.all fun n => inB n 0 1000000) = true ∧ ∃ r, FirstB ts (hangP ts) r ∧
     ((r ≠ none ∧ x = 0 ∧ y = 0 ∧ er = 80) ∨ (r = none ∧ (loadsF ts (W * H).toNat).2.2 ≠ 0 ∧ x = 0 ∧ y = 0 ∧ er = 10) ∨
      (r = none ∧ (loadsF ts (W * H).toNat).2.2 = 0 ∧ ∃ q, FirstB ts (crushP ts (loadsF ts (W * H).toNat).1 bears) q ∧ x = bT q ∧ y = bB q ∧ er = 0)))
theorem crushTo_parts {w w' : World} {W H : Int} {ts : List (List Int × List Int)} {bears : List Int} {e : Ending} (h : CrushTo w W H ts bears e w') :
    Below w.heap.size w w' ∧ ∃ x y er, e = .returned (.tuple #[.agg #[.int .i64 x, .int .i64 y], .int .i64 er]) ∧ CrushR W H ts bears x y er := by
  refine ⟨h.1, ?_⟩
  rcases h.2 with ⟨h1, rfl⟩ | ⟨h1, h2, rfl⟩ | ⟨h1, h2, h3, rfl⟩ | ⟨h1, h2, h3, r, hf, ⟨h4, rfl⟩ | ⟨h4, h5, rfl⟩ | ⟨h4, h5, q, hq, rfl⟩⟩
  · exact ⟨0, 0, _, rfl, .inl ⟨h1, rfl, rfl, checkF_err h1⟩⟩
  · exact ⟨0, 0, 4, rfl, .inr (.inl ⟨h1, h2, rfl, rfl, rfl⟩)⟩
  · exact ⟨0, 0, 3, rfl, .inr (.inr (.inl ⟨h1, h2, h3, rfl, rfl, rfl⟩))⟩
  · exact ⟨0, 0, 80, rfl, .inr (.inr (.inr ⟨h1, h2, h3, r, hf, .inl ⟨h4, rfl, rfl, rfl⟩⟩))⟩
  · exact ⟨0, 0, _, rfl, .inr (.inr (.inr ⟨h1, h2, h3, r, hf, .inr (.inl ⟨h4, h5, rfl, rfl, loadsF_err h5⟩)⟩))⟩
  · exact ⟨bT q, bB q, 0, by rw [brickV_eq], .inr (.inr (.inr ⟨h1, h2, h3, r, hf, .inr (.inr ⟨h4, h5, q, hq, rfl, rfl, rfl⟩)⟩))⟩
theorem CrushR.arg {W H : Int} {ts : List (List Int × List Int)} {bears : List Int} {x y er : Int} (h : CrushR W H ts bears x y er) (hc : checkF W H ts ≠ 0) : x = 0 ∧ y = 0 ∧ er = 2 := by
  rcases h with ⟨_, h⟩ | ⟨h, _⟩ | ⟨h, _⟩ | ⟨h, _⟩
  · exact h
  · exact absurd h hc
  · exact absurd h hc
  · exact absurd h hc
theorem CrushR.form {W H : Int} {ts : List (List Int × List Int)} {bears : List Int} {x y er : Int} (h : CrushR W H ts bears x y er) (hc : checkF W H ts = 0) (hl : bears.length ≠ ts.length) : x = 0 ∧ y = 0 ∧ er = 4 := by
  rcases h with ⟨h, _⟩ | ⟨_, _, h⟩ | ⟨_, h, _⟩ | ⟨_, h, _⟩
  · exact absurd hc h
  · exact h
  · exact absurd h hl
  · exact absurd h hl
theorem CrushR.bad {W H : Int} {ts : List (List Int × List Int)} {bears : List Int} {x y er : Int} (h : CrushR W H ts bears x y er) (hc : checkF W H ts = 0) (hl : bears.length = ts.length) (hb : (bears.all fun n => inB n 0 1000000) = false) : x = 0 ∧ y = 0 ∧ er = 3 := by
  rcases h with ⟨h, _⟩ | ⟨_, h, _⟩ | ⟨_, _, _, h⟩ | ⟨_, _, h, _⟩
  · exact absurd hc h
  · exact absurd hl h
  · exact h
  · rw [hb] at h; cases h
theorem CrushR.good {W H : Int} {ts : List (List Int × List Int)} {bears : List Int} {x y er : Int} (h : CrushR W H ts bears x y er) (hc : checkF W H ts = 0) (hl : bears.length = ts.length) (hb : (bears.all fun n => inB n 0 1000000) = true) :
    ∃ r, FirstB ts (hangP ts) r ∧
     ((r ≠ none ∧ x = 0 ∧ y = 0 ∧ er = 80) ∨ (r = none ∧ (loadsF ts (W * H).toNat).2.2 ≠ 0 ∧ x = 0 ∧ y = 0 ∧ er = 10) ∨
      (r = none ∧ (loadsF ts (W * H).toNat).2.2 = 0 ∧ ∃ q, FirstB ts (crushP ts (loadsF ts (W * H).toNat).1 bears) q ∧ x = bT q ∧ y = bB q ∧ er = 0)) := by
  rcases h with ⟨h, _⟩ | ⟨_, h, _⟩ | ⟨_, _, h, _⟩ | ⟨_, _, _, h⟩
  · exact absurd hc h
  · exact absurd hl h
  · rw [hb] at h; cases h
  · exact h
/-- What the law wants after the first bears. -/
def BearW (bears : List Int) (k : Nat) (c : Int) : Prop :=
  (c = 0 ∧ ∀ j, j < k → inB (bears[j]?.getD 0) 0 1000000 = true) ∨ (c = 3 ∧ (bears.all fun n => inB n 0 1000000) = false)
theorem BearW.start (bears : List Int) : BearW bears 0 0 := .inl ⟨rfl, fun j hj => by omega⟩
theorem BearW.cases {bears : List Int} {k : Nat} {c : Int} (h : BearW bears k c) : (c = 0 ∧ ∀ j, j < k → inB (bears[j]?.getD 0) 0 1000000 = true) ∨ (c = 3 ∧ (bears.all fun n => inB n 0 1000000) = false) := h
theorem BearW.next {bears : List Int} {k : Nat} {z : Int} (h : ∀ j, j < k → inB (bears[j]?.getD 0) 0 1000000 = true) (hz : bears[k]?.getD 0 = z) (h1 : 0 ≤ z) (h2 : z ≤ 1000000) : BearW bears (k + 1) 0 := by
  refine .inl ⟨rfl, fun j hj => ?_⟩
  rcases Nat.lt_or_ge j k with h3 | h3
  · exact h j h3
  · obtain rfl : j = k := by omega
    rw [hz]
    simp only [inB, Bool.and_eq_true, decide_eq_true_eq]
    exact ⟨h1, h2⟩
theorem BearW.bad {bears : List Int} {j k : Nat} {z : Int} (hj : j < bears.length) (hz : bears[j]?.getD 0 = z) (h : ¬ (0 ≤ z ∧ z ≤ 1000000)) : BearW bears k 3 := by
  refine .inr ⟨rfl, ?_⟩
  rw [List.all_eq_false]
  refine ⟨z, ?_, ?_⟩
  · rw [← hz, List.getElem?_eq_getElem hj]; exact List.getElem_mem hj
  · simp only [inB, Bool.and_eq_true, decide_eq_true_eq]; exact h
theorem all_of {bears : List Int} (h : ∀ j, j < bears.length → inB (bears[j]?.getD 0) 0 1000000 = true) : (bears.all fun n => inB n 0 1000000) = true := by
  rw [List.all_eq_true]
  intro x hx
  obtain ⟨j, hj, rfl⟩ := List.getElem_of_mem hx
  have h1 := h j hj
  rw [List.getElem?_eq_getElem hj] at h1
  exact h1
theorem field_tier (w : World) (a b : Int) : (Instr.field 74 (.agg #[.int .i64 a, .int .i64 b]) 0).run Try.prog w = .ok (.int .i64 a) w := by kernel_rfl
theorem bT_nonneg {r : Option (Nat × Nat)} (h : r ≠ none) : 0 ≤ bT r := by
  cases r with
  | none => exact absurd rfl h
  | some p => exact Int.natCast_nonneg _
set_option maxRecDepth 100000 in
set_option maxHeartbeats 16000000 in
theorem crushes_any (W H : Int) (tv bv : Value) (ts : List (List Int × List Int)) (bears : List Int) (w : World) (hs : SrcT w tv ts) (hb : SrcI w bv bears) :
    Calls Try.prog 7 #[.agg #[.int .i64 W, .int .i64 H, tv], bv] w fun e w' => e = .returned (.bool true) ∧ Below w.heap.size w w' := by
  have HSRC := Lib.hid hs
  have HSB := Lib.hid hb
  have HK := Lib.hid known_any
  obtain ⟨a, cap, rfl, hl, hp⟩ := hs
  obtain ⟨ab, cb, rfl, hlb, hpb⟩ := hb.ints.placed
  have HPB := Lib.hid hpb
  have A := Blk.new w #[.int .i64 W, .int .i64 H, .slice a ts.length cap] 69
  have B0 := (Below.refl _ w).alloc (Nat.le_refl _) (.cells #[.int .i64 W, .int .i64 H, .slice a ts.length cap] 69)
  have x0 := A.cell (i := 0) (v := .int .i64 W) rfl
  have x1 := A.cell (i := 1) (v := .int .i64 H) rfl
  have x2 := A.cell (i := 2) (v := .slice a ts.length cap) rfl
  have HA := Lib.hid A
  have HB := Lib.hid B0
  clear A B0 hp hpb hb
  go_enter Try.func7, Try.ntmps7
  go_wp2_with fail
  refine (large_any W H _ ts _ (HSRC.out.past HB.out)).mono ?_
  rintro e w2 ⟨hb2, r, rfl, hr⟩
  have HB2 := Lib.hid (HB.out.trans (hb2.mono HB.out.size))
  have HA2 := Lib.hid (HA.out.past hb2)
  have HRR := Lib.hid hr
  clear hb2 hr HB HA x0 x1 x2
  cases r
  · obtain ⟨ht12, hss⟩ := HRR.out rfl
    have HSS := Lib.hid hss
    clear HRR hss
    by_cases h15 : 15 < bears.length
    · have h15i : (15 : Int) < (bears.length : Int) := by omega
      go_wp2_with (first | (go_at_call 16; refine (HK.out _).mono ?_; rintro e w99 ⟨rfl, hb99⟩; have HB99 := Lib.hid (HB2.out.trans (hb99.mono HB2.out.size)); clear hb99))
      go_ret
      exact ⟨rfl, HB99.out⟩
    · have h15i : ¬ (15 : Int) < (bears.length : Int) := by omega
      have x0 := HA2.out.cell (i := 0) (v := .int .i64 W) rfl
      have x1 := HA2.out.cell (i := 1) (v := .int .i64 H) rfl
      have x2 := HA2.out.cell (i := 2) (v := .slice a ts.length cap) rfl
      have HOW := Lib.hid (own_any W H _ ts w2 (HSRC.out.past HB2.out) (by omega) (fun i hi => ⟨Nat.le_trans (HSS.out i hi).1 (by decide), Nat.le_trans (HSS.out i hi).2 (by decide)⟩))
      go_wp2_with fail
      refine HOW.out.mono ?_
      rintro e w3 ⟨p2, c2, rfl, ht3, hb3⟩
      have HB3 := Lib.hid (HB2.out.trans (hb3.mono HB2.out.size))
      have HA3 := Lib.hid (HA2.out.past hb3)
      have HT3 := Lib.hid ht3
      clear hb3 ht3 HB2 HA2 HOW x0 x1 x2
      obtain ⟨b3, hb3e⟩ : ∃ x, w3.heap.size = x := ⟨_, rfl⟩
      go_wp2_with (first | (at_builtin; refine stopHere ?_))
      intro _
      have B4 := (Below.refl _ w3).alloc (Nat.le_refl _) (.cells #[] 3)
      refine wpList_copyI rfl _ _ rfl b3 b3 (by rfl) (intsR_new w3 b3 hb3e) bears _ (by rfl) (HSB.out.past (HB3.out.trans (B4.mono HB3.out.size))) (by omega) (by simp; omega) ?_
      intro v4 w4 h4 g4
      have B5 := B4.grown g4 B4.size (fun j hj => by have := Option.some.inj hj; omega)
      have HB4 := Lib.hid (HB3.out.trans (B5.mono HB3.out.size))
      have HA4 := Lib.hid (HA3.out.past B5)
      have HCR := Lib.hid (crushed_any _ W H _ _ ts bears w4 (HT3.out.past B5) (h4.ints (by omega)))
      clear B4 B5 h4 g4 hb3e HB3 HA3 HT3
      go_wp2_with fail
      refine HCR.out.mono ?_
      intro e w5 hC
      obtain ⟨hb5, x, y, er, rfl, hR⟩ := crushTo_parts hC
      have HB5 := Lib.hid (HB4.out.trans (hb5.mono HB4.out.size))
      have HA5 := Lib.hid (HA4.out.past hb5)
      have HRX := Lib.hid hR
      clear hC hb5 hR HB4 HA4 HCR
      obtain ⟨b6, hb6⟩ : ∃ x, w5.heap.size = x := ⟨_, rfl⟩
      have B6 := (Below.refl _ w5).alloc (Nat.le_refl _) (.cells #[.int .i64 x, .int .i64 y] 74)
      have HC6 := Lib.hid (Blk.newI w5 b6 #[.int .i64 x, .int .i64 y] 74 hb6)
      have HB6 := Lib.hid (HB5.out.trans (B6.mono HB5.out.size))
      have HA6 := Lib.hid (HA5.out.past B6)
      clear B6 HB5 HA5
      have x0 := HA6.out.cell (i := 0) (v := .int .i64 W) rfl
      have x1 := HA6.out.cell (i := 1) (v := .int .i64 H) rfl
      have x2 := HA6.out.cell (i := 2) (v := .slice a ts.length cap) rfl
      go_wp2_with fail
      obtain ⟨w6, hz⟩ : ∃ u, w5.alloc (.cells #[.int .i64 x, .int .i64 y] 74) = u := ⟨_, rfl⟩
      rw [hz] at HC6 HB6 HA6 x0 x1 x2 ⊢
      clear hz hb6
      refine (refStack_any W H _ ts w6 (HSRC.out.past HB6.out) (fun i hi => ⟨Nat.le_trans (HSS.out i hi).1 (by decide), Nat.le_trans (HSS.out i hi).2 (by decide)⟩)).mono ?_
      rintro e w7 ⟨rfl, hb7⟩
      have HB7 := Lib.hid (HB6.out.trans (hb7.mono HB6.out.size))
      have HA7 := Lib.hid (HA6.out.past hb7)
      have HC7 := Lib.hid (HC6.out.past hb7)
      have HBQ := HB7
      clear hb7 HB6 HA6 HC6 x0 x1 x2
      have x0 := HA7.out.cell (i := 0) (v := .int .i64 W) rfl
      have x1 := HA7.out.cell (i := 1) (v := .int .i64 H) rfl
      have x2 := HA7.out.cell (i := 2) (v := .slice a ts.length cap) rfl
      have n0 := HC7.out.cell (i := 0) (v := .int .i64 x) rfl
      have n1 := HC7.out.cell (i := 1) (v := .int .i64 y) rfl
      have hR := HRX.out
      clear HRX
      obtain ⟨c0, hc0⟩ : ∃ r, decide (checkF W H ts = 0) = r := ⟨_, rfl⟩
      rw [hc0]
      cases c0
      · obtain ⟨rfl, rfl, rfl⟩ := hR.arg (of_decide_eq_false hc0)
        clear hR hc0 HPB HSS
        go_wp2_with fail
        go_loopw [7, 8] (fun s7 s8 wr => wr = w7 ∧ s7 = .int .i64 2 ∧ s8 = .int .i64 0) (fun _ _ _ => 0)
        case atStart => exact ⟨rfl, rfl, rfl⟩
        case round =>
          obtain ⟨rfl, rfl, rfl⟩ := hrel
          by_cases h0 : 0 < bears.length
          · have h0i : (0 : Int) < (bears.length : Int) := by omega
            go_wp2_with (first | (go_at_call 16; refine (HK.out _).mono ?_; rintro e w99 ⟨rfl, hb99⟩; have HB99 := Lib.hid (HBQ.out.trans (hb99.mono HBQ.out.size)); clear hb99))
            go_ret
            exact ⟨rfl, HB99.out⟩
          · have h0i : ¬ (0 : Int) < (bears.length : Int) := by omega
            go_wp2_with (first | (go_at_call 16; refine (HK.out _).mono ?_; rintro e w99 ⟨rfl, hb99⟩; have HB99 := Lib.hid (HBQ.out.trans (hb99.mono HBQ.out.size)); clear hb99))
            go_ret
            exact ⟨rfl, HB99.out⟩
      · have hck : checkF W H ts = 0 := of_decide_eq_true hc0
        clear hc0
        by_cases hlen : bears.length = ts.length
        · have hnei : ((bears.length : Int) != (ts.length : Int)) = false := by simp [hlen]
          have HLEN := Lib.hid hlen
          clear hlen
          go_wp2_with fail
          clear hnei
          go_loopw [7, 8] (fun s7 s8 wr => wr = w7 ∧ ∃ (k : Nat) (c : Int), k ≤ bears.length ∧ s8 = .int .i64 k ∧ s7 = .int .i64 c ∧ Hid (BearW bears k c)) (fun _ s8 _ => bears.length - (intOf s8).toNat)
          case atStart => exact ⟨rfl, 0, 0, Nat.zero_le _, rfl, rfl, Lib.hid (BearW.start bears)⟩
          case round =>
            obtain ⟨rfl, k, c, hk, rfl, rfl, HBW⟩ := hrel
            by_cases hlt : k < bears.length
            · have hki : (0 : Int) ≤ (k : Int) := by omega
              have hkl : (k : Int) < (bears.length : Int) := by omega
              rcases HBW.out.cases with ⟨rfl, HJ⟩ | ⟨rfl, HJ⟩
              · obtain ⟨bb, boff, rfl, hbb, u1⟩ := HPB.out k hlt
                obtain ⟨z, hz⟩ : ∃ z, bears[k]?.getD 0 = z := ⟨_, rfl⟩
                rw [hz] at u1
                have u1 := (HB7.out.cell (p := ⟨bb, _, none⟩) hbb).trans u1
                have HZ := Lib.hid hz
                have HJH := Lib.hid HJ
                clear hz HJ
                by_cases hneg : z < 0
                · have HBW2 := Lib.hid (BearW.bad (k := k + 1) hlt HZ.out (fun h => absurd h.1 (by omega)))
                  clear HBW HJH
                  go_wp2
                  go_roundw
                  case rel => exact ⟨trivial, k + 1, 3, hlt, by go_num, rfl, HBW2⟩
                  case measure => simp [intOf]; omega
                · by_cases hbig : 1000000 < z
                  · have HBW2 := Lib.hid (BearW.bad (k := k + 1) hlt HZ.out (fun h => absurd h.2 (by omega)))
                    clear HBW HJH
                    go_wp2
                    go_roundw
                    case rel => exact ⟨trivial, k + 1, 3, hlt, by go_num, rfl, HBW2⟩
                    case measure => simp [intOf]; omega
                  · have HBW2 := Lib.hid (BearW.next HJH.out HZ.out (by omega) (by omega))
                    clear HBW HJH
                    go_wp2
                    go_roundw
                    case rel => exact ⟨trivial, k + 1, 0, hlt, by go_num, rfl, HBW2⟩
                    case measure => simp [intOf]; omega
              · obtain ⟨rfl, rfl, rfl⟩ := hR.bad hck HLEN.out HJ
                clear HBW HJ hR hck HLEN
                go_wp2_with (first | (go_at_call 16; refine (HK.out _).mono ?_; rintro e w99 ⟨rfl, hb99⟩; have HB99 := Lib.hid (HBQ.out.trans (hb99.mono HBQ.out.size)); clear hb99))
                go_ret
                exact ⟨rfl, HB99.out⟩
            · have hke : k = bears.length := by omega
              subst hke
              rcases HBW.out.cases with ⟨rfl, HJ⟩ | ⟨rfl, HJ⟩
              · obtain ⟨r, hf, hR4⟩ := hR.good hck HLEN.out (all_of HJ)
                have HALL := Lib.hid (all_of HJ)
                have HF := Lib.hid hf
                have HCK := Lib.hid hck
                have HR4 := Lib.hid hR4
                have hv := stackV_of hck
                have HV := Lib.hid hv
                have HHG := Lib.hid (refHangs_any W H _ ts _ wr (HSRC.out.past HB7.out) hv)
                clear HBW HJ hR hck hf hR4 hv HPB
                go_wp2_with fail
                refine HHG.out.mono ?_
                rintro e w8 ⟨r', hf', rfl, hb8⟩
                obtain rfl := firstB_unique hf' HF.out
                have HB8 := Lib.hid (HB7.out.trans (hb8.mono HB7.out.size))
                have HA8 := Lib.hid (HA7.out.past hb8)
                have HC8 := Lib.hid (HC7.out.past hb8)
                have HBQ8 := HB8
                clear hb8 hf' HHG HB7 HBQ HA7 HC7 x0 x1 x2 n0 n1
                have x0 := HA8.out.cell (i := 0) (v := .int .i64 W) rfl
                have x1 := HA8.out.cell (i := 1) (v := .int .i64 H) rfl
                have x2 := HA8.out.cell (i := 2) (v := .slice a ts.length cap) rfl
                have n0 := HC8.out.cell (i := 0) (v := .int .i64 x) rfl
                have n1 := HC8.out.cell (i := 1) (v := .int .i64 y) rfl
                have hfl := field_tier
                rcases HR4.out with ⟨h4, rfl, rfl, rfl⟩ | ⟨rfl, h5, rfl, rfl, rfl⟩ | ⟨rfl, h5, q, hq, hx, hy, rfl⟩
                · have hge := bT_nonneg h4
                  obtain ⟨tt, htt⟩ : ∃ t, bT r' = t := ⟨_, rfl⟩
                  rw [htt] at hge ⊢
                  clear htt h4 HR4 HF
                  go_wp2_with (first | (go_at_call 16; refine (HK.out _).mono ?_; rintro e w99 ⟨rfl, hb99⟩; have HB99 := Lib.hid (HBQ8.out.trans (hb99.mono HBQ8.out.size)); clear hb99))
                  go_ret
                  exact ⟨rfl, HB99.out⟩
                · have hbt : bT none = -1 := rfl
                  rw [hbt]
                  have HLD := Lib.hid (refLoads_any W H _ ts _ w8 (HSRC.out.past HB8.out) HCK.out HF.out HV.out)
                  have H5 := Lib.hid h5
                  clear hbt h5 HR4
                  go_wp2_with fail
                  refine HLD.out.mono ?_
                  rintro e w9 ⟨hb9, ⟨_, rfl⟩ | ⟨h6, _⟩⟩
                  · have HB9 := Lib.hid (HB8.out.trans (hb9.mono HB8.out.size))
                    have HC9 := Lib.hid (HC8.out.past hb9)
                    clear hb9 HLD HB8 HBQ8 HA8 HC8 x0 x1 x2 n0 n1
                    have n0 := HC9.out.cell (i := 0) (v := .int .i64 0) rfl
                    have n1 := HC9.out.cell (i := 1) (v := .int .i64 0) rfl
                    go_wp2_with (first | (go_at_call 16; refine (HK.out _).mono ?_; rintro e w99 ⟨rfl, hb99⟩; have HB99 := Lib.hid (HB9.out.trans (hb99.mono HB9.out.size)); clear hb99))
                    go_ret
                    exact ⟨rfl, HB99.out⟩
                  · exact absurd h6 H5.out
                · have hbt : bT none = -1 := rfl
                  rw [hbt]
                  have HLD := Lib.hid (refLoads_any W H _ ts _ w8 (HSRC.out.past HB8.out) HCK.out HF.out HV.out)
                  have H5 := Lib.hid h5
                  have HQ := Lib.hid hq
                  have HXY := Lib.hid (And.intro hx.symm hy.symm)
                  obtain ⟨b9, hb9e⟩ : ∃ x, w8.heap.size = x := ⟨_, rfl⟩
                  have HB9E := Lib.hid hb9e
                  clear hbt h5 HR4 hq hx hy hb9e
                  go_wp2_with fail
                  refine HLD.out.mono ?_
                  rintro e w9 ⟨hb9, ⟨h6, _⟩ | ⟨_, gb, g, rfl, hrows, _⟩⟩
                  · exact absurd H5.out h6
                  · have HB9 := Lib.hid (HB8.out.trans (hb9.mono HB8.out.size))
                    have HC9 := Lib.hid (HC8.out.past hb9)
                    have HA9 := Lib.hid (HA8.out.past hb9)
                    have HRW := Lib.hid hrows
                    clear hb9 HLD HB8 HBQ8 HA8 HC8 x0 x1 x2 n0 n1 hrows
                    obtain ⟨N, hN⟩ : ∃ n, (W * H).toNat = n := ⟨_, rfl⟩
                    obtain ⟨⟨rows, fl, er⟩, hlo⟩ : ∃ L, loadsF ts (W * H).toNat = L := ⟨_, rfl⟩
                    have her := H5.out
                    rw [hlo] at her
                    dsimp only at her
                    subst her
                    have HRW2 : Hid (RowsAt w9 w8.heap.size gb rows) := Lib.hid (by have h := HRW.out; rw [hlo] at h; exact h)
                    have HQ2 : Hid (FirstB ts (crushP ts rows bears) q) := Lib.hid (by have h := HQ.out; rw [hlo] at h; exact h)
                    have HCN := Lib.hid (crushN_of HCK.out HF.out hlo HLEN.out HALL.out)
                    clear hlo hN HRW HQ H5
                    go_wp2_with fail
                    refine region_plain (fun X => X.cell? ⟨b6, 0, none⟩ = some (.int .i64 x) ∧ X.cell? ⟨b6, 1, none⟩ = some (.int .i64 y) ∧ X.cell? ⟨w.heap.size, 0, none⟩ = some (.int .i64 W) ∧ X.cell? ⟨w.heap.size, 1, none⟩ = some (.int .i64 H) ∧ X.cell? ⟨w.heap.size, 2, none⟩ = some (.slice a ts.length cap)) 14 #[false, false, false, false, false, false, false, false, false, false, false, false, false, false] rfl rfl (by kernel_rfl) ?_
                    obtain ⟨v1, hv1⟩ : ∃ x, w9.drew = x := ⟨_, rfl⟩
                    have hB1 : Below w9.heap.size w9 v1 := by rw [← hv1]; exact (Below.refl _ _).drew
                    have hC1 := HC9.out.past hB1
                    have hA1 := HA9.out.past hB1
                    rw [hv1]
                    clear hv1
                    have HBV := Lib.hid (HB9.out.trans (hB1.mono HB9.out.size))
                    have HRV := Lib.hid (HRW2.out.past hB1)
                    have HS : Hid (∀ X, Below v1.heap.size v1 X → X.cell? ⟨b6, 0, none⟩ = some (.int .i64 x) ∧ X.cell? ⟨b6, 1, none⟩ = some (.int .i64 y) ∧ X.cell? ⟨w.heap.size, 0, none⟩ = some (.int .i64 W) ∧ X.cell? ⟨w.heap.size, 1, none⟩ = some (.int .i64 H) ∧ X.cell? ⟨w.heap.size, 2, none⟩ = some (.slice a ts.length cap)) := Lib.hid fun X hX => ⟨(hC1.past hX).cell (i := 0) rfl, (hC1.past hX).cell (i := 1) rfl, (hA1.past hX).cell (i := 0) rfl, (hA1.past hX).cell (i := 1) rfl, (hA1.past hX).cell (i := 2) rfl⟩
                    have hSS := HS.out v1 (Below.refl _ _)
                    have HCR := Lib.hid (refCrushed_any gb w8.heap.size W H _ _ ts rows bears _ v1 (HSRC.out.past HBV.out) HCN.out HRV.out (HSB.out.past HBV.out).ints HV.out.t10 HV.out.few)
                    clear hB1 hC1 hA1 HC9 HA9 HB9 HRW2
                    refine take_first (i := 0) (v := ?_) rfl (by kernel_rfl) (by kernel_rfl) (by kernel_rfl) (fun _ _ _ h => h) (by rfl) (by assumption) ?_ ?_
                    rotate_left 1
                    · intro X hSX
                      (try dsimp only at hSX)
                      first | (go_simp; done) | (go_simp; with_reducible rfl)
                    try simp only [Act.put, List.setIfInBounds_toArray, List.set_cons_zero, List.set_cons_succ]
                    refine take_first (i := 1) (v := ?_) rfl (by kernel_rfl) (by kernel_rfl) (by kernel_rfl) (fun _ _ _ h => h) (by rfl) (by assumption) ?_ ?_
                    rotate_left 1
                    · intro X hSX
                      (try dsimp only at hSX)
                      first | (go_simp; done) | (go_simp; with_reducible rfl)
                    try simp only [Act.put, List.setIfInBounds_toArray, List.set_cons_zero, List.set_cons_succ]
                    refine take_first (i := 2) (v := ?_) rfl (by kernel_rfl) (by kernel_rfl) (by kernel_rfl) (fun _ _ _ h => h) (by rfl) (by assumption) ?_ ?_
                    rotate_left 1
                    · intro X hSX
                      (try dsimp only at hSX)
                      first | (go_simp; done) | (go_simp; with_reducible rfl)
                    try simp only [Act.put, List.setIfInBounds_toArray, List.set_cons_zero, List.set_cons_succ]
                    refine take_first (i := 3) (v := ?_) rfl (by kernel_rfl) (by kernel_rfl) (by kernel_rfl) (fun _ _ _ h => h) (by rfl) (by assumption) ?_ ?_
                    rotate_left 1
                    · intro X hSX
                      (try dsimp only at hSX)
                      first | (go_simp; done) | (go_simp; with_reducible rfl)
                    try simp only [Act.put, List.setIfInBounds_toArray, List.set_cons_zero, List.set_cons_succ]
                    refine take_first (i := 4) (v := ?_) rfl (by kernel_rfl) (by kernel_rfl) (by kernel_rfl) (fun _ _ _ h => h) (by rfl) (by assumption) ?_ ?_
                    rotate_left 1
                    · intro X hSX
                      (try dsimp only at hSX)
                      first | (go_simp; done) | (go_simp; with_reducible rfl)
                    try simp only [Act.put, List.setIfInBounds_toArray, List.set_cons_zero, List.set_cons_succ]
                    refine take_first (i := 5) (v := ?_) rfl (by kernel_rfl) (by kernel_rfl) (by kernel_rfl) (fun _ _ _ h => h) (by rfl) (by assumption) ?_ ?_
                    rotate_left 1
                    · intro X hSX
                      (try dsimp only at hSX)
                      first | (go_simp; done) | (go_simp; with_reducible rfl)
                    try simp only [Act.put, List.setIfInBounds_toArray, List.set_cons_zero, List.set_cons_succ]
                    refine take_first (i := 6) (v := ?_) rfl (by kernel_rfl) (by kernel_rfl) (by kernel_rfl) (fun _ _ _ h => h) (by rfl) (by assumption) ?_ ?_
                    rotate_left 1
                    · intro X hSX
                      (try dsimp only at hSX)
                      first | (go_simp; done) | (go_simp; with_reducible rfl)
                    try simp only [Act.put, List.setIfInBounds_toArray, List.set_cons_zero, List.set_cons_succ]
                    refine only_one (i := 7) (by kernel_rfl) rfl (by rfl) ?_
                    intro K hK
                    go_simp
                    refine HCR.out.mono ?_
                    rintro e v2 ⟨q', hq', rfl, hb2⟩
                    obtain rfl := firstB_unique hq' HQ2.out
                    rw [HXY.out.1, HXY.out.2]
                    have HB2 := Lib.hid (HBV.out.trans (hb2.mono HBV.out.size))
                    have hSS := HS.out v2 hb2
                    have HB2L := Lib.hid hb2
                    clear hb2 hq'
                    refine hK.out _ _ hSS ?_
                    clear hK K
                    try simp only [Act.put, List.setIfInBounds_toArray, List.set_cons_zero, List.set_cons_succ]
                    refine take_first (i := 8) (v := ?_) rfl (by kernel_rfl) (by kernel_rfl) (by kernel_rfl) (fun _ _ _ h => h) (by rfl) (by assumption) ?_ ?_
                    rotate_left 1
                    · intro X hSX
                      (try dsimp only at hSX)
                      first | (go_simp; done) | (go_simp; with_reducible rfl)
                    try simp only [Act.put, List.setIfInBounds_toArray, List.set_cons_zero, List.set_cons_succ]
                    refine take_first (i := 9) (v := ?_) rfl (by kernel_rfl) (by kernel_rfl) (by kernel_rfl) (fun _ _ _ h => h) (by rfl) (by assumption) ?_ ?_
                    rotate_left 1
                    · intro X hSX
                      (try dsimp only at hSX)
                      first | (go_simp; done) | (go_simp; with_reducible rfl)
                    try simp only [Act.put, List.setIfInBounds_toArray, List.set_cons_zero, List.set_cons_succ]
                    refine take_first (i := 10) (v := ?_) rfl (by kernel_rfl) (by kernel_rfl) (by kernel_rfl) (fun _ _ _ h => h) (by rfl) (by assumption) ?_ ?_
                    rotate_left 1
                    · intro X hSX
                      (try dsimp only at hSX)
                      first | (go_simp; done) | (go_simp; with_reducible rfl)
                    try simp only [Act.put, List.setIfInBounds_toArray, List.set_cons_zero, List.set_cons_succ]
                    refine only_one (i := 11) (by kernel_rfl) rfl (by rfl) ?_
                    intro K hK
                    go_simp
                    refine (HK.out _).mono ?_
                    rintro e v3 ⟨rfl, hb3⟩
                    have HB3 := Lib.hid (HB2.out.trans (hb3.mono HB2.out.size))
                    have hSS := HS.out v3 (HB2L.out.trans (hb3.mono HB2L.out.size))
                    clear hb3
                    refine hK.out _ _ hSS ?_
                    clear hK K
                    try simp only [Act.put, List.setIfInBounds_toArray, List.set_cons_zero, List.set_cons_succ]
                    refine take_first (i := 12) (v := ?_) rfl (by kernel_rfl) (by kernel_rfl) (by kernel_rfl) (fun _ _ _ h => h) (by rfl) (by assumption) ?_ ?_
                    rotate_left 1
                    · intro X hSX
                      (try dsimp only at hSX)
                      first | (go_simp; done) | (go_simp; with_reducible rfl)
                    try simp only [Act.put, List.setIfInBounds_toArray, List.set_cons_zero, List.set_cons_succ]
                    refine only_one (i := 13) (by kernel_rfl) rfl (by rfl) ?_
                    intro K hK
                    go_simp
                    refine hK.out _ _ hSS ?_
                    clear hK K
                    try simp only [Act.put, List.setIfInBounds_toArray, List.set_cons_zero, List.set_cons_succ]
                    refine wpAnyH_done (by kernel_rfl) ?_ _
                    clear hSS
                    go_wp2_with fail
                    go_ret
                    exact ⟨rfl, HB3.out⟩
              · obtain ⟨rfl, rfl, rfl⟩ := hR.bad hck HLEN.out HJ
                clear HBW HJ hR hck HLEN
                go_wp2_with (first | (go_at_call 16; refine (HK.out _).mono ?_; rintro e w99 ⟨rfl, hb99⟩; have HB99 := Lib.hid (HBQ.out.trans (hb99.mono HBQ.out.size)); clear hb99))
                go_ret
                exact ⟨rfl, HB99.out⟩
        · obtain ⟨rfl, rfl, rfl⟩ := hR.form hck hlen
          have hnei : ((bears.length : Int) != (ts.length : Int)) = true := by simp; omega
          clear hR hck HPB HSS
          go_wp2_with fail
          go_loopw [7, 8] (fun s7 s8 wr => wr = w7 ∧ s7 = .int .i64 4 ∧ s8 = .int .i64 0) (fun _ _ _ => 0)
          case atStart => exact ⟨rfl, rfl, rfl⟩
          case round =>
            obtain ⟨rfl, rfl, rfl⟩ := hrel
            by_cases h0 : 0 < bears.length
            · have h0i : (0 : Int) < (bears.length : Int) := by omega
              go_wp2_with (first | (go_at_call 16; refine (HK.out _).mono ?_; rintro e w99 ⟨rfl, hb99⟩; have HB99 := Lib.hid (HBQ.out.trans (hb99.mono HBQ.out.size)); clear hb99))
              go_ret
              exact ⟨rfl, HB99.out⟩
            · have h0i : ¬ (0 : Int) < (bears.length : Int) := by omega
              go_wp2_with (first | (go_at_call 16; refine (HK.out _).mono ?_; rintro e w99 ⟨rfl, hb99⟩; have HB99 := Lib.hid (HBQ.out.trans (hb99.mono HBQ.out.size)); clear hb99))
              go_ret
              exact ⟨rfl, HB99.out⟩
  · clear HRR
    go_wp2_with (first | (go_at_call 16; refine (HK.out _).mono ?_; rintro e w99 ⟨rfl, hb99⟩; have HB99 := Lib.hid (HB2.out.trans (hb99.mono HB2.out.size)); clear hb99))
    go_ret
    exact ⟨rfl, HB99.out⟩
section
variable {H : Type} {enc : TypeId × Value → H} {W : World}
theorem weightsAll_mem {P : Program} {e : TypeId} {d : DataW H} : ∀ {l : List (DataW H)}, d ∈ l → ∀ n ∈ d.weights P e, n ∈ DataW.weightsAll P e l
  | x :: l, h, n, hn => by
    simp only [DataW.weightsAll, List.mem_append]
    rcases List.mem_cons.1 h with rfl | h
    · exact .inl hn
    · exact .inr (weightsAll_mem h n hn)
theorem choose_list {α : Type} (p : Nat → α → Prop) : ∀ n, (∀ i, i < n → ∃ x, p i x) → ∃ l : List α, l.length = n ∧ ∀ i, i < n → ∃ x, l[i]? = some x ∧ p i x
  | 0, _ => ⟨[], rfl, fun i hi => by omega⟩
  | n + 1, h => by
    obtain ⟨l, hl, hall⟩ := choose_list p n (fun i hi => h i (by omega))
    obtain ⟨x, hx⟩ := h n (by omega)
    refine ⟨l ++ [x], by simp [hl], fun i hi => ?_⟩
    by_cases hin : i < n
    · obtain ⟨y, hy, hp⟩ := hall i hin
      exact ⟨y, by rw [List.getElem?_append_left (by omega)]; exact hy, hp⟩
    · obtain rfl : i = n := by omega
      exact ⟨x, by rw [List.getElem?_append_right (by omega), hl]; simp, hx⟩
theorem cell_blkT {w : World} {a : Addr} {v : Value} (h : w.cell? a = some v) : a.block < w.heap.size := by
  by_cases hb : a.block < w.heap.size
  · exact hb
  · rw [World.cell?, Array.getElem?_eq_none (by omega)] at h
    simp at h
/-- A slice of ints, opened. -/
theorem srcI_open {n : Nat} {v : Value} {y : DataW H × List MemPlace} (hd : DataW.trod enc Try.prog W 0 (fun _ => true) true n 46 [v] = some y) (hw : (y.1.weights Try.prog 46).all (· ≤ reachBytes) = true) :
    ∃ l, SrcI W v l := by
  rcases open_ints Try.underlying46 Try.underlying3 (by kernel_rfl) hd with ⟨hv, _⟩ | ⟨a, len, cap, zs, hv, _, hle, _, hm, hy, hall, _⟩
  · obtain rfl : v = .slice none 0 0 := by simpa using hv
    exact ⟨[], by simp, .inl ⟨rfl, rfl⟩⟩
  · obtain rfl : v = .slice (some a) len cap := by simpa using hv
    simp only [if_true] at hm
    subst hy
    have hb : Try.prog.bytesOf 3 = 8 := by kernel_rfl
    have hlits : ∀ l : List Int, (lits (H := H) .i64 l).length = l.length := fun l => by simp [lits]
    have hwt : len ≤ 17592186043904 := by
      simp only [DataW.weights, Try.underlying46, List.all_cons, Bool.and_eq_true, decide_eq_true_eq, hb] at hw
      have h1 := hw.1
      rw [hlits, hlits, List.length_take, List.length_drop] at h1
      unfold reachBytes at h1
      omega
    refine ⟨zs.take len, by simp; omega, ?_⟩
    by_cases hl : len = 0
    · subst hl
      exact .inr (.inl ⟨a, cap, rfl, by simp⟩)
    · right; right
      obtain ⟨b, off, spot⟩ := a
      have h00 := hall 0 (by omega)
      have hspot : spot = none := by simpa [Addr.add] using World.cell?_spot h00
      subst hspot
      have hlen : (zs.take len).length = len := by simp; omega
      refine ⟨b, off, cap, by rw [hlen], by omega, cell_blkT h00, ?_⟩
      intro i hi
      rw [hlen] at hi
      have h0 := hall i (by omega)
      rw [add_plain] at h0
      rw [h0, List.getElem?_take_of_lt hi]
      simp [List.getD]
/-- A slice of small numbers, opened. -/
theorem srcU_open {n : Nat} {v : Value} {y : DataW H × List MemPlace} (hd : DataW.trod enc Try.prog W 0 (fun _ => true) true n 118 [v] = some y) (hw : (y.1.weights Try.prog 118).all (· ≤ reachBytes) = true) :
    ∃ l, SrcU W v l := by
  rcases open_ints Try.underlying118 Try.underlying95 (by kernel_rfl) hd with ⟨hv, _⟩ | ⟨a, len, cap, zs, hv, _, hle, _, hm, hy, hall, hwf⟩
  · obtain rfl : v = .slice none 0 0 := by simpa using hv
    exact ⟨[], by simp, none, 0, rfl, by simp, fun i hi => by simp at hi⟩
  · obtain rfl : v = .slice (some a) len cap := by simpa using hv
    simp only [if_true] at hm
    subst hy
    have hb : Try.prog.bytesOf 95 = 2 := by kernel_rfl
    have hlits : ∀ l : List Int, (lits (H := H) .u16 l).length = l.length := fun l => by simp [lits]
    have hwt : len ≤ 140737488355328 := by
      simp only [DataW.weights, Try.underlying118, List.all_cons, Bool.and_eq_true, decide_eq_true_eq, hb] at hw
      have h1 := hw.1
      rw [hlits, hlits, List.length_take, List.length_drop] at h1
      unfold reachBytes at h1
      omega
    have hlen : (zs.take len).length = len := by simp; omega
    refine ⟨zs.take len, fun x hx => ?_, some a, cap, by rw [hlen], by omega, fun i hi => ?_⟩
    · have h1 := hwf x (List.mem_of_mem_take hx)
      simp [Lit.wf, IntKind.min, IntKind.max, IntKind.signed, IntKind.bits] at h1
      omega
    · rw [hlen] at hi
      obtain ⟨b, off, spot⟩ := a
      have h0 := hall i (by omega)
      have h00 := hall 0 (by omega)
      have hspot : spot = none := by simpa [Addr.add] using World.cell?_spot h00
      subst hspot
      refine ⟨b, off, rfl, cell_blkT h00, ?_⟩
      rw [add_plain] at h0
      rw [h0, List.getElem?_take_of_lt hi]
      simp [List.getD]
/-- A slice of tiers, opened. -/
theorem srcT_open {n : Nat} {v : Value} {y : DataW H × List MemPlace} (hd : DataW.trod enc Try.prog W 0 (fun _ => true) true n 67 [v] = some y) (hw : (y.1.weights Try.prog 67).all (· ≤ reachBytes) = true) :
    ∃ l, SrcT W v l := by
  rcases open_slice_pairs Try.underlying67 Try.underlying85 (by kernel_rfl) rfl rfl (by kernel_rfl) (by kernel_rfl) hd with ⟨hv, _⟩ | ⟨a, len, cap, m, k, V0, V1, D0, D1, P0, P1, hv, _, hle, _, hm, hy, hall⟩
  · obtain rfl : v = .slice none 0 0 := by simpa using hv
    exact ⟨[], none, 0, rfl, by simp, fun i hi => by simp at hi⟩
  · obtain rfl : v = .slice (some a) len cap := by simpa using hv
    simp only [if_true] at hm
    subst hm
    subst hy
    have hb : Try.prog.bytesOf 85 = 48 := by kernel_rfl
    simp only [DataW.weights, Try.underlying67, List.all_cons, Bool.and_eq_true, decide_eq_true_eq, List.length_map, List.length_range, hb, List.all_append] at hw
    have hwt : (len + (m - len)) * 48 ≤ 140737488351232 := by
      have h1 := hw.1
      unfold reachBytes at h1
      omega
    have hmk : ∀ i, i < len → ∃ q : List Int × List Int, SrcI W (V0 i) q.1 ∧ SrcI W (V1 i) q.2 := by
      intro i hi
      have hmem : ∀ z ∈ (DataW.agg [D0 i, D1 i]).weights Try.prog 85, decide (z ≤ reachBytes) = true := fun z hz =>
        List.all_eq_true.1 hw.2.1 z (weightsAll_mem (d := .agg [D0 i, D1 i]) (List.mem_map.2 ⟨i, List.mem_range.2 hi, rfl⟩) z hz)
      simp only [DataW.weights, Try.underlying85, DataW.weightsEach, List.map_cons, List.map_nil, List.append_nil, List.mem_append] at hmem
      obtain ⟨l1, h1⟩ := srcI_open (hall i (by omega)).2.2.1 (List.all_eq_true.2 fun z hz => hmem z (.inl hz))
      obtain ⟨l2, h2⟩ := srcI_open (hall i (by omega)).2.2.2 (List.all_eq_true.2 fun z hz => hmem z (.inr hz))
      exact ⟨(l1, l2), h1, h2⟩
    obtain ⟨ms, hms, hmsat⟩ := choose_list (fun i (q : List Int × List Int) => SrcI W (V0 i) q.1 ∧ SrcI W (V1 i) q.2) len hmk
    refine ⟨ms, some a, m, by rw [hms], by omega, fun i hi => ?_⟩
    rw [hms] at hi
    obtain ⟨b, off, spot⟩ := a
    obtain ⟨h00, _⟩ := hall 0 (by omega)
    have hspot : spot = none := by simpa [Addr.add] using World.cell?_spot h00
    subst hspot
    obtain ⟨h0, h1, t0, t1⟩ := hall i (by omega)
    obtain ⟨x, hx, hp1, hp2⟩ := hmsat i hi
    rw [add_plain] at h0 h1
    exact ⟨b, off, rfl, cell_blkT h00, V0 i, V1 i, h0, by rw [show off + i * 2 + 1 = off + (i * 2 + 1) by omega]; exact h1, by rw [hx]; exact hp1, by rw [hx]; exact hp2⟩
theorem array3T {α : Type} {a : Array α} (h : a.size = 3) : ∃ x y z, a = #[x, y, z] := by
  rcases a with ⟨l⟩
  match l, h with
  | [x, y, z], _ => exact ⟨x, y, z, rfl⟩
set_option maxRecDepth 100000 in
/-- A stack, opened. -/
theorem stack_open {b0 : Nat} {v : Value} {d : DataW H} {p : List MemPlace} (hv : Value.okWide Try.prog W .any b0 69 v) (h : DataW.Trod enc Try.prog W 0 (fun _ => true) true 69 v d p) (hw : (d.weights Try.prog 69).all (· ≤ reachBytes) = true) :
    ∃ x y tv ts, v = .agg #[.int .i64 x, .int .i64 y, tv] ∧ SrcT W tv ts := by
  obtain ⟨cs, rfl, hsz⟩ := okWide_struct Try.underlying69 hv
  obtain ⟨c0, c1, c2, rfl⟩ := array3T (hsz.trans (by kernel_rfl))
  obtain ⟨fuel, hf⟩ := h
  obtain ⟨xs, n, hd, hx, _, hlen, hall⟩ := DataW.trod_struct Try.underlying69 hf
  have hi : Try.prog.cellsOf 3 = 1 := by kernel_rfl
  have ht : Try.prog.cellsOf 67 = 1 := by kernel_rfl
  have h0 := hall 0 _ rfl
  have h1 := hall 1 _ rfl
  have h2 := hall 2 _ rfl
  have hl3 : xs.length = 3 := hlen
  obtain ⟨x0, x1, x2, rfl⟩ : ∃ x0 x1 x2, xs = [x0, x1, x2] := by
    match xs, hl3 with
    | [x0, x1, x2], _ => exact ⟨x0, x1, x2, rfl⟩
  have hd2 : d = .agg [x0.1, x1.1, x2.1] := by have := congrArg Prod.fst hx; simpa using this
  subst hd2
  simp only [DataW.weights, Try.underlying69, DataW.weightsEach, List.map_cons, List.map_nil, List.append_nil, List.all_append, Bool.and_eq_true] at hw
  simp only [List.getElem?_cons_zero, List.getElem?_cons_succ] at h0 h1 h2
  have e0 := int_of_trod (v := c0) (d := x0.1) (p := x0.2) (by simpa [hi, Value.cells] using h0)
  have e1 := int_of_trod (v := c1) (d := x1.1) (p := x1.2) (by simpa [hi, Value.cells] using h1)
  obtain ⟨ts, hts⟩ := srcT_open (v := c2) (y := x2) (by simpa [ht, Value.cells] using h2) (by
    first | exact hw.2.2 | (simpa using hw.2.2))
  exact ⟨intOf c0, intOf c1, c2, ts, by rw [← e0, ← e1], hts⟩
end
set_option maxRecDepth 100000 in
theorem contract7 (H : Type) (enc : TypeId × Value → H) (W : World) (base : Nat) (args : Array Value) (ds gs : List (DataW H)) (before : List MemPlace)
    (hval : ∀ (j : Nat) t v, Try.f7.params[j]? = some t → args[j]? = some v → Value.okWide Try.prog W .any base t v)
    (hW : DataW.Whole enc Try.prog Try.f7.params.toList Rows.kilnCrushesSpec.vars false W args.toList ds gs before)
    (hz : (DataW.weightsEach Try.prog (Try.f7.params.toList ++ Rows.kilnCrushesSpec.plain.varTypes Try.prog) (ds ++ gs)).all (· ≤ reachBytes) = true) :
    Calls Try.prog 7 args W fun e W' => ∃ v, e = .returned v ∧ Rows.kilnCrushesSpec.post enc Try.prog Try.f7 false true false false W args v W' := by
  have hW' := hW
  obtain ⟨p, q, hA0, hV, rfl, hfz, hnd⟩ := hW
  have hA : DataW.TrodAll enc Try.prog W 0 (fun _ => true) true Try.f7.params.toList args.toList ds p := hA0
  rw [Try.params7] at hA hval hz
  obtain ⟨v0, v1, d0, d1, p0, p1, rfl, rfl, rfl, h0, h1⟩ := trodAll_two hA
  obtain ⟨rfl, rfl⟩ := trodVars_none hV
  have hws : ((d0.weights Try.prog 69).all fun x => decide (x ≤ reachBytes)) = true ∧ ((d1.weights Try.prog 46).all fun x => decide (x ≤ reachBytes)) = true := by
    simp only [List.cons_append, List.nil_append, DataW.weightsEach, List.all_append, Bool.and_eq_true, List.append_nil] at hz
    exact ⟨hz.1, hz.2.1⟩
  obtain ⟨x, y, tv, ts, rfl, hsrc⟩ := stack_open (hval 0 69 v0 rfl rfl) h0 hws.1
  clear hA0
  simp only [List.append_nil] at hW'
  have h1k := h1
  obtain ⟨fuel, h1f⟩ := h1
  have hcv := okWide_slice Try.underlying46 (hval 1 46 v1 rfl rfl)
  obtain ⟨sa, sb, sc, rfl⟩ := hcv
  obtain ⟨us, hus⟩ := srcI_open (v := .slice sa sb sc) (y := (d1, p1)) (by simpa [Value.cells] using h1f) hws.2
  have hlt : ∀ x ∈ p0 ++ p1, x.block < W.heap.size := fun x hx => by simpa using hW'.lt x (by simpa using hx)
  have g0 : ∀ (W' : World), Below W.heap.size W W' → DataW.Trod enc Try.prog W' 0 (fun b => decide (b < W.heap.size)) true 69 (.agg #[.int .i64 x, .int .i64 y, tv]) d0 p0 :=
    fun W' hn => Below.trod laidOutP (by kernel_rfl) (of_decide_eq_true (by kernel_rfl)) h0 hn (fun x hx => hlt x (by simp [hx]))
  have g1 : ∀ (W' : World), Below W.heap.size W W' → DataW.Trod enc Try.prog W' 0 (fun b => decide (b < W.heap.size)) true 46 (.slice sa sb sc) d1 p1 :=
    fun W' hn => Below.trod laidOutP (by kernel_rfl) (of_decide_eq_true (by kernel_rfl)) h1k hn (fun x hx => hlt x (by simp [hx]))
  refine (crushes_any x y tv _ ts us W hsrc hus).mono fun e W' ⟨he, hb⟩ => ?_
  subst he
  refine ⟨_, rfl, _, _, _, [], (p0 ++ p1), [], hW', ?_, ?_, ?_, hb.frame _, fun h => by cases h⟩
  · exact trodAll_mk1 (shut_bool Try.underlying4 _)
  · exact trodAll_mk2 (g0 _ hb) (g1 _ hb)
  · rfl
theorem laid_met7 (os : Os) : laidMet Try.prog Rows.kilnCrushesRow.laid ((World.laidAll Try.prog os Rows.kilnCrushesRow.laid).forCall (fun _ _ => 0) ⟨#[], #[.agg #[.int .i64 0, .int .i64 0, .slice none 0 0], .slice none 0 0], []⟩).memory :=
  laidMet_laidAll _ (by kernel_rfl) (by kernel_rfl)
theorem reads7 (os : Os) {H : Type} (enc : TypeId × Value → H) : ∃ places, DataW.whole enc Try.prog ((World.laidAll Try.prog os Rows.kilnCrushesRow.laid).forCall (fun _ _ => 0) ⟨#[], #[.agg #[.int .i64 0, .int .i64 0, .slice none 0 0], .slice none 0 0], []⟩).memory Try.f7.params.toList Rows.kilnCrushesSpec.vars false (#[.agg #[.int .i64 0, .int .i64 0, .slice none 0 0], .slice none 0 0] : Array Value).toList 8 = some ([.agg [.lit (.int .i64 0), .lit (.int .i64 0), .nil], .nil], [], places) :=
  ⟨[], by kernel_rfl⟩
set_option maxRecDepth 100000 in
theorem lifted7 (os : Os) (started : os.Started) (H : Type) (enc : TypeId × Value → H) (F : Stop.Interp) :
    ReturnsInHanded {} Try.checked os 7 .any ((OpenSpec.ofChange Rows.kilnCrushesSpec).preRow enc Try.prog Try.f7 Rows.kilnCrushesRow.domain false Rows.kilnCrushesRow.laid) (((OpenSpec.ofChange Rows.kilnCrushesSpec).at F).post enc Try.prog Try.f7 false true false false) := by
  obtain ⟨places, hx⟩ := reads7 os enc
  refine returnsInHanded_of_row (C := Try.checked) (s := OpenSpec.ofChange Rows.kilnCrushesSpec) ownP started (by kernel_rfl) Try.func7
    (witness_row_at (enc := enc) (C := Try.checked) false (World.laidAll Try.prog os Rows.kilnCrushesRow.laid) #[.agg #[.int .i64 0, .int .i64 0, .slice none 0 0], .slice none 0 0] (World.laidAll_os _ _ _) (by kernel_rfl) (by kernel_rfl) (by kernel_rfl)
      (OpenSpec.preRow_of_cond 8 hx (by kernel_rfl) (fun k hk => by cases hk) (by kernel_rfl) (laid_met7 os))) ?_
  intro W base args ds gs before hval hW _ _ hz _ _ _
  exact contract7 H enc W base args ds gs before hval hW hz
theorem said7 : Rows.KilnCrushesSaid :=
  OpenClaim.holds_of_cond 7 Try.f7 rfl rfl rfl rfl rfl rfl rfl ⟨rfl, rfl, rfl, rfl, rfl⟩ rfl rfl rfl rfl rfl (by kernel_rfl) Try.func7 (by kernel_rfl)
    (of_decide_eq_true (by kernel_rfl)) (by unfold Func.isWrapper; first | (rw [if_pos (by decide +kernel)]; kernel_rfl) | (rw [if_neg (by decide +kernel)]; exact ⟨rfl, rfl⟩))
    (fun os started H enc _ F => by rw [OpenClaim.pre_eq_preRow]; exact lifted7 os started H enc F)
end Go.Proofs.Ytopnlcjbklmicaa
