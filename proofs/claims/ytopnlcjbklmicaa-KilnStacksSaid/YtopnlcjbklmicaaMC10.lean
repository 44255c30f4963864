/-
  THE LAW KilnStacks, FOR EVERY STACK: it returns true, and its argument reads as it did. No condition.
-/
import Derived.Test.YtopnlcjbklmicaaK53
import Derived.Test.YtopnlcjbklmicaaK67
import Derived.Test.YtopnlcjbklmicaaK56
import Derived.Test.YtopnlcjbklmicaaK57
import Derived.Test.YtopnlcjbklmicaaK64
import Derived.Test.YtopnlcjbklmicaaK34
import Derived.Test.YtopnlcjbklmicaaK25
import Derived.Test.YtopnlcjbklmicaaK61
import Derived.Test.YtopnlcjbklmicaaKC0
import Derived.Laws.AppendOwnNone
import Derived.Laws.IdiomArrays
import Derived.Test.YtopnlcjbklmicaaRows
import Derived.WalkKit
import Derived.ProofKit
import Derived.OpenShut
import Derived.Deep.DeepHandedRow
import Derived.Deep.SlicePairs
import Derived.Lib.SmallJoins
import Derived.Stop.LaidErr
import Derived.MakeChecks
import Derived.Lay
namespace Go.Proofs.Ytopnlcjbklmicaa
open Go.ChangeMaps Go.MakeChecks Go.ChangeShapes Go.WideShapes Go.ChangeAt Go.RowKit Go.Deep Go.Joins
set_option linter.unusedVariables false
set_option linter.unusedSimpArgs false
set_option linter.constructorNameAsVariable false
def LargeTo (ts : List (List Int × List Int)) (w : World) (e : Ending) (w' : World) : Prop := Below w.heap.size w w' ∧ ∃ r, e = .returned (.bool r) ∧ (r = false → ts.length ≤ 12 ∧ ∀ t, t < ts.length → (ts[t]?.getD ([], [])).1.length ≤ 150 ∧ (ts[t]?.getD ([], [])).2.length ≤ 150)
theorem LargeTo.yes {ts : List (List Int × List Int)} {w w' : World} (h : Below w.heap.size w w') : LargeTo ts w (.returned (.bool true)) w' := ⟨h, true, rfl, fun h => by cases h⟩
theorem LargeTo.no {ts : List (List Int × List Int)} {w w' : World} (h : Below w.heap.size w w') (h1 : ts.length ≤ 12) (h2 : ∀ t, t < ts.length → (ts[t]?.getD ([], [])).1.length ≤ 150 ∧ (ts[t]?.getD ([], [])).2.length ≤ 150) : LargeTo ts w (.returned (.bool false)) w' := ⟨h, false, rfl, fun _ => ⟨h1, h2⟩⟩
set_option maxRecDepth 100000 in
set_option maxHeartbeats 4000000 in
theorem large_any (W H : Int) (tv : Value) (ts : List (List Int × List Int)) (w : World) (hs : SrcT w tv ts) :
    Calls Try.prog 30 #[.agg #[.int .i64 W, .int .i64 H, tv]] w (LargeTo ts w) := by
  obtain ⟨a, cap, rfl, hl, hp⟩ := hs
  have A := Blk.new w #[.int .i64 W, .int .i64 H, .slice a ts.length cap] 69
  have B0 := (Below.refl _ w).alloc (Nat.le_refl _) (.cells #[.int .i64 W, .int .i64 H, .slice a ts.length cap] 69)
  have HP := Lib.hid hp
  clear hp
  go_enter Try.func30, Try.ntmps30
  go_wp2_with fail
  obtain ⟨w1, hw1⟩ : ∃ x, w.alloc (.cells #[.int .i64 W, .int .i64 H, .slice a ts.length cap] 69) = x := ⟨_, rfl⟩
  rw [hw1] at A B0 ⊢
  clear hw1
  have HB := Lib.hid B0
  have x2 := A.cell (i := 2) (v := .slice a ts.length cap) rfl
  clear A B0
  go_loopw [3] (fun i wr => wr = w1 ∧ ∃ k : Nat, k ≤ ts.length ∧ i = .int .i64 k ∧ Hid (∀ t, t < k → (ts[t]?.getD ([], [])).1.length ≤ 150 ∧ (ts[t]?.getD ([], [])).2.length ≤ 150)) (fun i _ => ts.length - (intOf i).toNat)
  case atStart => exact ⟨rfl, 0, Nat.zero_le _, rfl, Lib.hid (fun t ht => by omega)⟩
  case round =>
    obtain ⟨rfl, k, hk, rfl, HL⟩ := hrel
    by_cases hlt : k < ts.length
    · obtain ⟨b, off, rfl, hbb, vc, vw, c1, c2, s1, s2⟩ := HP.out k hlt
      have c1 := (HB.out.cell (p := ⟨b, _, none⟩) hbb).trans c1
      have c2 := (HB.out.cell (p := ⟨b, _, none⟩) hbb).trans c2
      obtain ⟨ac, cc, rfl⟩ := s1.shape
      obtain ⟨aw, cw, rfl⟩ := s2.shape
      have hll1 := s1.1
      have hll2 := s2.1
      clear s1 s2
      obtain ⟨n1, hn1⟩ : ∃ n, (ts[k]?.getD ([], [])).1.length = n := ⟨_, rfl⟩
      obtain ⟨n2, hn2⟩ : ∃ n, (ts[k]?.getD ([], [])).2.length = n := ⟨_, rfl⟩
      rw [hn1] at c1 hll1
      rw [hn2] at c2 hll2
      have HN := Lib.hid (And.intro hn1 hn2)
      clear hn1 hn2
      have hki : (0 : Int) ≤ (k : Int) := by omega
      have hkl : (k : Int) < (ts.length : Int) := by omega
      by_cases h1 : 150 < n1
      · have h1i : (150 : Int) < (n1 : Int) := by omega
        go_wp2_with fail
        go_ret
        exact LargeTo.yes HB.out
      · have h1i : ¬ (150 : Int) < (n1 : Int) := by omega
        by_cases h2 : 150 < n2
        · have h2i : (150 : Int) < (n2 : Int) := by omega
          go_wp2_with fail
          go_ret
          exact LargeTo.yes HB.out
        · have h2i : ¬ (150 : Int) < (n2 : Int) := by omega
          have HL2 : Hid (∀ t, t < k + 1 → (ts[t]?.getD ([], [])).1.length ≤ 150 ∧ (ts[t]?.getD ([], [])).2.length ≤ 150) := Lib.hid fun t ht => by
            rcases Nat.lt_or_ge t k with h | h
            · exact HL.out t h
            · obtain rfl : t = k := by omega
              exact ⟨by rw [HN.out.1]; omega, by rw [HN.out.2]; omega⟩
          go_wp2
          go_roundw
          case rel => exact ⟨trivial, k + 1, by omega, by go_num, HL2⟩
          case measure => simp [intOf]; omega
    · have hke : k = ts.length := by omega
      subst hke
      clear HP
      by_cases h8 : 12 < ts.length
      · have h8i : (12 : Int) < (ts.length : Int) := by omega
        go_wp2_with fail
        go_ret
        exact LargeTo.yes HB.out
      · have h8i : ¬ (12 : Int) < (ts.length : Int) := by omega
        go_wp2_with fail
        go_ret
        exact LargeTo.no HB.out (by omega) HL.out
theorem lowestF_err (n d : Nat) : (lowestF n d).2.2 = 0 ∨ (lowestF n d).2.2 = 10 := by
  unfold lowestF
  split
  · exact .inr rfl
  · exact .inl rfl
theorem addF_err (a b : Nat × Nat) : (addF a b).2 = 0 ∨ (addF a b).2 = 10 := by
  unfold addF
  exact lowestF_err _ _
theorem sumF_err (pr : List (Nat × Nat)) (cs : List Nat) : ∀ acc, (sumF pr cs acc).2 = 0 ∨ (sumF pr cs acc).2 = 10 := by
  induction cs with
  | nil => intro acc; exact .inl rfl
  | cons c cs ih =>
    intro acc
    unfold sumF
    split
    · exact ih _
    · exact addF_err _ _
theorem pressF_err (n d wt c : Nat) : (pressF n d wt c).2.2 = 0 ∨ (pressF n d wt c).2.2 = 10 := by
  unfold pressF
  split
  · exact lowestF_err _ _
  · exact lowestF_err _ _
theorem brickF_err (ts : List (List Int × List Int)) (ti : Nat) (pr : List (Nat × Nat)) (b : Nat) : (brickF ts ti pr b).2.2 = 0 ∨ (brickF ts ti pr b).2.2 = 10 := by
  unfold brickF
  dsimp only
  split
  · exact pressF_err _ _ _ _
  · exact sumF_err _ _ _
theorem passS_err (ts : List (List Int × List Int)) (ti : Nat) (pr : List (Nat × Nat)) (bs : List Nat) : ∀ ls bl, (passS ts ti pr bs ls bl).2.2 = 0 ∨ (passS ts ti pr bs ls bl).2.2 = 10 := by
  induction bs with
  | nil => intro ls bl; exact .inl rfl
  | cons b bs ih =>
    intro ls bl
    unfold passS
    split
    · exact ih _ _
    · exact brickF_err _ _ _ _
theorem loadsS_err (ts : List (List Int × List Int)) (N : Nat) (l : List Nat) : ∀ rows pr, (loadsS ts N l rows pr).2.2 = 0 ∨ (loadsS ts N l rows pr).2.2 = 10 := by
  induction l with
  | nil => intro rows pr; exact .inl rfl
  | cons t l ih =>
    intro rows pr
    unfold loadsS
    split
    · exact ih _ _
    · exact passS_err _ _ _ _ _ _
theorem loadsF_err {ts : List (List Int × List Int)} {N : Nat} (h : (loadsF ts N).2.2 ≠ 0) : (loadsF ts N).2.2 = 10 := by
  rcases loadsS_err ts N (List.range ts.length).reverse (List.replicate ts.length []) (List.replicate N (0, 1)) with h1 | h1
  · exact absurd h1 h
  · exact h1
theorem checkF_err {W H : Int} {ts : List (List Int × List Int)} (h : checkF W H ts ≠ 0) : checkF W H ts = 2 := by
  unfold checkF at h ⊢
  split
  · rename_i h1; rw [if_pos h1] at h; exact absurd rfl h
  · rfl
/-- A copy of ints that came in, into a new row. -/
theorem wpList_copyI {ops : Array Oper} {rest : List Oper} {o : Oper} {a : Act} {W : World} {Q : Exit → Act → World → Prop} (hgd : o.guard = none) (s x : Operand)
    (ho : o.op = .call { callee := .builtin .append, args := #[s, x], argTypes := #[46, 46] }) (base b : Nat) (hs : a.eval s = .slice (some ⟨b, 0, none⟩) 0 0) (hown : IntsR W base (.slice (some ⟨b, 0, none⟩) 0 0) [])
    (l : List Int) (v : Value) (hx : a.eval x = v) (hsrc : SrcI W v l) (hl : l.length ≤ 1000) (hbase : base ≤ W.heap.size)
    (h : ∀ v' W', IntsR W' base v' l → W.grownBy W' (some b) → wpList Try.prog ops Q rest (a.put o.dst v') W') : wpList Try.prog ops Q (o :: rest) a W := by
  obtain ⟨i0, hi, hz0, hz1, hz2⟩ := info_parts infoInt
  have hgen : ∀ ad c, v = .slice (some ad) l.length c → (∀ j u, (iM l)[j]? = some u → W.cell? (ad.add j) = some u) → wpList Try.prog ops Q (o :: rest) a W := fun ad c hv hn =>
    wpList_append_own_at W hgd s x 46 ho base 3 i0 (.int .i64 0) 1 8 undInts hi hz0 hz1 hz2 rfl (by decide) (.slice (some ⟨b, 0, none⟩) 0 0) 0 [] hs hown ad l.length c (iM l) (by rw [hx, hv]) (by simp [iM]) hn (fun u hu => by obtain ⟨x, _, rfl⟩ := List.mem_map.1 hu; rfl) (by unfold maxLen; omega) (by omega) hbase
      (fun v' W' h1 h2 _ h4 => by rw [Nat.zero_add, List.nil_append] at h1; exact h v' W' h1 h2)
  obtain ⟨h0, ⟨rfl, rfl⟩ | ⟨ad, c, rfl, rfl⟩ | ⟨b', off, c, rfl, hc, hb, hC⟩⟩ := hsrc
  · exact wpList_append_own_none hgd s x 46 ho base 3 i0 1 undInts hi (.slice (some ⟨b, 0, none⟩) 0 0) 0 [] hs hown hx (h _ _ hown ⟨rfl, rfl, rfl, Nat.le_refl _, fun _ _ _ => rfl⟩)
  · exact hgen ad c rfl (fun j u hj => by simp [iM] at hj)
  · refine hgen _ c rfl fun j u hj => ?_
    have hlt : j < l.length := by simpa [iM] using (List.getElem?_eq_some_iff.1 hj).1
    rw [addr_addT, hC j hlt, ← hj]
    simp [iM, hlt]
/-- A new row of ints. -/
theorem intsR_new (w : World) (b : Nat) (hb : w.heap.size = b) : IntsR (w.alloc (.cells #[] 3)) b (.slice (some ⟨b, 0, none⟩) 0 0) [] := by
  subst hb
  exact World.ownsRow_lit (base := w.heap.size) (e := 3) (size := 1) w #[] 0 (Nat.le_refl _) (by simp) (by simp)
/-- What Crushed hands back, in numbers. -/
def CrushR (W H : Int) (ts : List (List Int × List Int)) (bears : List Int) (x y er : Int) : Prop :=
  (checkF W H ts ≠ 0 ∧ x = 0 ∧ y = 0 ∧ er = 2) ∨
  (checkF W H ts = 0 ∧ bears.length ≠ ts.length ∧ x = 0 ∧ y = 0 ∧ er = 4) ∨
  (checkF W H ts = 0 ∧ bears.length = ts.length ∧ (bears.all fun n => inB n 0 1000000) = false ∧ x = 0 ∧ y = 0 ∧ er = 3) ∨
  (checkF W H ts = 0 ∧ bears.length = ts.length ∧ (bears.all fun n => inB n 0 1000000) = true ∧ ∃ r, FirstB ts (hangP ts) r ∧
     ((r ≠ none ∧ x = 0 ∧ y = 0 ∧ er = 80) ∨ (r = none ∧ (loadsF ts (W * H).toNat).2.2 ≠ 0 ∧ x = 0 ∧ y = 0 ∧ er = 10) ∨
      (r = none ∧ (loadsF ts (W * H).toNat).2.2 = 0 ∧ ∃ q, FirstB ts (crushP ts (loadsF ts (W * H).toNat).1 bears) q ∧ x = bT q ∧ y = bB q ∧ er = 0)))
theorem crushTo_parts {w w' : World} {W H : Int} {ts : List (List Int × List Int)} {bears : List Int} {e : Ending} (h : CrushTo w W H ts bears e w') :
    Below w.heap.size w w' ∧ ∃ x y er, e = .returned (.tuple #[.agg #[.int .i64 x, .int .i64 y], .int .i64 er]) ∧ CrushR W H ts bears x y er := by
  refine ⟨h.1, ?_⟩
  rcases h.2 with ⟨h1, rfl⟩ | ⟨h1, h2, rfl⟩ | ⟨h1, h2, h3, rfl⟩ | ⟨h1, h2, h3, r, hf, ⟨h4, rfl⟩ | ⟨h4, h5, rfl⟩ | ⟨h4, h5, q, hq, rfl⟩⟩
  · exact ⟨0, 0, _, rfl, .inl ⟨h1, rfl, rfl, checkF_err h1⟩⟩
  · exact ⟨0, 0, 4, rfl, .inr (.inl ⟨h1, h2, rfl, rfl, rfl⟩)⟩
  · exact ⟨0, 0, 3, rfl, .inr (.inr (.inl ⟨h1, h2, h3, rfl, rfl, rfl⟩))⟩
  · exact ⟨0, 0, 80, rfl, .inr (.inr (.inr ⟨h1, h2, h3, r, hf, .inl ⟨h4, rfl, rfl, rfl⟩⟩))⟩
  · exact ⟨0, 0, _, rfl, .inr (.inr (.inr ⟨h1, h2, h3, r, hf, .inr (.inl ⟨h4, h5, rfl, rfl, loadsF_err h5⟩)⟩))⟩
  · exact ⟨bT q, bB q, 0, by rw [brickV_eq], .inr (.inr (.inr ⟨h1, h2, h3, r, hf, .inr (.inr ⟨h4, h5, q, hq, rfl, rfl, rfl⟩)⟩))⟩
theorem CrushR.arg {W H : Int} {ts : List (List Int × List Int)} {bears : List Int} {x y er : Int} (h : CrushR W H ts bears x y er) (hc : checkF W H ts ≠ 0) : x = 0 ∧ y = 0 ∧ er = 2 := by
  rcases h with ⟨_, h⟩ | ⟨h, _⟩ | ⟨h, _⟩ | ⟨h, _⟩
  · exact h
  · exact absurd h hc
  · exact absurd h hc
  · exact absurd h hc
theorem CrushR.form {W H : Int} {ts : List (List Int × List Int)} {bears : List Int} {x y er : Int} (h : CrushR W H ts bears x y er) (hc : checkF W H ts = 0) (hl : bears.length ≠ ts.length) : x = 0 ∧ y = 0 ∧ er = 4 := by
  rcases h with ⟨h, _⟩ | ⟨_, _, h⟩ | ⟨_, h, _⟩ | ⟨_, h, _⟩
  · exact absurd hc h
  · exact h
  · exact absurd h hl
  · exact absurd h hl
theorem CrushR.bad {W H : Int} {ts : List (List Int × List Int)} {bears : List Int} {x y er : Int} (h : CrushR W H ts bears x y er) (hc : checkF W H ts = 0) (hl : bears.length = ts.length) (hb : (bears.all fun n => inB n 0 1000000) = false) : x = 0 ∧ y = 0 ∧ er = 3 := by
  rcases h with ⟨h, _⟩ | ⟨_, h, _⟩ | ⟨_, _, _, h⟩ | ⟨_, _, h, _⟩
  · exact absurd hc h
  · exact absurd hl h
  · exact h
  · rw [hb] at h; cases h
theorem CrushR.good {W H : Int} {ts : List (List Int × List Int)} {bears : List Int} {x y er : Int} (h : CrushR W H ts bears x y er) (hc : checkF W H ts = 0) (hl : bears.length = ts.length) (hb : (bears.all fun n => inB n 0 1000000) = true) :
    ∃ r, FirstB ts (hangP ts) r ∧
     ((r ≠ none ∧ x = 0 ∧ y = 0 ∧ er = 80) ∨ (r = none ∧ (loadsF ts (W * H).toNat).2.2 ≠ 0 ∧ x = 0 ∧ y = 0 ∧ er = 10) ∨
      (r = none ∧ (loadsF ts (W * H).toNat).2.2 = 0 ∧ ∃ q, FirstB ts (crushP ts (loadsF ts (W * H).toNat).1 bears) q ∧ x = bT q ∧ y = bB q ∧ er = 0)) := by
  rcases h with ⟨h, _⟩ | ⟨_, h, _⟩ | ⟨_, _, h, _⟩ | ⟨_, _, _, h⟩
  · exact absurd hc h
  · exact absurd hl h
  · rw [hb] at h; cases h
  · exact h
/-- What the law wants after the first bears. -/
def BearW (bears : List Int) (k : Nat) (c : Int) : Prop :=
  (c = 0 ∧ ∀ j, j < k → inB (bears[j]?.getD 0) 0 1000000 = true) ∨ (c = 3 ∧ (bears.all fun n => inB n 0 1000000) = false)
theorem BearW.start (bears : List Int) : BearW bears 0 0 := .inl ⟨rfl, fun j hj => by omega⟩
theorem BearW.cases {bears : List Int} {k : Nat} {c : Int} (h : BearW bears k c) : (c = 0 ∧ ∀ j, j < k → inB (bears[j]?.getD 0) 0 1000000 = true) ∨ (c = 3 ∧ (bears.all fun n => inB n 0 1000000) = false) := h
theorem BearW.next {bears : List Int} {k : Nat} {z : Int} (h : ∀ j, j < k → inB (bears[j]?.getD 0) 0 1000000 = true) (hz : bears[k]?.getD 0 = z) (h1 : 0 ≤ z) (h2 : z ≤ 1000000) : BearW bears (k + 1) 0 := by
  refine .inl ⟨rfl, fun j hj => ?_⟩
  rcases Nat.lt_or_ge j k with h3 | h3
  · exact h j h3
  · obtain rfl : j = k := by omega
    rw [hz]
    simp only [inB, Bool.and_eq_true, decide_eq_true_eq]
    exact ⟨h1, h2⟩
theorem BearW.bad {bears : List Int} {j k : Nat} {z : Int} (hj : j < bears.length) (hz : bears[j]?.getD 0 = z) (h : ¬ (0 ≤ z ∧ z ≤ 1000000)) : BearW bears k 3 := by
  refine .inr ⟨rfl, ?_⟩
  rw [List.all_eq_false]
  refine ⟨z, ?_, ?_⟩
  · rw [← hz, List.getElem?_eq_getElem hj]; exact List.getElem_mem hj
  · simp only [inB, Bool.and_eq_true, decide_eq_true_eq]; exact h
theorem all_of {bears : List Int} (h : ∀ j, j < bears.length → inB (bears[j]?.getD 0) 0 1000000 = true) : (bears.all fun n => inB n 0 1000000) = true := by
  rw [List.all_eq_true]
  intro x hx
  obtain ⟨j, hj, rfl⟩ := List.getElem_of_mem hx
  have h1 := h j hj
  rw [List.getElem?_eq_getElem hj] at h1
  exact h1
theorem field_tier (w : World) (a b : Int) : (Instr.field 74 (.agg #[.int .i64 a, .int .i64 b]) 0).run Try.prog w = .ok (.int .i64 a) w := by kernel_rfl
theorem bT_nonneg {r : Option (Nat × Nat)} (h : r ≠ none) : 0 ≤ bT r := by
  cases r with
  | none => exact absurd rfl h
  | some p => exact Int.natCast_nonneg _
set_option maxRecDepth 100000 in
set_option maxHeartbeats 16000000 in
theorem crushes_any (W H : Int) (tv bv : Value) (ts : List (List Int × List Int)) (bears : List Int) (w : World) (hs : SrcT w tv ts) (hb : SrcI w bv bears) :
    Calls Try.prog 7 #[.agg #[.int .i64 W, .int .i64 H, tv], bv] w fun e w' => e = .returned (.bool true) ∧ Below w.heap.size w w' := by
  have HSRC := Lib.hid hs
  have HSB := Lib.hid hb
  have HK := Lib.hid known_any
  obtain ⟨a, cap, rfl, hl, hp⟩ := hs
  obtain ⟨ab, cb, rfl, hlb, hpb⟩ := hb.ints.placed
  have HPB := Lib.hid hpb
  have A := Blk.new w #[.int .i64 W, .int .i64 H, .slice a ts.length cap] 69
  have B0 := (Below.refl _ w).alloc (Nat.le_refl _) (.cells #[.int .i64 W, .int .i64 H, .slice a ts.length cap] 69)
  have x0 := A.cell (i := 0) (v := .int .i64 W) rfl
  have x1 := A.cell (i := 1) (v := .int .i64 H) rfl
  have x2 := A.cell (i := 2) (v := .slice a ts.length cap) rfl
  have HA := Lib.hid A
  have HB := Lib.hid B0
  clear A B0 hp hpb hb
  go_enter Try.func7, Try.ntmps7
  go_wp2_with fail
  refine (large_any W H _ ts _ (HSRC.out.past HB.out)).mono ?_
  rintro e w2 ⟨hb2, r, rfl, hr⟩
  have HB2 := Lib.hid (HB.out.trans (hb2.mono HB.out.size))
  have HA2 := Lib.hid (HA.out.past hb2)
  have HRR := Lib.hid hr
  clear hb2 hr HB HA x0 x1 x2
  cases r
  · obtain ⟨ht12, hss⟩ := HRR.out rfl
    have HSS := Lib.hid hss
    clear HRR hss
    by_cases h15 : 15 < bears.length
    · have h15i : (15 : Int) < (bears.length : Int) := by omega
      go_wp2_with (first | (go_at_call 16; refine (HK.out _).mono ?_; rintro e w99 ⟨rfl, hb99⟩; have HB99 := Lib.hid (HB2.out.trans (hb99.mono HB2.out.size)); clear hb99))
      go_ret
      exact ⟨rfl, HB99.out⟩
    · have h15i : ¬ (15 : Int) < (bears.length : Int) := by omega
      have x0 := HA2.out.cell (i := 0) (v := .int .i64 W) rfl
      have x1 := HA2.out.cell (i := 1) (v := .int .i64 H) rfl
      have x2 := HA2.out.cell (i := 2) (v := .slice a ts.length cap) rfl
      have HOW := Lib.hid (own_any W H _ ts w2 (HSRC.out.past HB2.out) (by omega) (fun i hi => ⟨Nat.le_trans (HSS.out i hi).1 (by decide), Nat.le_trans (HSS.out i hi).2 (by decide)⟩))
      go_wp2_with fail
      refine HOW.out.mono ?_
      rintro e w3 ⟨p2, c2, rfl, ht3, hb3⟩
      have HB3 := Lib.hid (HB2.out.trans (hb3.mono HB2.out.size))
      have HA3 := Lib.hid (HA2.out.past hb3)
      have HT3 := Lib.hid ht3
      clear hb3 ht3 HB2 HA2 HOW x0 x1 x2
      obtain ⟨b3, hb3e⟩ : ∃ x, w3.heap.size = x := ⟨_, rfl⟩
      go_wp2_with (first | (at_builtin; refine stopHere ?_))
      intro _
      have B4 := (Below.refl _ w3).alloc (Nat.le_refl _) (.cells #[] 3)
      refine wpList_copyI rfl _ _ rfl b3 b3 (by rfl) (intsR_new w3 b3 hb3e) bears _ (by rfl) (HSB.out.past (HB3.out.trans (B4.mono HB3.out.size))) (by omega) (by simp; omega) ?_
      intro v4 w4 h4 g4
      have B5 := B4.grown g4 B4.size (fun j hj => by have := Option.some.inj hj; omega)
      have HB4 := Lib.hid (HB3.out.trans (B5.mono HB3.out.size))
      have HA4 := Lib.hid (HA3.out.past B5)
      have HCR := Lib.hid (crushed_any _ W H _ _ ts bears w4 (HT3.out.past B5) (h4.ints (by omega)))
      clear B4 B5 h4 g4 hb3e HB3 HA3 HT3
      go_wp2_with fail
      refine HCR.out.mono ?_
      intro e w5 hC
      obtain ⟨hb5, x, y, er, rfl, hR⟩ := crushTo_parts hC
      have HB5 := Lib.hid (HB4.out.trans (hb5.mono HB4.out.size))
      have HA5 := Lib.hid (HA4.out.past hb5)
      have HRX := Lib.hid hR
      clear hC hb5 hR HB4 HA4 HCR
      obtain ⟨b6, hb6⟩ : ∃ x, w5.heap.size = x := ⟨_, rfl⟩
      have B6 := (Below.refl _ w5).alloc (Nat.le_refl _) (.cells #[.int .i64 x, .int .i64 y] 74)
      have HC6 := Lib.hid (Blk.newI w5 b6 #[.int .i64 x, .int .i64 y] 74 hb6)
      have HB6 := Lib.hid (HB5.out.trans (B6.mono HB5.out.size))
      have HA6 := Lib.hid (HA5.out.past B6)
      clear B6 HB5 HA5
      have x0 := HA6.out.cell (i := 0) (v := .int .i64 W) rfl
      have x1 := HA6.out.cell (i := 1) (v := .int .i64 H) rfl
      have x2 := HA6.out.cell (i := 2) (v := .slice a ts.length cap) rfl
      go_wp2_with fail
      obtain ⟨w6, hz⟩ : ∃ u, w5.alloc (.cells #[.int .i64 x, .int .i64 y] 74) = u := ⟨_, rfl⟩
      rw [hz] at HC6 HB6 HA6 x0 x1 x2 ⊢
      clear hz hb6
      refine (refStack_any W H _ ts w6 (HSRC.out.past HB6.out) (fun i hi => ⟨Nat.le_trans (HSS.out i hi).1 (by decide), Nat.le_trans (HSS.out i hi).2 (by decide)⟩)).mono ?_
      rintro e w7 ⟨rfl, hb7⟩
      have HB7 := Lib.hid (HB6.out.trans (hb7.mono HB6.out.size))
      have HA7 := Lib.hid (HA6.out.past hb7)
      have HC7 := Lib.hid (HC6.out.past hb7)
      have HBQ := HB7
      clear hb7 HB6 HA6 HC6 x0 x1 x2
      have x0 := HA7.out.cell (i := 0) (v := .int .i64 W) rfl
      have x1 := HA7.out.cell (i := 1) (v := .int .i64 H) rfl
      have x2 := HA7.out.cell (i := 2) (v := .slice a ts.length cap) rfl
      have n0 := HC7.out.cell (i := 0) (v := .int .i64 x) rfl
      have n1 := HC7.out.cell (i := 1) (v := .int .i64 y) rfl
      have hR := HRX.out
      clear HRX
      obtain ⟨c0, hc0⟩ : ∃ r, decide (checkF W H ts = 0) = r := ⟨_, rfl⟩
      rw [hc0]
      cases c0
      · obtain ⟨rfl, rfl, rfl⟩ := hR.arg (of_decide_eq_false hc0)
        clear hR hc0 HPB HSS
        go_wp2_with fail
        go_loopw [7, 8] (fun s7 s8 wr => wr = w7 ∧ s7 = .int .i64 2 ∧ s8 = .int .i64 0) (fun _ _ _ => 0)
        case atStart => exact ⟨rfl, rfl, rfl⟩
        case round =>
          obtain ⟨rfl, rfl, rfl⟩ := hrel
          by_cases h0 : 0 < bears.length
          · have h0i : (0 : Int) < (bears.length : Int) := by omega
            go_wp2_with (first | (go_at_call 16; refine (HK.out _).mono ?_; rintro e w99 ⟨rfl, hb99⟩; have HB99 := Lib.hid (HBQ.out.trans (hb99.mono HBQ.out.size)); clear hb99))
            go_ret
            exact ⟨rfl, HB99.out⟩
          · have h0i : ¬ (0 : Int) < (bears.length : Int) := by omega
            go_wp2_with (first | (go_at_call 16; refine (HK.out _).mono ?_; rintro e w99 ⟨rfl, hb99⟩; have HB99 := Lib.hid (HBQ.out.trans (hb99.mono HBQ.out.size)); clear hb99))
            go_ret
            exact ⟨rfl, HB99.out⟩
      · have hck : checkF W H ts = 0 := of_decide_eq_true hc0
        clear hc0
        by_cases hlen : bears.length = ts.length
        · have hnei : ((bears.length : Int) != (ts.length : Int)) = false := by simp [hlen]
          have HLEN := Lib.hid hlen
          clear hlen
          go_wp2_with fail
          clear hnei
          go_loopw [7, 8] (fun s7 s8 wr => wr = w7 ∧ ∃ (k : Nat) (c : Int), k ≤ bears.length ∧ s8 = .int .i64 k ∧ s7 = .int .i64 c ∧ Hid (BearW bears k c)) (fun _ s8 _ => bears.length - (intOf s8).toNat)
          case atStart => exact ⟨rfl, 0, 0, Nat.zero_le _, rfl, rfl, Lib.hid (BearW.start bears)⟩
          case round =>
            obtain ⟨rfl, k, c, hk, rfl, rfl, HBW⟩ := hrel
            by_cases hlt : k < bears.length
            · have hki : (0 : Int) ≤ (k : Int) := by omega
              have hkl : (k : Int) < (bears.length : Int) := by omega
              rcases HBW.out.cases with ⟨rfl, HJ⟩ | ⟨rfl, HJ⟩
              · obtain ⟨bb, boff, rfl, hbb, u1⟩ := HPB.out k hlt
                obtain ⟨z, hz⟩ : ∃ z, bears[k]?.getD 0 = z := ⟨_, rfl⟩
                rw [hz] at u1
                have u1 := (HB7.out.cell (p := ⟨bb, _, none⟩) hbb).trans u1
                have HZ := Lib.hid hz
                have HJH := Lib.hid HJ
                clear hz HJ
                by_cases hneg : z < 0
                · have HBW2 := Lib.hid (BearW.bad (k := k + 1) hlt HZ.out (fun h => absurd h.1 (by omega)))
                  clear HBW HJH
                  go_wp2
                  go_roundw
                  case rel => exact ⟨trivial, k + 1, 3, hlt, by go_num, rfl, HBW2⟩
                  case measure => simp [intOf]; omega
                · by_cases hbig : 1000000 < z
                  · have HBW2 := Lib.hid (BearW.bad (k := k + 1) hlt HZ.out (fun h => absurd h.2 (by omega)))
                    clear HBW HJH
                    go_wp2
                    go_roundw
                    case rel => exact ⟨trivial, k + 1, 3, hlt, by go_num, rfl, HBW2⟩
                    case measure => simp [intOf]; omega
                  · have HBW2 := Lib.hid (BearW.next HJH.out HZ.out (by omega) (by omega))
                    clear HBW HJH
                    go_wp2
                    go_roundw
                    case rel => exact ⟨trivial, k + 1, 0, hlt, by go_num, rfl, HBW2⟩
                    case measure => simp [intOf]; omega
              · obtain ⟨rfl, rfl, rfl⟩ := hR.bad hck HLEN.out HJ
                clear HBW HJ hR hck HLEN
                go_wp2_with (first | (go_at_call 16; refine (HK.out _).mono ?_; rintro e w99 ⟨rfl, hb99⟩; have HB99 := Lib.hid (HBQ.out.trans (hb99.mono HBQ.out.size)); clear hb99))
                go_ret
                exact ⟨rfl, HB99.out⟩
            · have hke : k = bears.length := by omega
              subst hke
              rcases HBW.out.cases with ⟨rfl, HJ⟩ | ⟨rfl, HJ⟩
              · obtain ⟨r, hf, hR4⟩ := hR.good hck HLEN.out (all_of HJ)
                have HALL := Lib.hid (all_of HJ)
                have HF := Lib.hid hf
                have HCK := Lib.hid hck
                have HR4 := Lib.hid hR4
                have hv := stackV_of hck
                have HV := Lib.hid hv
                have HHG := Lib.hid (refHangs_any W H _ ts _ wr (HSRC.out.past HB7.out) hv)
                clear HBW HJ hR hck hf hR4 hv HPB
                go_wp2_with fail
                refine HHG.out.mono ?_
                rintro e w8 ⟨r', hf', rfl, hb8⟩
                obtain rfl := firstB_unique hf' HF.out
                have HB8 := Lib.hid (HB7.out.trans (hb8.mono HB7.out.size))
                have HA8 := Lib.hid (HA7.out.past hb8)
                have HC8 := Lib.hid (HC7.out.past hb8)
                have HBQ8 := HB8
                clear hb8 hf' HHG HB7 HBQ HA7 HC7 x0 x1 x2 n0 n1
                have x0 := HA8.out.cell (i := 0) (v := .int .i64 W) rfl
                have x1 := HA8.out.cell (i := 1) (v := .int .i64 H) rfl
                have x2 := HA8.out.cell (i := 2) (v := .slice a ts.length cap) rfl
                have n0 := HC8.out.cell (i := 0) (v := .int .i64 x) rfl
                have n1 := HC8.out.cell (i := 1) (v := .int .i64 y) rfl
                have hfl := field_tier
                rcases HR4.out with ⟨h4, rfl, rfl, rfl⟩ | ⟨rfl, h5, rfl, rfl, rfl⟩ | ⟨rfl, h5, q, hq, hx, hy, rfl⟩
                · have hge := bT_nonneg h4
                  obtain ⟨tt, htt⟩ : ∃ t, bT r' = t := ⟨_, rfl⟩
                  rw [htt] at hge ⊢
                  clear htt h4 HR4 HF
                  go_wp2_with (first | (go_at_call 16; refine (HK.out _).mono ?_; rintro e w99 ⟨rfl, hb99⟩; have HB99 := Lib.hid (HBQ8.out.trans (hb99.mono HBQ8.out.size)); clear hb99))
                  go_ret
                  exact ⟨rfl, HB99.out⟩
                · have hbt : bT none = -1 := rfl
                  rw [hbt]
                  have HLD := Lib.hid (refLoads_any W H _ ts _ w8 (HSRC.out.past HB8.out) HCK.out HF.out HV.out)
                  have H5 := Lib.hid h5
                  clear hbt h5 HR4
                  go_wp2_with fail
                  refine HLD.out.mono ?_
                  rintro e w9 ⟨hb9, ⟨_, rfl⟩ | ⟨h6, _⟩⟩
                  · have HB9 := Lib.hid (HB8.out.trans (hb9.mono HB8.out.size))
                    have HC9 := Lib.hid (HC8.out.past hb9)
                    clear hb9 HLD HB8 HBQ8 HA8 HC8 x0 x1 x2 n0 n1
                    have n0 := HC9.out.cell (i := 0) (v := .int .i64 0) rfl
                    have n1 := HC9.out.cell (i := 1) (v := .int .i64 0) rfl
                    go_wp2_with (first | (go_at_call 16; refine (HK.out _).mono ?_; rintro e w99 ⟨rfl, hb99⟩; have HB99 := Lib.hid (HB9.out.trans (hb99.mono HB9.out.size)); clear hb99))
                    go_ret
                    exact ⟨rfl, HB99.out⟩
                  · exact absurd h6 H5.out
                · have hbt : bT none = -1 := rfl
                  rw [hbt]
                  have HLD := Lib.hid (refLoads_any W H _ ts _ w8 (HSRC.out.past HB8.out) HCK.out HF.out HV.out)
                  have H5 := Lib.hid h5
                  have HQ := Lib.hid hq
                  have HXY := Lib.hid (And.intro hx.symm hy.symm)
                  obtain ⟨b9, hb9e⟩ : ∃ x, w8.heap.size = x := ⟨_, rfl⟩
                  have HB9E := Lib.hid hb9e
                  clear hbt h5 HR4 hq hx hy hb9e
                  go_wp2_with fail
                  refine HLD.out.mono ?_
                  rintro e w9 ⟨hb9, ⟨h6, _⟩ | ⟨_, gb, g, rfl, hrows, _⟩⟩
                  · exact absurd H5.out h6
                  · have HB9 := Lib.hid (HB8.out.trans (hb9.mono HB8.out.size))
                    have HC9 := Lib.hid (HC8.out.past hb9)
                    have HA9 := Lib.hid (HA8.out.past hb9)
                    have HRW := Lib.hid hrows
                    clear hb9 HLD HB8 HBQ8 HA8 HC8 x0 x1 x2 n0 n1 hrows
                    obtain ⟨N, hN⟩ : ∃ n, (W * H).toNat = n := ⟨_, rfl⟩
                    obtain ⟨⟨rows, fl, er⟩, hlo⟩ : ∃ L, loadsF ts (W * H).toNat = L := ⟨_, rfl⟩
                    have her := H5.out
                    rw [hlo] at her
                    dsimp only at her
                    subst her
                    have HRW2 : Hid (RowsAt w9 w8.heap.size gb rows) := Lib.hid (by have h := HRW.out; rw [hlo] at h; exact h)
                    have HQ2 : Hid (FirstB ts (crushP ts rows bears) q) := Lib.hid (by have h := HQ.out; rw [hlo] at h; exact h)
                    have HCN := Lib.hid (crushN_of HCK.out HF.out hlo HLEN.out HALL.out)
                    clear hlo hN HRW HQ H5
                    go_wp2_with fail
                    refine region_plain (fun X => X.cell? ⟨b6, 0, none⟩ = some (.int .i64 x) ∧ X.cell? ⟨b6, 1, none⟩ = some (.int .i64 y) ∧ X.cell? ⟨w.heap.size, 0, none⟩ = some (.int .i64 W) ∧ X.cell? ⟨w.heap.size, 1, none⟩ = some (.int .i64 H) ∧ X.cell? ⟨w.heap.size, 2, none⟩ = some (.slice a ts.length cap)) 14 #[false, false, false, false, false, false, false, false, false, false, false, false, false, false] rfl rfl (by kernel_rfl) ?_
                    obtain ⟨v1, hv1⟩ : ∃ x, w9.drew = x := ⟨_, rfl⟩
                    have hB1 : Below w9.heap.size w9 v1 := by rw [← hv1]; exact (Below.refl _ _).drew
                    have hC1 := HC9.out.past hB1
                    have hA1 := HA9.out.past hB1
                    rw [hv1]
                    clear hv1
                    have HBV := Lib.hid (HB9.out.trans (hB1.mono HB9.out.size))
                    have HRV := Lib.hid (HRW2.out.past hB1)
                    have HS : Hid (∀ X, Below v1.heap.size v1 X → X.cell? ⟨b6, 0, none⟩ = some (.int .i64 x) ∧ X.cell? ⟨b6, 1, none⟩ = some (.int .i64 y) ∧ X.cell? ⟨w.heap.size, 0, none⟩ = some (.int .i64 W) ∧ X.cell? ⟨w.heap.size, 1, none⟩ = some (.int .i64 H) ∧ X.cell? ⟨w.heap.size, 2, none⟩ = some (.slice a ts.length cap)) := Lib.hid fun X hX => ⟨(hC1.past hX).cell (i := 0) rfl, (hC1.past hX).cell (i := 1) rfl, (hA1.past hX).cell (i := 0) rfl, (hA1.past hX).cell (i := 1) rfl, (hA1.past hX).cell (i := 2) rfl⟩
                    have hSS := HS.out v1 (Below.refl _ _)
                    have HCR := Lib.hid (refCrushed_any gb w8.heap.size W H _ _ ts rows bears _ v1 (HSRC.out.past HBV.out) HCN.out HRV.out (HSB.out.past HBV.out).ints HV.out.t10 HV.out.few)
                    clear hB1 hC1 hA1 HC9 HA9 HB9 HRW2
                    refine take_first (i := 0) (v := ?_) rfl (by kernel_rfl) (by kernel_rfl) (by kernel_rfl) (fun _ _ _ h => h) (by rfl) (by assumption) ?_ ?_
                    rotate_left 1
                    · intro X hSX
                      (try dsimp only at hSX)
                      first | (go_simp; done) | (go_simp; with_reducible rfl)
                    try simp only [Act.put, List.setIfInBounds_toArray, List.set_cons_zero, List.set_cons_succ]
                    refine take_first (i := 1) (v := ?_) rfl (by kernel_rfl) (by kernel_rfl) (by kernel_rfl) (fun _ _ _ h => h) (by rfl) (by assumption) ?_ ?_
                    rotate_left 1
                    · intro X hSX
                      (try dsimp only at hSX)
                      first | (go_simp; done) | (go_simp; with_reducible rfl)
                    try simp only [Act.put, List.setIfInBounds_toArray, List.set_cons_zero, List.set_cons_succ]
                    refine take_first (i := 2) (v := ?_) rfl (by kernel_rfl) (by kernel_rfl) (by kernel_rfl) (fun _ _ _ h => h) (by rfl) (by assumption) ?_ ?_
                    rotate_left 1
                    · intro X hSX
                      (try dsimp only at hSX)
                      first | (go_simp; done) | (go_simp; with_reducible rfl)
                    try simp only [Act.put, List.setIfInBounds_toArray, List.set_cons_zero, List.set_cons_succ]
                    refine take_first (i := 3) (v := ?_) rfl (by kernel_rfl) (by kernel_rfl) (by kernel_rfl) (fun _ _ _ h => h) (by rfl) (by assumption) ?_ ?_
                    rotate_left 1
                    · intro X hSX
                      (try dsimp only at hSX)
                      first | (go_simp; done) | (go_simp; with_reducible rfl)
                    try simp only [Act.put, List.setIfInBounds_toArray, List.set_cons_zero, List.set_cons_succ]
                    refine take_first (i := 4) (v := ?_) rfl (by kernel_rfl) (by kernel_rfl) (by kernel_rfl) (fun _ _ _ h => h) (by rfl) (by assumption) ?_ ?_
                    rotate_left 1
                    · intro X hSX
                      (try dsimp only at hSX)
                      first | (go_simp; done) | (go_simp; with_reducible rfl)
                    try simp only [Act.put, List.setIfInBounds_toArray, List.set_cons_zero, List.set_cons_succ]
                    refine take_first (i := 5) (v := ?_) rfl (by kernel_rfl) (by kernel_rfl) (by kernel_rfl) (fun _ _ _ h => h) (by rfl) (by assumption) ?_ ?_
                    rotate_left 1
                    · intro X hSX
                      (try dsimp only at hSX)
                      first | (go_simp; done) | (go_simp; with_reducible rfl)
                    try simp only [Act.put, List.setIfInBounds_toArray, List.set_cons_zero, List.set_cons_succ]
                    refine take_first (i := 6) (v := ?_) rfl (by kernel_rfl) (by kernel_rfl) (by kernel_rfl) (fun _ _ _ h => h) (by rfl) (by assumption) ?_ ?_
                    rotate_left 1
                    · intro X hSX
                      (try dsimp only at hSX)
                      first | (go_simp; done) | (go_simp; with_reducible rfl)
                    try simp only [Act.put, List.setIfInBounds_toArray, List.set_cons_zero, List.set_cons_succ]
                    refine only_one (i := 7) (by kernel_rfl) rfl (by rfl) ?_
                    intro K hK
                    go_simp
                    refine HCR.out.mono ?_
                    rintro e v2 ⟨q', hq', rfl, hb2⟩
                    obtain rfl := firstB_unique hq' HQ2.out
                    rw [HXY.out.1, HXY.out.2]
                    have HB2 := Lib.hid (HBV.out.trans (hb2.mono HBV.out.size))
                    have hSS := HS.out v2 hb2
                    have HB2L := Lib.hid hb2
                    clear hb2 hq'
                    refine hK.out _ _ hSS ?_
                    clear hK K
                    try simp only [Act.put, List.setIfInBounds_toArray, List.set_cons_zero, List.set_cons_succ]
                    refine take_first (i := 8) (v := ?_) rfl (by kernel_rfl) (by kernel_rfl) (by kernel_rfl) (fun _ _ _ h => h) (by rfl) (by assumption) ?_ ?_
                    rotate_left 1
                    · intro X hSX
                      (try dsimp only at hSX)
                      first | (go_simp; done) | (go_simp; with_reducible rfl)
                    try simp only [Act.put, List.setIfInBounds_toArray, List.set_cons_zero, List.set_cons_succ]
                    refine take_first (i := 9) (v := ?_) rfl (by kernel_rfl) (by kernel_rfl) (by kernel_rfl) (fun _ _ _ h => h) (by rfl) (by assumption) ?_ ?_
                    rotate_left 1
                    · intro X hSX
                      (try dsimp only at hSX)
                      first | (go_simp; done) | (go_simp; with_reducible rfl)
                    try simp only [Act.put, List.setIfInBounds_toArray, List.set_cons_zero, List.set_cons_succ]
                    refine take_first (i := 10) (v := ?_) rfl (by kernel_rfl) (by kernel_rfl) (by kernel_rfl) (fun _ _ _ h => h) (by rfl) (by assumption) ?_ ?_
                    rotate_left 1
                    · intro X hSX
                      (try dsimp only at hSX)
                      first | (go_simp; done) | (go_simp; with_reducible rfl)
                    try simp only [Act.put, List.setIfInBounds_toArray, List.set_cons_zero, List.set_cons_succ]
                    refine only_one (i := 11) (by kernel_rfl) rfl (by rfl) ?_
                    intro K hK
                    go_simp
                    refine (HK.out _).mono ?_
                    rintro e v3 ⟨rfl, hb3⟩
                    have HB3 := Lib.hid (HB2.out.trans (hb3.mono HB2.out.size))
                    have hSS := HS.out v3 (HB2L.out.trans (hb3.mono HB2L.out.size))
                    clear hb3
                    refine hK.out _ _ hSS ?_
                    clear hK K
                    try simp only [Act.put, List.setIfInBounds_toArray, List.set_cons_zero, List.set_cons_succ]
                    refine take_first (i := 12) (v := ?_) rfl (by kernel_rfl) (by kernel_rfl) (by kernel_rfl) (fun _ _ _ h => h) (by rfl) (by assumption) ?_ ?_
                    rotate_left 1
                    · intro X hSX
                      (try dsimp only at hSX)
                      first | (go_simp; done) | (go_simp; with_reducible rfl)
                    try simp only [Act.put, List.setIfInBounds_toArray, List.set_cons_zero, List.set_cons_succ]
                    refine only_one (i := 13) (by kernel_rfl) rfl (by rfl) ?_
                    intro K hK
                    go_simp
                    refine hK.out _ _ hSS ?_
                    clear hK K
                    try simp only [Act.put, List.setIfInBounds_toArray, List.set_cons_zero, List.set_cons_succ]
                    refine wpAnyH_done (by kernel_rfl) ?_ _
                    clear hSS
                    go_wp2_with fail
                    go_ret
                    exact ⟨rfl, HB3.out⟩
              · obtain ⟨rfl, rfl, rfl⟩ := hR.bad hck HLEN.out HJ
                clear HBW HJ hR hck HLEN
                go_wp2_with (first | (go_at_call 16; refine (HK.out _).mono ?_; rintro e w99 ⟨rfl, hb99⟩; have HB99 := Lib.hid (HBQ.out.trans (hb99.mono HBQ.out.size)); clear hb99))
                go_ret
                exact ⟨rfl, HB99.out⟩
        · obtain ⟨rfl, rfl, rfl⟩ := hR.form hck hlen
          have hnei : ((bears.length : Int) != (ts.length : Int)) = true := by simp; omega
          clear hR hck HPB HSS
          go_wp2_with fail
          go_loopw [7, 8] (fun s7 s8 wr => wr = w7 ∧ s7 = .int .i64 4 ∧ s8 = .int .i64 0) (fun _ _ _ => 0)
          case atStart => exact ⟨rfl, rfl, rfl⟩
          case round =>
            obtain ⟨rfl, rfl, rfl⟩ := hrel
            by_cases h0 : 0 < bears.length
            · have h0i : (0 : Int) < (bears.length : Int) := by omega
              go_wp2_with (first | (go_at_call 16; refine (HK.out _).mono ?_; rintro e w99 ⟨rfl, hb99⟩; have HB99 := Lib.hid (HBQ.out.trans (hb99.mono HBQ.out.size)); clear hb99))
              go_ret
              exact ⟨rfl, HB99.out⟩
            · have h0i : ¬ (0 : Int) < (bears.length : Int) := by omega
              go_wp2_with (first | (go_at_call 16; refine (HK.out _).mono ?_; rintro e w99 ⟨rfl, hb99⟩; have HB99 := Lib.hid (HBQ.out.trans (hb99.mono HBQ.out.size)); clear hb99))
              go_ret
              exact ⟨rfl, HB99.out⟩
  · clear HRR
    go_wp2_with (first | (go_at_call 16; refine (HK.out _).mono ?_; rintro e w99 ⟨rfl, hb99⟩; have HB99 := Lib.hid (HB2.out.trans (hb99.mono HB2.out.size)); clear hb99))
    go_ret
    exact ⟨rfl, HB99.out⟩
def HangsTo (w : World) (W H : Int) (ts : List (List Int × List Int)) (e : Ending) (w' : World) : Prop :=
  Below w.heap.size w w' ∧
  ((checkF W H ts ≠ 0 ∧ e = .returned (.tuple #[.agg #[.int .i64 0, .int .i64 0], .int .i64 (checkF W H ts)])) ∨
   (checkF W H ts = 0 ∧ ∃ r, FirstB ts (hangP ts) r ∧ e = .returned (.tuple #[.agg #[.int .i64 (bT r), .int .i64 (bB r)], .int .i64 0])))
set_option maxHeartbeats 2000000 in
theorem kHangs_any (n₀ : Nat) (W H : Int) (tv : Value) (ts : List (List Int × List Int)) (w : World) (ht : TiersAt n₀ w tv ts) :
    Calls Try.prog 33 #[.agg #[.int .i64 W, .int .i64 H, tv]] w (HangsTo w W H ts) := by
  obtain ⟨a, cap, rfl, hl, hn, hp⟩ := ht.placed
  have A1 := (Blk.new w #[.int .i64 W, .int .i64 H, .slice a ts.length cap] 69).alloc (.cells #[.int .i64 0, .int .i64 0] 74)
  have A3 := Blk.newI (w.alloc (.cells #[.int .i64 W, .int .i64 H, .slice a ts.length cap] 69)) (w.heap.size + 1) #[.int .i64 0, .int .i64 0] 74 (by simp)
  have BB := ((Below.refl _ w).alloc (Nat.le_refl _) (.cells #[.int .i64 W, .int .i64 H, .slice a ts.length cap] 69)).alloc (by simp) (.cells #[.int .i64 0, .int .i64 0] 74)
  have s0 := A1.cell (i := 0) (v := .int .i64 W) rfl
  have s1 := A1.cell (i := 1) (v := .int .i64 H) rfl
  have s2 := A1.cell (i := 2) (v := .slice a ts.length cap) rfl
  have HC := Lib.hid (checkStack_any n₀ W H _ ts _ (ht.past BB))
  obtain ⟨er, her⟩ : ∃ er, checkF W H ts = er := ⟨_, rfl⟩
  rw [her] at HC
  have HE := Lib.hid her
  have HT := Lib.hid ht
  have HA1 := Lib.hid A1
  have HA3 := Lib.hid A3
  have HBB := Lib.hid BB
  clear A1 A3 BB ht hp her
  go_enter Try.func33, Try.ntmps33
  go_wp2_with fail
  refine HC.out.mono ?_
  rintro e w2 ⟨rfl, hb2⟩
  have S2 := HA1.out.past hb2
  have R2 := HA3.out.past hb2
  have HB2 := Lib.hid (HBB.out.trans (hb2.mono HBB.out.size))
  clear hb2 HA1 HA3 HBB HC s0 s1 s2
  have HR2 := Lib.hid R2
  have s0 := S2.cell (i := 0) (v := .int .i64 W) rfl
  have s1 := S2.cell (i := 1) (v := .int .i64 H) rfl
  have s2 := S2.cell (i := 2) (v := .slice a ts.length cap) rfl
  have r0 := R2.cell (i := 0) (v := .int .i64 0) rfl
  have r1 := R2.cell (i := 1) (v := .int .i64 0) rfl
  have f0 := R2.fr (i := 0)
  have f1 := R2.fr (i := 1)
  clear S2 R2
  by_cases he : er = 0
  · subst he
    clear r0 r1 f0 f1
    obtain ⟨k1, k2, k3, k4, k5⟩ := check_parts HE.out
    have hr := prod_range k1 k2
    have HH := Lib.hid (hanging_any n₀ W H _ ts w2 (W * H).toNat k4 (by omega) (by omega) (HT.out.past HB2.out))
    clear k1 k2 k3 k4 k5 hr
    go_wp2_with fail
    refine HH.out.mono ?_
    rintro e w3 ⟨r, hf, rfl, hb3⟩
    have R3 := HR2.out.past hb3
    have HR3 := Lib.hid R3
    have HB3 := Lib.hid (HB2.out.trans (hb3.mono HB2.out.size))
    have HF := Lib.hid hf
    rw [brickV_eq]
    obtain ⟨x, hx⟩ : ∃ x, bT r = x := ⟨_, rfl⟩
    obtain ⟨y, hy⟩ : ∃ y, bB r = y := ⟨_, rfl⟩
    rw [hx, hy]
    have HXY := Lib.hid (And.intro hx hy)
    have r0 := R3.cell (i := 0) (v := .int .i64 0) rfl
    have r1 := R3.cell (i := 1) (v := .int .i64 0) rfl
    have f0 := R3.fr (i := 0)
    have f1 := R3.fr (i := 1)
    clear hb3 hf hx hy R3 HH HR2 HB2 s0 s1 s2
    go_wp2
    obtain ⟨d0, d1, d2, hg, _⟩ := blk_after HR3.out (.int .i64 x) (.int .i64 y) rfl rfl
    refine bodyPost_ret (v := .tuple #[.agg #[.int .i64 x, .int .i64 y], .int .i64 0]) ?_ rfl ?_
    · simp [results, Try.results33, go_sem, d0, d1, d2]
    · exact ⟨HB3.out.grown hg HB3.out.size (by intro k hk; cases hk; omega), .inr ⟨HE.out, r, HF.out, by rw [HXY.out.1, HXY.out.2]⟩⟩
  · have hne : (er != 0) = true := by simpa using he
    go_wp2
    obtain ⟨d0, d1, d2, hg, _⟩ := blk_after HR2.out (.int .i64 0) (.int .i64 0) rfl rfl
    refine bodyPost_ret (v := .tuple #[.agg #[.int .i64 0, .int .i64 0], .int .i64 er]) ?_ rfl ?_
    · simp [results, Try.results33, go_sem, d0, d1, d2]
    · exact ⟨HB2.out.grown hg HB2.out.size (by intro k hk; cases hk; omega), .inl ⟨by rw [HE.out]; exact he, by rw [HE.out]⟩⟩
/-- A list of pairs of numbers that can be read. -/
def PairsR (w : World) (v : Value) (l : List (Int × Int)) : Prop :=
  ∃ a c, v = .slice a l.length c ∧ l.length ≤ 1000000 ∧ ∀ i, i < l.length → ∃ b off, a = some ⟨b, off, none⟩ ∧ b < w.heap.size ∧ w.cell? ⟨b, off + i * 2, none⟩ = some (.int .i64 (l[i]?.getD (0, 0)).1) ∧ w.cell? ⟨b, off + i * 2 + 1, none⟩ = some (.int .i64 (l[i]?.getD (0, 0)).2)
theorem PairsR.past {w w' : World} {v : Value} {l : List (Int × Int)} (h : PairsR w v l) (hb : Below w.heap.size w w') : PairsR w' v l := by
  obtain ⟨a, c, hv, hl, h⟩ := h
  refine ⟨a, c, hv, hl, fun i hi => ?_⟩
  obtain ⟨b, off, ha, hlt, c1, c2⟩ := h i hi
  exact ⟨b, off, ha, by have := hb.size; omega, (hb.cell (p := ⟨b, _, none⟩) hlt).trans c1, (hb.cell (p := ⟨b, _, none⟩) hlt).trans c2⟩
set_option maxRecDepth 100000 in
set_option maxHeartbeats 4000000 in
theorem bricks_same (av bv : Value) (l : List (Int × Int)) (w : World) (ha : PairsR w av l) (hb : PairsR w bv l) :
    Calls Try.prog 38 #[av, bv] w fun e w' => e = .returned (.bool true) ∧ Below w.heap.size w w' := by
  have HA := Lib.hid ha
  have HB := Lib.hid hb
  obtain ⟨a, ca, rfl, hl, hpa⟩ := ha
  obtain ⟨b, cb, rfl, _, hpb⟩ := hb
  have HPA := Lib.hid hpa
  have HPB := Lib.hid hpb
  have HB0 := Lib.hid (Below.refl w.heap.size w)
  clear hpa hpb
  go_enter Try.func38, Try.ntmps38
  go_wp2_with fail
  go_loopw [5] (fun i wr => ∃ k : Nat, k ≤ l.length ∧ i = .int .i64 k ∧ Hid (Below w.heap.size w wr)) (fun i _ => l.length - (intOf i).toNat)
  case atStart => exact ⟨0, Nat.zero_le _, rfl, HB0⟩
  case round =>
    obtain ⟨k, hk, rfl, HBW⟩ := hrel
    by_cases hlt : k < l.length
    · obtain ⟨xa, xo, rfl, hxa, a1, a2⟩ := HPA.out k hlt
      obtain ⟨ya, yo, rfl, hya, b1, b2⟩ := HPB.out k hlt
      have hki : (0 : Int) ≤ (k : Int) := by omega
      have hkl : (k : Int) < (l.length : Int) := by omega
      obtain ⟨x, hx⟩ : ∃ x, (l[k]?.getD (0, 0)).1 = x := ⟨_, rfl⟩
      obtain ⟨y, hy⟩ : ∃ y, (l[k]?.getD (0, 0)).2 = y := ⟨_, rfl⟩
      rw [hx] at a1 b1
      rw [hy] at a2 b2
      clear hx hy
      go_wp2_with fail
      refine region_plain (fun X => X.cell? ⟨xa, xo + k * 2, none⟩ = some (.int .i64 x) ∧ X.cell? ⟨xa, xo + k * 2 + 1, none⟩ = some (.int .i64 y) ∧ X.cell? ⟨ya, yo + k * 2, none⟩ = some (.int .i64 x) ∧ X.cell? ⟨ya, yo + k * 2 + 1, none⟩ = some (.int .i64 y)) 9 #[false, false, false, false, false, false, false, false, false] rfl rfl (by kernel_rfl) ?_
      obtain ⟨v1, hv1⟩ : ∃ x, wr.drew = x := ⟨_, rfl⟩
      have hB1 : Below w.heap.size w v1 := by rw [← hv1]; exact HBW.out.drew
      have hSS : v1.cell? ⟨xa, xo + k * 2, none⟩ = some (.int .i64 x) ∧ v1.cell? ⟨xa, xo + k * 2 + 1, none⟩ = some (.int .i64 y) ∧ v1.cell? ⟨ya, yo + k * 2, none⟩ = some (.int .i64 x) ∧ v1.cell? ⟨ya, yo + k * 2 + 1, none⟩ = some (.int .i64 y) :=
        ⟨(hB1.cell (p := ⟨xa, _, none⟩) hxa).trans a1, (hB1.cell (p := ⟨xa, _, none⟩) hxa).trans a2, (hB1.cell (p := ⟨ya, _, none⟩) hya).trans b1, (hB1.cell (p := ⟨ya, _, none⟩) hya).trans b2⟩
      rw [hv1]
      clear hv1 a1 a2 b1 b2 HBW
      have HB1 := Lib.hid hB1
      clear hB1
      refine take_first (i := 0) (v := ?_) rfl (by kernel_rfl) (by kernel_rfl) (by kernel_rfl) (fun _ _ _ h => h) (by rfl) (by assumption) ?_ ?_
      rotate_left 1
      · intro X hSX
        (try dsimp only at hSX)
        first | (go_simp; done) | (go_simp; with_reducible rfl)
      try simp only [Act.put, List.setIfInBounds_toArray, List.set_cons_zero, List.set_cons_succ]
      refine take_first (i := 1) (v := ?_) rfl (by kernel_rfl) (by kernel_rfl) (by kernel_rfl) (fun _ _ _ h => h) (by rfl) (by assumption) ?_ ?_
      rotate_left 1
      · intro X hSX
        (try dsimp only at hSX)
        first | (go_simp; done) | (go_simp; with_reducible rfl)
      try simp only [Act.put, List.setIfInBounds_toArray, List.set_cons_zero, List.set_cons_succ]
      refine take_first (i := 2) (v := ?_) rfl (by kernel_rfl) (by kernel_rfl) (by kernel_rfl) (fun _ _ _ h => h) (by rfl) (by assumption) ?_ ?_
      rotate_left 1
      · intro X hSX
        (try dsimp only at hSX)
        first | (go_simp; done) | (go_simp; with_reducible rfl)
      try simp only [Act.put, List.setIfInBounds_toArray, List.set_cons_zero, List.set_cons_succ]
      refine take_first (i := 3) (v := ?_) rfl (by kernel_rfl) (by kernel_rfl) (by kernel_rfl) (fun _ _ _ h => h) (by rfl) (by assumption) ?_ ?_
      rotate_left 1
      · intro X hSX
        (try dsimp only at hSX)
        first | (go_simp; done) | (go_simp; with_reducible rfl)
      try simp only [Act.put, List.setIfInBounds_toArray, List.set_cons_zero, List.set_cons_succ]
      refine take_first (i := 4) (v := ?_) rfl (by kernel_rfl) (by kernel_rfl) (by kernel_rfl) (fun _ _ _ h => h) (by rfl) (by assumption) ?_ ?_
      rotate_left 1
      · intro X hSX
        (try dsimp only at hSX)
        first | (go_simp; done) | (go_simp; with_reducible rfl)
      try simp only [Act.put, List.setIfInBounds_toArray, List.set_cons_zero, List.set_cons_succ]
      refine take_first (i := 5) (v := ?_) rfl (by kernel_rfl) (by kernel_rfl) (by kernel_rfl) (fun _ _ _ h => h) (by rfl) (by assumption) ?_ ?_
      rotate_left 1
      · intro X hSX
        (try dsimp only at hSX)
        first | (go_simp; done) | (go_simp; with_reducible rfl)
      try simp only [Act.put, List.setIfInBounds_toArray, List.set_cons_zero, List.set_cons_succ]
      refine take_first (i := 6) (v := ?_) rfl (by kernel_rfl) (by kernel_rfl) (by kernel_rfl) (fun _ _ _ h => h) (by rfl) (by assumption) ?_ ?_
      rotate_left 1
      · intro X hSX
        (try dsimp only at hSX)
        first | (go_simp; done) | (go_simp; with_reducible rfl)
      try simp only [Act.put, List.setIfInBounds_toArray, List.set_cons_zero, List.set_cons_succ]
      refine take_first (i := 7) (v := ?_) rfl (by kernel_rfl) (by kernel_rfl) (by kernel_rfl) (fun _ _ _ h => h) (by rfl) (by assumption) ?_ ?_
      rotate_left 1
      · intro X hSX
        (try dsimp only at hSX)
        first | (go_simp; done) | (go_simp; with_reducible rfl)
      try simp only [Act.put, List.setIfInBounds_toArray, List.set_cons_zero, List.set_cons_succ]
      refine take_first (i := 8) (v := ?_) rfl (by kernel_rfl) (by kernel_rfl) (by kernel_rfl) (fun _ _ _ h => h) (by rfl) (by assumption) ?_ ?_
      rotate_left 1
      · intro X hSX
        (try dsimp only at hSX)
        first | (go_simp; done) | (go_simp; with_reducible rfl)
      try simp only [Act.put, List.setIfInBounds_toArray, List.set_cons_zero, List.set_cons_succ]
      refine wpAnyH_done (by kernel_rfl) ?_ _
      clear hSS
      go_wp2
      go_roundw
      case rel => exact ⟨k + 1, hlt, by go_num, HB1⟩
      case measure => simp [intOf]; omega
    · have hke : k = l.length := by omega
      subst hke
      go_wp2_with fail
      go_ret
      exact ⟨rfl, HBW.out⟩
set_option maxRecDepth 100000 in
set_option maxHeartbeats 4000000 in
theorem loads_same (av bv : Value) (l : List (Int × Int)) (w : World) (ha : PairsR w av l) (hb : PairsR w bv l) :
    Calls Try.prog 41 #[av, bv] w fun e w' => e = .returned (.bool true) ∧ Below w.heap.size w w' := by
  have HA := Lib.hid ha
  have HB := Lib.hid hb
  obtain ⟨a, ca, rfl, hl, hpa⟩ := ha
  obtain ⟨b, cb, rfl, _, hpb⟩ := hb
  have HPA := Lib.hid hpa
  have HPB := Lib.hid hpb
  have HB0 := Lib.hid (Below.refl w.heap.size w)
  clear hpa hpb
  go_enter Try.func41, Try.ntmps41
  go_wp2_with fail
  go_loopw [5] (fun i wr => ∃ k : Nat, k ≤ l.length ∧ i = .int .i64 k ∧ Hid (Below w.heap.size w wr)) (fun i _ => l.length - (intOf i).toNat)
  case atStart => exact ⟨0, Nat.zero_le _, rfl, HB0⟩
  case round =>
    obtain ⟨k, hk, rfl, HBW⟩ := hrel
    by_cases hlt : k < l.length
    · obtain ⟨xa, xo, rfl, hxa, a1, a2⟩ := HPA.out k hlt
      obtain ⟨ya, yo, rfl, hya, b1, b2⟩ := HPB.out k hlt
      have hki : (0 : Int) ≤ (k : Int) := by omega
      have hkl : (k : Int) < (l.length : Int) := by omega
      obtain ⟨x, hx⟩ : ∃ x, (l[k]?.getD (0, 0)).1 = x := ⟨_, rfl⟩
      obtain ⟨y, hy⟩ : ∃ y, (l[k]?.getD (0, 0)).2 = y := ⟨_, rfl⟩
      rw [hx] at a1 b1
      rw [hy] at a2 b2
      clear hx hy
      go_wp2_with fail
      refine region_plain (fun X => X.cell? ⟨xa, xo + k * 2, none⟩ = some (.int .i64 x) ∧ X.cell? ⟨xa, xo + k * 2 + 1, none⟩ = some (.int .i64 y) ∧ X.cell? ⟨ya, yo + k * 2, none⟩ = some (.int .i64 x) ∧ X.cell? ⟨ya, yo + k * 2 + 1, none⟩ = some (.int .i64 y)) 9 #[false, false, false, false, false, false, false, false, false] rfl rfl (by kernel_rfl) ?_
      obtain ⟨v1, hv1⟩ : ∃ x, wr.drew = x := ⟨_, rfl⟩
      have hB1 : Below w.heap.size w v1 := by rw [← hv1]; exact HBW.out.drew
      have hSS : v1.cell? ⟨xa, xo + k * 2, none⟩ = some (.int .i64 x) ∧ v1.cell? ⟨xa, xo + k * 2 + 1, none⟩ = some (.int .i64 y) ∧ v1.cell? ⟨ya, yo + k * 2, none⟩ = some (.int .i64 x) ∧ v1.cell? ⟨ya, yo + k * 2 + 1, none⟩ = some (.int .i64 y) :=
        ⟨(hB1.cell (p := ⟨xa, _, none⟩) hxa).trans a1, (hB1.cell (p := ⟨xa, _, none⟩) hxa).trans a2, (hB1.cell (p := ⟨ya, _, none⟩) hya).trans b1, (hB1.cell (p := ⟨ya, _, none⟩) hya).trans b2⟩
      rw [hv1]
      clear hv1 a1 a2 b1 b2 HBW
      have HB1 := Lib.hid hB1
      clear hB1
      refine take_first (i := 0) (v := ?_) rfl (by kernel_rfl) (by kernel_rfl) (by kernel_rfl) (fun _ _ _ h => h) (by rfl) (by assumption) ?_ ?_
      rotate_left 1
      · intro X hSX
        (try dsimp only at hSX)
        first | (go_simp; done) | (go_simp; with_reducible rfl)
      try simp only [Act.put, List.setIfInBounds_toArray, List.set_cons_zero, List.set_cons_succ]
      refine take_first (i := 1) (v := ?_) rfl (by kernel_rfl) (by kernel_rfl) (by kernel_rfl) (fun _ _ _ h => h) (by rfl) (by assumption) ?_ ?_
      rotate_left 1
      · intro X hSX
        (try dsimp only at hSX)
        first | (go_simp; done) | (go_simp; with_reducible rfl)
      try simp only [Act.put, List.setIfInBounds_toArray, List.set_cons_zero, List.set_cons_succ]
      refine take_first (i := 2) (v := ?_) rfl (by kernel_rfl) (by kernel_rfl) (by kernel_rfl) (fun _ _ _ h => h) (by rfl) (by assumption) ?_ ?_
      rotate_left 1
      · intro X hSX
        (try dsimp only at hSX)
        first | (go_simp; done) | (go_simp; with_reducible rfl)
      try simp only [Act.put, List.setIfInBounds_toArray, List.set_cons_zero, List.set_cons_succ]
      refine take_first (i := 3) (v := ?_) rfl (by kernel_rfl) (by kernel_rfl) (by kernel_rfl) (fun _ _ _ h => h) (by rfl) (by assumption) ?_ ?_
      rotate_left 1
      · intro X hSX
        (try dsimp only at hSX)
        first | (go_simp; done) | (go_simp; with_reducible rfl)
      try simp only [Act.put, List.setIfInBounds_toArray, List.set_cons_zero, List.set_cons_succ]
      refine take_first (i := 4) (v := ?_) rfl (by kernel_rfl) (by kernel_rfl) (by kernel_rfl) (fun _ _ _ h => h) (by rfl) (by assumption) ?_ ?_
      rotate_left 1
      · intro X hSX
        (try dsimp only at hSX)
        first | (go_simp; done) | (go_simp; with_reducible rfl)
      try simp only [Act.put, List.setIfInBounds_toArray, List.set_cons_zero, List.set_cons_succ]
      refine take_first (i := 5) (v := ?_) rfl (by kernel_rfl) (by kernel_rfl) (by kernel_rfl) (fun _ _ _ h => h) (by rfl) (by assumption) ?_ ?_
      rotate_left 1
      · intro X hSX
        (try dsimp only at hSX)
        first | (go_simp; done) | (go_simp; with_reducible rfl)
      try simp only [Act.put, List.setIfInBounds_toArray, List.set_cons_zero, List.set_cons_succ]
      refine take_first (i := 6) (v := ?_) rfl (by kernel_rfl) (by kernel_rfl) (by kernel_rfl) (fun _ _ _ h => h) (by rfl) (by assumption) ?_ ?_
      rotate_left 1
      · intro X hSX
        (try dsimp only at hSX)
        first | (go_simp; done) | (go_simp; with_reducible rfl)
      try simp only [Act.put, List.setIfInBounds_toArray, List.set_cons_zero, List.set_cons_succ]
      refine take_first (i := 7) (v := ?_) rfl (by kernel_rfl) (by kernel_rfl) (by kernel_rfl) (fun _ _ _ h => h) (by rfl) (by assumption) ?_ ?_
      rotate_left 1
      · intro X hSX
        (try dsimp only at hSX)
        first | (go_simp; done) | (go_simp; with_reducible rfl)
      try simp only [Act.put, List.setIfInBounds_toArray, List.set_cons_zero, List.set_cons_succ]
      refine take_first (i := 8) (v := ?_) rfl (by kernel_rfl) (by kernel_rfl) (by kernel_rfl) (fun _ _ _ h => h) (by rfl) (by assumption) ?_ ?_
      rotate_left 1
      · intro X hSX
        (try dsimp only at hSX)
        first | (go_simp; done) | (go_simp; with_reducible rfl)
      try simp only [Act.put, List.setIfInBounds_toArray, List.set_cons_zero, List.set_cons_succ]
      refine wpAnyH_done (by kernel_rfl) ?_ _
      clear hSS
      go_wp2
      go_roundw
      case rel => exact ⟨k + 1, hlt, by go_num, HB1⟩
      case measure => simp [intOf]; omega
    · have hke : k = l.length := by omega
      subst hke
      go_wp2_with fail
      go_ret
      exact ⟨rfl, HBW.out⟩
section
attribute [local go_sem] Oper.semAt_some
theorem freeP_last {ts : List (List Int × List Int)} {t b : Nat} (h : t + 1 = ts.length) : freeP ts t b = true := by
  simp [freeP, h]
theorem freeP_all {ts : List (List Int × List Int)} {t b : Nat} (h : ∀ c ∈ cellsL (ts[t]?.getD ([], [])).1 b, keyAt ts (t + 1) c = -1) : freeP ts t b = true := by
  simp only [freeP, Bool.or_eq_true, List.all_eq_true, decide_eq_true_eq]
  exact .inr h
theorem freeP_not {ts : List (List Int × List Int)} {t b x : Nat} (h : t + 1 ≠ ts.length) (hx : x ∈ cellsL (ts[t]?.getD ([], [])).1 b) (hk : keyAt ts (t + 1) x ≠ -1) : freeP ts t b = false := by
  simp only [freeP, Bool.or_eq_false_iff, decide_eq_false_iff_not]
  refine ⟨h, ?_⟩
  rw [List.all_eq_false]
  exact ⟨x, hx, by simpa using hk⟩
/-- What holds before each cell. -/
structure FreeI (n₀ : Nat) (w W0 : World) (W H : Int) (tv : Value) (ti br : Nat) (wr : World) : Prop where
  s : Blk wr w.heap.size #[.int .i64 W, .int .i64 H, tv] 143
  i : Blk wr (w.heap.size + 1) #[.int .i64 ti, .int .i64 br] 74
  r : Blk wr (w.heap.size + 1 + 1) #[.bool false] 4
  k : Kept (KS n₀) W0 wr
  b : Below w.heap.size w wr
theorem FreeI.past {n₀ : Nat} {w W0 : World} {W H : Int} {tv : Value} {ti br : Nat} {wr wr' : World} (h : FreeI n₀ w W0 W H tv ti br wr) (hb : Below wr.heap.size wr wr') : FreeI n₀ w W0 W H tv ti br wr' :=
  ⟨h.s.past hb, h.i.past hb, h.r.past hb, h.k.trans (Kept.of_below hb), h.b.trans (hb.mono h.b.size)⟩
theorem FreeI.own {β : Type} {n₀ : Nat} {w W0 : World} {W H : Int} {tv : Value} {ti br : Nat} {B : Nat} (h1 : w.heap.size + 2 < B) (h0 : n₀ ≤ B) : OwnFrom B (fun (_ : β) wr => FreeI n₀ w W0 W H tv ti br wr) := fun s X Y row hs hg hr =>
  have ne : ∀ j, j < B → some j ≠ row := fun j hj e => by have := (hr j e.symm).1; omega
  ⟨hs.s.kept hg (ne _ (by omega)), hs.i.kept hg (ne _ (by omega)), hs.r.kept hg (ne _ (by omega)), ownFrom_kept (β := Unit) h0 () X Y row hs.k hg hr, ownFrom_below (β := Unit) (Nat.le_refl _) (by omega) () X Y row hs.b hg hr⟩
set_option maxRecDepth 100000 in
set_option maxHeartbeats 4000000 in
theorem isFree_any (n₀ : Nat) (W H : Int) (tv : Value) (ti br : Nat) (ts : List (List Int × List Int)) (w : World) (N : Nat) (hN : ∀ i, i < ts.length → (ts[i]?.getD ([], [])).1.length = N) (hN1 : N ≤ 144) (hts : ts.length ≤ 1000000)
    (ht : TiersAt n₀ w tv ts) (hti : ti < ts.length) :
    Calls Try.prog 75 #[.agg #[.int .i64 W, .int .i64 H, tv], .agg #[.int .i64 ti, .int .i64 br]] w fun e w' => e = .returned (.bool (freeP ts ti br)) ∧ Below w.heap.size w w' := by
  obtain ⟨a, cap, rfl, hl, hn, _⟩ := ht.placed
  obtain ⟨L, hL⟩ : ∃ L, ts.length = L := ⟨_, rfl⟩
  rw [hL] at hl hts hti ht ⊢
  have S2 := ((Blk.new w #[.int .i64 W, .int .i64 H, .slice a L cap] 143).alloc (.cells #[.int .i64 ti, .int .i64 br] 74)).alloc (.cells #[.bool false] 4)
  have I2 := (Blk.newI (w.alloc (.cells #[.int .i64 W, .int .i64 H, .slice a L cap] 143)) (w.heap.size + 1) #[.int .i64 ti, .int .i64 br] 74 (by simp)).alloc (.cells #[.bool false] 4)
  have R2 := Blk.newI ((w.alloc (.cells #[.int .i64 W, .int .i64 H, .slice a L cap] 143)).alloc (.cells #[.int .i64 ti, .int .i64 br] 74)) (w.heap.size + 1 + 1) #[.bool false] 4 (by simp)
  have BB := (((Below.refl _ w).alloc (Nat.le_refl _) (.cells #[.int .i64 W, .int .i64 H, .slice a L cap] 143)).alloc (by simp) (.cells #[.int .i64 ti, .int .i64 br] 74)).alloc (by simp; omega) (.cells #[.bool false] 4)
  have hs0 : (((w.alloc (.cells #[.int .i64 W, .int .i64 H, .slice a L cap] 143)).alloc (.cells #[.int .i64 ti, .int .i64 br] 74)).alloc (.cells #[.bool false] 4)).heap.size = w.heap.size + 3 := by simp
  have T0 := ht.past BB
  have s0 := S2.cell (i := 0) (v := .int .i64 W) rfl
  have s1 := S2.cell (i := 1) (v := .int .i64 H) rfl
  have s2 := S2.cell (i := 2) (v := .slice a L cap) rfl
  have i0 := I2.cell (i := 0) (v := .int .i64 ti) rfl
  have i1 := I2.cell (i := 1) (v := .int .i64 br) rfl
  by_cases hlast : ti + 1 = L
  · have hsub : (L : Int) - 1 = (ti : Int) := by omega
    have r0 := R2.cell (i := 0) (v := .bool false) rfl
    have f0 := R2.fr (i := 0)
    have HFP : Hid (freeP ts ti br = true) := Lib.hid (freeP_last (by rw [hL]; exact hlast))
    have R3 := R2.set 0 (by simp) (.bool true) rfl
    have d0 := R3.cell (i := 0) (v := .bool true) rfl
    have HBE := Lib.hid ((((Below.refl _ w).alloc (Nat.le_refl _) (.cells #[.int .i64 W, .int .i64 H, .slice a L cap] 143)).alloc (by simp) (.cells #[.int .i64 ti, .int .i64 br] 74)).alloc (by simp; omega) (.cells #[.bool true] 4))
    clear S2 I2 R2 R3 BB T0 hs0 hlast ht hL
    rw [HFP.out]
    go_enter Try.func75, Try.ntmps75
    go_wp2
    refine bodyPost_ret (v := .bool true) ?_ rfl ?_
    · simp [results, Try.results75, go_sem, d0]
    · exact ⟨rfl, HBE.out⟩
  · have hlt1 : ti + 1 < L := by omega
    obtain ⟨t1, ht1⟩ : ∃ t, ti + 1 = t := ⟨_, rfl⟩
    have ht1i : (ti : Int) + 1 = (t1 : Int) := by omega
    have hne : ¬ (ti : Int) = (L : Int) - 1 := by omega
    have hne2 : ((ti : Int) == (L : Int) - 1) = false := by simp; omega
    have HL := Lib.hid hL
    have HLAST := Lib.hid hlast
    have HT1 := Lib.hid (And.intro ht1 (And.intro ht1i hlt1))
    have HN := Lib.hid hN
    have HT := Lib.hid ht
    have HMK := Lib.hid fun w' => cells_mk (.int .i64 W) (.int .i64 H) (.slice a L cap) ti br w' rfl rfl rfl
    obtain ⟨W0, hW0⟩ : ∃ W0, ((w.alloc (.cells #[.int .i64 W, .int .i64 H, .slice a L cap] 143)).alloc (.cells #[.int .i64 ti, .int .i64 br] 74)).alloc (.cells #[.bool false] 4) = W0 := ⟨_, rfl⟩
    rw [hW0] at S2 I2 R2 BB hs0 T0 s0 s1 s2 i0 i1
    have HS0 := Lib.hid hs0
    clear ht hN hlast ht1 ht1i hlt1 hL hs0
    refine (callsIn_wide (n := 9)).1 ?_
    refine callsIn_of_wp_marks Try.func75 rfl trivial ?_ rfl
    simp only [Try.ntmps75, List.size_toArray, List.length_cons, List.length_nil, Nat.reduceAdd, Nat.reduceSub, Array.replicate_succ, Array.replicate_zero, List.push_toArray, List.append_toArray, List.nil_append, List.cons_append]
    gi_wp2_with fail
    refine ⟨trivial, ?_⟩
    clear hW0
    have HF0 : Hid (FreeI n₀ w W0 W H (.slice a L cap) ti br W0) := Lib.hid ⟨S2, I2, R2, Kept.refl _ _, BB⟩
    clear S2 I2 R2 BB
    refine (callsIn_wide.2 (HMK.out _)).mono ?_
    rintro e w2 ⟨rfl, rfl⟩
    clear s0 s1 s2 i0 i1
    gi_wp2_with fail
    have SX := (Blk.new W0 #[.int .i64 W, .int .i64 H, .slice a L cap] 143).alloc (.cells #[.int .i64 ti, .int .i64 br] 74)
    have TX := Blk.newI (W0.alloc (.cells #[.int .i64 W, .int .i64 H, .slice a L cap] 143)) (W0.heap.size + 1) #[.int .i64 ti, .int .i64 br] 74 (by simp)
    have hb5 := ((Below.refl W0.heap.size W0).alloc (Nat.le_refl _) (.cells #[.int .i64 W, .int .i64 H, .slice a L cap] 143)).alloc (by simp) (.cells #[.int .i64 ti, .int .i64 br] 74)
    have hs5 : ((W0.alloc (.cells #[.int .i64 W, .int .i64 H, .slice a L cap] 143)).alloc (.cells #[.int .i64 ti, .int .i64 br] 74)).heap.size = W0.heap.size + 2 := by simp
    have F5 := HF0.out.past hb5
    obtain ⟨w5, hw5⟩ : ∃ w5, (W0.alloc (.cells #[.int .i64 W, .int .i64 H, .slice a L cap] 143)).alloc (.cells #[.int .i64 ti, .int .i64 br] 74) = w5 := ⟨_, rfl⟩
    rw [hw5] at SX TX F5 hs5 ⊢
    clear hw5 hb5
    have T5 := T0.keptK F5.k
    have hs0 := HS0.out
    have hci := cells_iter n₀ _ _ _ _ _ ti br ts w5 SX TX T5 (by rw [HL.out]; exact hti)
    apply range_outer1 (gf := 100) (lb := #[.pointer (some ⟨W0.heap.size, 0, none⟩), .pointer (some ⟨W0.heap.size + 1, 0, none⟩)]) rfl (enters_of Try.func100 (by kernel_rfl) rfl)
      hci (fun j r hj => KS.loop (by omega) r) (fun _ => rfl)
      (fun pre W' => (∀ c ∈ pre, keyAt ts (ti + 1) c = -1) ∧ FreeI n₀ w W0 W H (.slice a L cap) ti br W')
      (fun c pre W' => c = .ret ∧ (∃ x : Nat, x ∈ cellsL (ts[ti]?.getD ([], [])).1 br ∧ keyAt ts (ti + 1) x ≠ -1) ∧ Blk W' (w.heap.size + 1 + 1) #[.bool false] 4 ∧ Below w.heap.size w W')
      (OwnFrom.and (ownFrom_pure _ (fun pre : List Nat => ∀ c ∈ pre, keyAt ts (ti + 1) c = -1)) (FreeI.own (by omega) (by omega)))
      (fun c s A C row hs hg hr => by
        obtain ⟨hc, hx, x4, x5⟩ := hs
        exact ⟨hc, hx, x4.kept hg (fun e => by have := (hr _ e.symm).1; omega), ownFrom_below (β := Unit) (Nat.le_refl _) (by omega) () A C row x5 hg hr⟩)
      ⟨fun b hb => (by cases hb), F5⟩
    case hassign =>
      rintro l pre x W' Q ⟨hi1, hi2⟩ hQ
      gi_wp2
      exact hQ _ _ (KeepsFrom.refl _ _) (Kept.refl _ _) ⟨hi1, hi2⟩ rfl
    case hbody =>
      rintro l pre x W' hl hr ⟨hi1, hi2⟩ hpre
      have hxm : x ∈ cellsL (ts[ti]?.getD ([], [])).1 br := hpre.subset (by simp)
      have hxN : x < N := by
        unfold cellsL at hxm
        have h1 := (List.mem_filter.1 hxm).1
        rw [HN.out ti (by rw [HL.out]; exact hti)] at h1
        exact List.mem_range.1 h1
      have T6 := HT.out.past hi2.b
      obtain ⟨a', cap', hsh, _, _, hpl⟩ := T6.placed
      obtain ⟨rfl, _, rfl⟩ : a = a' ∧ L = _ ∧ cap = cap' := by simpa only [Value.slice.injEq] using hsh
      obtain ⟨tb, tf, rfl, htb, vc, vw, c1, _, ⟨s1, _⟩, _⟩ := hpl t1 (by rw [HL.out]; have := HT1.out; omega)
      obtain ⟨ca, cc, rfl, _, hpc⟩ := s1.placed
      have hlen : (ts[t1]?.getD ([], [])).1.length = N := HN.out t1 (by rw [HL.out]; have := HT1.out; omega)
      obtain ⟨cb, co, rfl, _, d1⟩ := hpc x (by rw [hlen]; exact hxN)
      have hkey : (ts[t1]?.getD ([], [])).1[x]?.getD 0 = keyAt ts (ti + 1) x := by rw [HT1.out.1]; rfl
      rw [hlen] at c1
      rw [hkey] at d1
      obtain ⟨key, hky⟩ : ∃ z, keyAt ts (ti + 1) x = z := ⟨_, rfl⟩
      rw [hky] at d1
      have HKY := Lib.hid hky
      have HXM := Lib.hid hxm
      have HI1 := Lib.hid hi1
      have HI2 := Lib.hid hi2
      have q0 := hi2.s.cell (i := 0) (v := .int .i64 W) rfl
      have q1 := hi2.s.cell (i := 1) (v := .int .i64 H) rfl
      have q2 := hi2.s.cell (i := 2) (v := .slice (some ⟨tb, tf, none⟩) L cap) rfl
      have p0 := hi2.i.cell (i := 0) (v := .int .i64 ti) rfl
      have r0 := hi2.r.cell (i := 0) (v := .bool false) rfl
      have f0 := hi2.r.fr (i := 0)
      have ht1i := HT1.out.2.1
      have ht1l : (t1 : Int) < (L : Int) := by have := HT1.out; omega
      have ht10 : (0 : Int) ≤ (t1 : Int) := by omega
      have hxi0 : (0 : Int) ≤ (x : Int) := by omega
      have hxiN : (x : Int) < (N : Int) := by omega
      clear hi1 hi2 hxm hpre hpl hsh T6 s1 hpc hkey hky hlen
      by_cases hk1 : key = -1
      · have HA : Hid (∀ c ∈ pre ++ [x], keyAt ts (ti + 1) c = -1) := Lib.hid fun c hc => by
          rcases List.mem_append.1 hc with h1 | h1
          · exact HI1.out c h1
          · rw [show c = x by simpa using h1, HKY.out]; exact hk1
        subst hk1
        gi_wp2
        exact ⟨KeepsFrom.refl _ _, Kept.refl _ _, HA.out, HI2.out⟩
      · have hkn : (key != -1) = true := by simpa using hk1
        gi_wp2
        exact ⟨(KeepsOthers.setCell _ _ _).from _, rfl, ⟨x, HXM.out, by rw [HKY.out]; exact hk1⟩, HI2.out.r.set 0 (by simp) _ rfl, HI2.out.b.setCell (show w.heap.size ≤ w.heap.size + 1 + 1 by omega) _⟩
    case hdone =>
      rintro D W' hD ⟨hi1, hi2⟩ hdf
      have HFP : Hid (freeP ts ti br = true) := Lib.hid (freeP_all hi1)
      have HM : Hid (Marks w.heap.size [D] W') := Lib.hid ((show Marks w.heap.size [] W' from ⟨List.nodup_nil, fun D hD => by cases hD⟩).cons hdf (by omega) (fun D' hD' => by cases hD'))
      have HI2 := Lib.hid hi2
      have r0 := hi2.r.cell (i := 0) (v := .bool false) rfl
      have f0 := hi2.r.fr (i := 0)
      clear hi1 hi2 hdf
      gi_wp2
      have R7 := HI2.out.r.set 0 (by simp) (.bool true) rfl
      refine leaves_marks (I := fun (_ : Unit) W => Blk W (w.heap.size + 1 + 1) #[.bool true] 4 ∧ Below w.heap.size w W) (B := w.heap.size)
        (OwnFrom.and (Own.from (blk_own _ _ (fun _ : Unit => #[Value.bool true])) _) (ownFrom_below (Nat.le_refl _) (Nat.le_refl _))) ?_ [D] _ (HM.out.set HI2.out.r _) ⟨R7, HI2.out.b.setCell (show w.heap.size ≤ w.heap.size + 1 + 1 by omega) _⟩
      rintro W9 ⟨h9, hb9⟩
      have r0 := h9.cell (i := 0) (v := .bool true) rfl
      exact ⟨.bool true, by simp [results, Try.results75, go_sem, r0], by rw [HFP.out], hb9⟩
    case hstop =>
      rintro D c pre W' hD hpre ⟨rfl, ⟨x, hx1, hx2⟩, x4, x5⟩ hdf
      have HFP : Hid (freeP ts ti br = false) := Lib.hid (freeP_not (by rw [HL.out]; exact HLAST.out) hx1 hx2)
      have HM : Hid (Marks w.heap.size [D] W') := Lib.hid ((show Marks w.heap.size [] W' from ⟨List.nodup_nil, fun D hD => by cases hD⟩).cons hdf (by omega) (fun D' hD' => by cases hD'))
      have HX := Lib.hid (And.intro x4 x5)
      clear x4 x5 hdf hx1 hx2
      gi_wp2
      refine leaves_marks (I := fun (_ : Unit) W => Blk W (w.heap.size + 1 + 1) #[.bool false] 4 ∧ Below w.heap.size w W) (B := w.heap.size)
        (OwnFrom.and (Own.from (blk_own _ _ (fun _ : Unit => #[Value.bool false])) _) (ownFrom_below (Nat.le_refl _) (Nat.le_refl _))) ?_ [D] _ HM.out HX.out
      rintro W9 ⟨h9, hb9⟩
      have r0 := h9.cell (i := 0) (v := .bool false) rfl
      exact ⟨.bool false, by simp [results, Try.results75, go_sem, r0], by rw [HFP.out], hb9⟩
end
theorem infoBrick2 : (Try.prog.info? 74).map (fun i => (i.zero, i.size, i.bytes)) = some (some (.agg #[.int .i64 0, .int .i64 0]), 2, 16) := by kernel_rfl
theorem undBricks2 : Try.prog.underlying 81 = some (.slice 74) := by kernel_rfl
/-- A row of bricks of one's own. -/
def BrR (w : World) (base : Nat) (v : Value) (l : List (Nat × Nat)) : Prop := w.ownsRow base 74 2 v l.length (flatL l)
theorem flatL_snoc' (l : List (Nat × Nat)) (n d : Nat) : flatL (l ++ [(n, d)]) = flatL l ++ [.int .i64 n, .int .i64 d] := by
  unfold flatL; rw [List.flatMap_append]; rfl
theorem BrR.past {w w' : World} {base : Nat} {v : Value} {l : List (Nat × Nat)} (h : BrR w base v l) (hb : Below w.heap.size w w') : BrR w' base v l := own_past h hb
/-- One brick more. -/
theorem wpList_appB {ops : Array Oper} {rest : List Oper} {o : Oper} {a : Act} {W : World} {Q : Exit → Act → World → Prop} (hgd : o.guard = none) (s x : Operand)
    (ho : o.op = .call { callee := .builtin .append, args := #[s, x], argTypes := #[81, 81] }) (base : Nat) (v : Value) (l : List (Nat × Nat)) (hs : a.eval s = v) (hown : BrR W base v l)
    (bx n d : Nat) (hx : a.eval x = .slice (some ⟨bx, 0, none⟩) 1 1) (hbx : Blk W bx #[.int .i64 n, .int .i64 d] 74) (hl : l.length ≤ 1000000) (hbase : base ≤ W.heap.size)
    (h : ∀ v' W', BrR W' base v' (l ++ [(n, d)]) → W.grownBy W' v.ownBlock → wpList Try.prog ops Q rest (a.put o.dst v') W') : wpList Try.prog ops Q (o :: rest) a W := by
  obtain ⟨i0, hi, hz0, hz1, hz2⟩ := info_parts infoBrick2
  refine wpList_append_own_at W hgd s x 81 ho base 74 i0 (.agg #[.int .i64 0, .int .i64 0]) 2 16 undBricks2 hi hz0 hz1 hz2 rfl (by decide) v l.length (flatL l) hs hown ⟨bx, 0, none⟩ 1 1 [.int .i64 n, .int .i64 d] hx rfl
    (fun j u hj => by
      rw [addr_addT]
      match j, hj with
      | 0, hj => exact hbx.cell (i := 0) (by simpa using hj)
      | 1, hj => exact hbx.cell (i := 1) (by simpa using hj)
      | j + 2, hj => simp at hj)
    (fun u hu => by
      simp at hu
      rcases hu with rfl | rfl <;> rfl) (by unfold maxLen; omega) (by omega) hbase (fun v' W' h1 h2 _ h4 => h v' W' ?_ h2)
  unfold BrR
  rw [flatL_snoc', List.length_append]
  exact h1
/-- What is found in a tier, and in some tiers. -/
def freeT (ts : List (List Int × List Int)) (t n : Nat) : List (Nat × Nat) := ((List.range n).filter (freeP ts t)).map fun b => (t, b)
def freeA (ts : List (List Int × List Int)) (pre : List Nat) : List (Nat × Nat) := pre.flatMap fun t => freeT ts t (nbAt ts t)
theorem freeT_zero (ts : List (List Int × List Int)) (t : Nat) : freeT ts t 0 = [] := rfl
theorem freeT_yes {ts : List (List Int × List Int)} {t n : Nat} (h : freeP ts t n = true) : freeT ts t (n + 1) = freeT ts t n ++ [(t, n)] := by
  simp [freeT, List.range_succ, List.filter_append, h]
theorem freeT_no {ts : List (List Int × List Int)} {t n : Nat} (h : freeP ts t n = false) : freeT ts t (n + 1) = freeT ts t n := by
  simp [freeT, List.range_succ, List.filter_append, h]
theorem freeT_len (ts : List (List Int × List Int)) (t n : Nat) : (freeT ts t n).length ≤ n := by
  unfold freeT
  rw [List.length_map]
  have := List.length_filter_le (freeP ts t) (List.range n)
  rw [List.length_range] at this
  exact this
theorem freeA_snoc (ts : List (List Int × List Int)) (pre : List Nat) (t : Nat) : freeA ts (pre ++ [t]) = freeA ts pre ++ freeT ts t (nbAt ts t) := by
  simp [freeA, List.flatMap_append]
/-- Whether a cell of the tier above lies on a brick. -/
def coverP (ts : List (List Int × List Int)) (t b c : Nat) : Bool := decide (keyAt ts t c = b) && decide (t + 1 < ts.length) && decide (0 ≤ keyAt ts (t + 1) c)
theorem cover_free {W H : Int} {ts : List (List Int × List Int)} {N t b : Nat} (hv : StackV W H ts N) (ht : t < ts.length) : ((List.range N).all fun c => !coverP ts t b c) = freeP ts t b := by
  by_cases hl : t + 1 = ts.length
  · rw [freeP_last hl]
    rw [List.all_eq_true]
    intro c _
    simp [coverP]
    exact .inl (.inr (by omega))
  · have hl2 : t + 1 < ts.length := by omega
    rw [Bool.eq_iff_iff]
    simp only [List.all_eq_true, freeP, Bool.or_eq_true, decide_eq_true_eq, List.mem_range, cellsL_eq (hv.len t ht), List.mem_filter, coverP, Bool.not_eq_true', Bool.and_eq_false_iff, decide_eq_false_iff_not]
    constructor
    · intro h
      refine .inr fun c hc => ?_
      have h1 := (hv.key (t + 1) hl2 c hc.1).1
      rcases h c hc.1 with (h2 | h2) | h2
      · exact absurd hc.2 h2
      · exact absurd hl2 h2
      · omega
    · intro h c hc
      rcases h with h | h
      · exact absurd h hl
      · by_cases hk : keyAt ts t c = b
        · exact .inr (by rw [h c ⟨hc, hk⟩]; omega)
        · exact .inl (.inl hk)
def FreeTo (w : World) (ts : List (List Int × List Int)) (e : Ending) (w' : World) : Prop :=
  ∃ v, e = .returned v ∧ BrR w' (w.heap.size + 1) v (freeA ts (List.range ts.length).reverse) ∧ Below w.heap.size w w'
theorem BrR.shape {w : World} {base : Nat} {v : Value} {l : List (Nat × Nat)} (h : BrR w base v l) : ∃ p c, v = .slice p l.length c := own_shape2 h
theorem brR_new (w : World) (b : Nat) (hb : w.heap.size = b) : BrR (w.alloc (.cells #[] 74)) b (.slice (some ⟨b, 0, none⟩) 0 0) [] := by
  subst hb
  exact World.ownsRow_lit (base := w.heap.size) (e := 74) (size := 2) w #[] 0 (Nat.le_refl _) (by simp) (by simp)
theorem all_succ (p : Nat → Bool) (n : Nat) : (List.range (n + 1)).all p = ((List.range n).all p && p n) := by
  rw [List.range_succ, List.all_append]; simp
/-- What holds in the walk of Free. -/
structure FrW (w : World) (sv : Array Value) (v : Value) (l : List (Nat × Nat)) (wr : World) : Prop where
  r : BrR wr (w.heap.size + 1) v l
  s : Blk wr w.heap.size sv 69
  b : Below w.heap.size w wr
set_option maxRecDepth 100000 in
set_option maxHeartbeats 8000000 in
theorem refFree_any (W H : Int) (tv : Value) (ts : List (List Int × List Int)) (N : Nat) (w : World) (hs : SrcT w tv ts) (hv : StackV W H ts N) :
    Calls Try.prog 39 #[.agg #[.int .i64 W, .int .i64 H, tv]] w (FreeTo w ts) := by
  obtain ⟨a, cap, rfl, hl, hp⟩ := hs
  have ht10 := hv.t10
  have hn144 := hv.n1
  have A := Blk.new w #[.int .i64 W, .int .i64 H, .slice a ts.length cap] 69
  have B0 := (Below.refl _ w).alloc (Nat.le_refl _) (.cells #[.int .i64 W, .int .i64 H, .slice a ts.length cap] 69)
  have hB1 := (Below.refl _ (w.alloc (.cells #[.int .i64 W, .int .i64 H, .slice a ts.length cap] 69))).alloc (Nat.le_refl _) (.cells #[] 74)
  have HO : Hid (FrW w #[.int .i64 W, .int .i64 H, .slice a ts.length cap] (.slice (some ⟨w.heap.size + 1, 0, none⟩) 0 0) [] ((w.alloc (.cells #[.int .i64 W, .int .i64 H, .slice a ts.length cap] 69)).alloc (.cells #[] 74))) := Lib.hid ⟨brR_new _ _ (by simp), A.past hB1, B0.trans (hB1.mono B0.size)⟩
  have x2 := (A.past hB1).cell (i := 2) (v := .slice a ts.length cap) rfl
  have HP := Lib.hid hp
  have HV := Lib.hid hv
  have hw1 : IntKind.i64.wrap ((ts.length : Int) - 1) = (ts.length : Int) - 1 := wrap_id (by omega) (by omega)
  clear A B0 hB1 hp hv
  go_enter Try.func39, Try.ntmps39
  go_wp2_with fail
  obtain ⟨w1, hw1'⟩ : ∃ x, (w.alloc (.cells #[.int .i64 W, .int .i64 H, .slice a ts.length cap] 69)).alloc (.cells #[] 74) = x := ⟨_, rfl⟩
  rw [hw1'] at HO x2 ⊢
  clear hw1' x2
  go_loopw [3, 4] (fun s3 s4 wr => ∃ (k : Nat) (z : Int) (v : Value) (pre : List Nat), k ≤ ts.length ∧ s4 = .int .i64 z ∧ Hid (z = (k : Int) - 1) ∧ s3 = v ∧ Hid (pre ++ (List.range k).reverse = (List.range ts.length).reverse) ∧ Hid (FrW w #[.int .i64 W, .int .i64 H, .slice a ts.length cap] v (freeA ts pre) wr) ∧ Hid ((freeA ts pre).length ≤ 144 * pre.length)) (fun _ s4 _ => (intOf s4 + 1).toNat)
  case atStart => exact ⟨ts.length, _, _, [], Nat.le_refl _, rfl, Lib.hid rfl, rfl, Lib.hid (by simp), HO, Lib.hid (by simp [freeA])⟩
  case round =>
    obtain ⟨k, z, v, pre, hk, rfl, HZ, rfl, HPRE, HW, HLN⟩ := hrel
    rename World => v2
    clear HO
    obtain ⟨p0, c0, hsh⟩ := HW.out.r.shape
    obtain ⟨n0, hn0⟩ : ∃ n, (freeA ts pre).length = n := ⟨_, rfl⟩
    rw [hn0] at hsh
    subst hsh
    clear hn0
    cases k with
    | zero =>
      have hz : z = -1 := by have := HZ.out; omega
      subst hz
      have hpre : pre = (List.range ts.length).reverse := by have := HPRE.out; simpa using this
      have HW2 := Lib.hid (hpre ▸ HW.out.r)
      clear HZ hpre
      go_wp2_with fail
      go_ret
      exact ⟨_, rfl, HW2.out, HW.out.b⟩
    | succ k =>
      have hz : z = (k : Int) := by have := HZ.out; omega
      subst hz
      clear HZ
      have hki : (0 : Int) ≤ (k : Int) := by omega
      have hkl : (k : Int) < (ts.length : Int) := by omega
      have hwk : IntKind.i64.wrap ((k : Int) - 1) = (k : Int) - 1 := wrap_id (by omega) (by omega)
      have HPR := Lib.hid (show (pre ++ [k]) ++ (List.range k).reverse = (List.range ts.length).reverse by
        have := HPRE.out
        rw [List.range_succ, List.reverse_append] at this
        simpa using this)
      obtain ⟨b, off, rfl, hbb, vc, vw, c1, c2, s1, s2⟩ := HP.out k (by omega)
      obtain ⟨ac, cc, rfl, hlc, hpc⟩ := s1.ints.placed
      obtain ⟨aw, cw, rfl⟩ := s2.shape
      rw [HV.out.len k (by omega)] at c1
      obtain ⟨nb, hnb⟩ : ∃ nb, (ts[k]?.getD ([], [])).2.length = nb := ⟨_, rfl⟩
      rw [hnb] at c2
      have hnb144 : nb ≤ 144 := by rw [← hnb]; exact HV.out.few k (by omega)
      have HNB := Lib.hid hnb
      have HPC := Lib.hid hpc
      have HC := Lib.hid (And.intro c1 c2)
      have hpl : pre.length ≤ 10 := by
        have h1 := congrArg List.length HPRE.out
        simp at h1
        omega
      clear s1 s2 hnb hpc c1 c2 HPRE
      go_wp2_with fail
      go_loopw [3, 5] (fun s3 s5 wr => ∃ (q : Nat) (v : Value), q ≤ nb ∧ s5 = .int .i64 q ∧ s3 = v ∧ Hid (FrW w #[.int .i64 W, .int .i64 H, .slice (some ⟨b, off, none⟩) ts.length cap] v (freeA ts pre ++ freeT ts k q) wr)) (fun _ s5 _ => nb - (intOf s5).toNat)
      case atStart => exact ⟨0, _, Nat.zero_le _, rfl, rfl, Lib.hid (by rw [freeT_zero, List.append_nil]; exact HW.out)⟩
      case round =>
        obtain ⟨q, v, hq, rfl, rfl, HU⟩ := hrel
        rename World => u
        clear HW
        obtain ⟨p1, c1, hsh⟩ := HU.out.r.shape
        have hln := HLN.out
        have hln2 := freeT_len ts k q
        obtain ⟨n1, hn1⟩ : ∃ n, (freeA ts pre ++ freeT ts k q).length = n := ⟨_, rfl⟩
        have hn1b : n1 ≤ 100000 := by rw [← hn1, List.length_append]; omega
        rw [hn1] at hsh
        subst hsh
        have HN1 := Lib.hid hn1
        clear hn1 hln hln2
        have x2 := HU.out.s.cell (i := 2) (v := .slice (some ⟨b, off, none⟩) ts.length cap) rfl
        have d1 := (HU.out.b.cell (p := ⟨b, _, none⟩) hbb).trans HC.out.1
        have d2 := (HU.out.b.cell (p := ⟨b, _, none⟩) hbb).trans HC.out.2
        by_cases hql : q < nb
        · have hqi : (0 : Int) ≤ (q : Int) := by omega
          have hqli : (q : Int) < (nb : Int) := by omega
          go_wp2_with fail
          go_loopw [6, 7] (fun s6 s7 wr => wr = u ∧ ∃ (i : Nat) (f : Bool), i ≤ N ∧ s7 = .int .i64 i ∧ s6 = .bool f ∧ Hid (f = (List.range i).all fun c => !coverP ts k q c)) (fun _ s7 _ => N - (intOf s7).toNat)
          case atStart => exact ⟨rfl, 0, true, Nat.zero_le _, rfl, rfl, Lib.hid rfl⟩
          case round =>
            obtain ⟨rfl, i, f, hi, rfl, rfl, HF⟩ := hrel
            by_cases hil : i < N
            · have hii : (0 : Int) ≤ (i : Int) := by omega
              have hili : (i : Int) < (N : Int) := by omega
              obtain ⟨cb, co, rfl, hcb, e1⟩ := HPC.out i (by rw [HV.out.len k (by omega)]; exact hil)
              have hkey : (ts[k]?.getD ([], [])).1[i]?.getD 0 = keyAt ts k i := rfl
              rw [hkey] at e1
              obtain ⟨key, hky⟩ : ∃ z, keyAt ts k i = z := ⟨_, rfl⟩
              rw [hky] at e1
              have e1 := (HU.out.b.cell (p := ⟨cb, _, none⟩) hcb).trans e1
              have HKY := Lib.hid hky
              clear hkey hky
              by_cases hkq : key = (q : Int)
              · have HKQ := Lib.hid hkq
                by_cases hk1 : k + 1 < ts.length
                · obtain ⟨t1, ht1⟩ : ∃ t, k + 1 = t := ⟨_, rfl⟩
                  have ht1i : (k : Int) + 1 = (t1 : Int) := by omega
                  have ht1l : (t1 : Int) < (ts.length : Int) := by omega
                  have ht10' : (0 : Int) ≤ (t1 : Int) := by omega
                  have hwt1 : IntKind.i64.wrap (t1 : Int) = (t1 : Int) := wrap_id (by omega) (by omega)
                  obtain ⟨b', off', hsame, hbb', vc', vw', c1', _, s1', _⟩ := HP.out t1 (by omega)
                  obtain ⟨rfl, rfl⟩ : b = b' ∧ off = off' := by cases hsame; exact ⟨rfl, rfl⟩
                  obtain ⟨ac', cc', rfl, _, hpc'⟩ := s1'.ints.placed
                  rw [HV.out.len t1 (by omega)] at c1'
                  have c1' := (HU.out.b.cell (p := ⟨b, _, none⟩) hbb).trans c1'
                  obtain ⟨cb', co', rfl, hcb', e2⟩ := hpc' i (by rw [HV.out.len t1 (by omega)]; exact hil)
                  have hkey2 : (ts[t1]?.getD ([], [])).1[i]?.getD 0 = keyAt ts (k + 1) i := by rw [ht1]; rfl
                  rw [hkey2] at e2
                  obtain ⟨key2, hky2⟩ : ∃ z, keyAt ts (k + 1) i = z := ⟨_, rfl⟩
                  rw [hky2] at e2
                  have e2 := (HU.out.b.cell (p := ⟨cb', _, none⟩) hcb').trans e2
                  have HKY2 := Lib.hid hky2
                  have HT1 := Lib.hid (And.intro ht1 hk1)
                  clear hkey2 hky2 hsame s1' hpc' ht1 hk1
                  by_cases hneg : 0 ≤ key2
                  · have HF2 : Hid (false = (List.range (i + 1)).all fun c => !coverP ts k q c) := Lib.hid (by
                      rw [all_succ, ← HF.out]; simp [coverP, HKY.out, HKQ.out, HKY2.out, hneg, HT1.out.2])
                    have hkqb : (key == (q : Int)) = true := by simp [hkq]
                    subst hkq
                    clear HF
                    go_wp2
                    go_roundw
                    case rel => exact ⟨trivial, i + 1, false, hil, by go_num, rfl, HF2⟩
                    case measure => simp [intOf] <;> omega
                  · have HF2 : Hid (f = (List.range (i + 1)).all fun c => !coverP ts k q c) := Lib.hid (by
                      rw [all_succ, ← HF.out]; simp [coverP, HKY2.out, hneg])
                    have hkqb : (key == (q : Int)) = true := by simp [hkq]
                    subst hkq
                    clear HF
                    go_wp2
                    go_roundw
                    case rel => exact ⟨trivial, i + 1, f, hil, by go_num, rfl, HF2⟩
                    case measure => simp [intOf] <;> omega
                · have hk1i : ¬ (k : Int) + 1 < (ts.length : Int) := by omega
                  have HF2 : Hid (f = (List.range (i + 1)).all fun c => !coverP ts k q c) := Lib.hid (by
                    rw [all_succ, ← HF.out]; simp [coverP, hk1])
                  have hkqb : (key == (q : Int)) = true := by simp [hkq]
                  subst hkq
                  clear HF
                  go_wp2
                  go_roundw
                  case rel => exact ⟨trivial, i + 1, f, hil, by go_num, rfl, HF2⟩
                  case measure => simp [intOf] <;> omega
              · have hkqb : (key == (q : Int)) = false := by simpa using hkq
                have HF2 : Hid (f = (List.range (i + 1)).all fun c => !coverP ts k q c) := Lib.hid (by
                  rw [all_succ, ← HF.out]; simp [coverP, HKY.out, hkq])
                clear HF
                go_wp2
                go_roundw
                case rel => exact ⟨trivial, i + 1, f, hil, by go_num, rfl, HF2⟩
                case measure => simp [intOf] <;> omega
            · have hie : i = N := by omega
              subst hie
              have HFP : Hid (f = freeP ts k q) := Lib.hid (by rw [HF.out]; exact cover_free HV.out (by omega))
              clear HF
              cases f
              · have HU3 := Lib.hid (show FrW w #[.int .i64 W, .int .i64 H, .slice (some ⟨b, off, none⟩) ts.length cap] (.slice p1 n1 c1) (freeA ts pre ++ freeT ts k (q + 1)) wr from by
                  rw [freeT_no HFP.out.symm]; exact HU.out)
                clear HFP
                go_wp2
                go_roundw
                case rel => exact ⟨q + 1, _, hql, by go_num, rfl, HU3⟩
                case measure => simp [intOf] <;> omega
              · have HFY := Lib.hid (freeT_yes HFP.out.symm)
                clear HFP
                obtain ⟨bx, hbx⟩ : ∃ x, wr.heap.size = x := ⟨_, rfl⟩
                go_wp2_with (first | (at_builtin; refine stopHere ?_))
                intro _
                have X1 := Blk.newI wr bx #[.int .i64 k, .int .i64 q] 74 hbx
                have hB2 := (Below.refl _ wr).alloc (Nat.le_refl _) (.cells #[.int .i64 k, .int .i64 q] 74)
                have R1 := HU.out.r.past hB2
                have S1 := HU.out.s.past hB2
                have B1 := HU.out.b.trans (hB2.mono HU.out.b.size)
                have hsl := Blk.lt S1
                refine wpList_appB rfl _ _ rfl (w.heap.size + 1) _ (freeA ts pre ++ freeT ts k q) (by rfl) (by rw [BrR, HN1.out]; have := R1; rw [BrR, HN1.out] at this; exact this) bx k q (by rfl) X1 (by rw [HN1.out]; omega) (by omega) ?_
                intro v' y' q1 q2
                rw [List.append_assoc, ← HFY.out] at q1
                have HU3 := Lib.hid (show FrW w #[.int .i64 W, .int .i64 H, .slice (some ⟨b, off, none⟩) ts.length cap] v' (freeA ts pre ++ freeT ts k (q + 1)) y' from
                  ⟨q1, S1.kept q2 (fun e => by have := (ownRow_lt (by have := R1; exact this) _ e.symm).1; omega), B1.grown q2 (by have := B1.size; omega) (fun j hj => by have := (ownRow_lt (by have := R1; exact this) _ hj).1; omega)⟩)
                clear hbx X1 hB2 R1 S1 B1 hsl q1 q2
                go_wp2
                go_roundw
                case rel => exact ⟨q + 1, _, hql, by go_num, rfl, HU3⟩
                case measure => simp [intOf] <;> omega
        · have hqe : q = nb := by omega
          subst hqe
          have HU2 := Lib.hid (show FrW w #[.int .i64 W, .int .i64 H, .slice (some ⟨b, off, none⟩) ts.length cap] (.slice p1 n1 c1) (freeA ts (pre ++ [k])) u from by
            rw [freeA_snoc, show nbAt ts k = q from HNB.out]; exact HU.out)
          have HLN2 : Hid ((freeA ts (pre ++ [k])).length ≤ 144 * (pre ++ [k]).length) := Lib.hid (by
            have h1 := HLN.out
            have h2 := freeT_len ts k (nbAt ts k)
            have h3 : nbAt ts k = q := HNB.out
            rw [freeA_snoc, List.length_append, List.length_append]
            simp
            omega)
          go_wp2
          go_roundw
          case rel => exact ⟨k, (k : Int) - 1, _, pre ++ [k], by omega, rfl, Lib.hid rfl, rfl, HPR, HU2, HLN2⟩
          case measure => simp [intOf] <;> omega
section
attribute [local go_sem] Oper.semAt_some
/-- What lies below n₀, and the blocks of S. -/
def KL (n₀ : Nat) (S : List Nat) (k : Nat) (o : Obj) : Prop := k < n₀ ∨ (k ∈ S ∧ o.isCells = true)
theorem KL.loop {n₀ k : Nat} {S : List Nat} (h : n₀ ≤ k) (r : Loop) : ¬ KL n₀ S k (.loop r) := by
  rintro (h1 | ⟨_, h1⟩)
  · omega
  · cases h1
theorem Kept.cellL {n₀ : Nat} {S : List Nat} {w w' : World} (h : Kept (KL n₀ S) w w') {p : Addr} {v : Value} (hk : p.block < n₀) (hl : p.block < w.heap.size) (hc : w.cell? p = some v) : w'.cell? p = some v :=
  (World.cell?_of_block (by rw [Array.getElem?_eq_getElem hl]; exact h.same _ _ (Array.getElem?_eq_getElem hl) (.inl hk))).trans hc
theorem IntsAt.keptL {n₀ : Nat} {S : List Nat} {w w' : World} {v : Value} {l : List Int} (h : IntsAt w v l) (hk : ∀ k, v.ownBlock = some k → k < n₀) (hw : Kept (KL n₀ S) w w') : IntsAt w' v l := by
  obtain ⟨hl, h | ⟨b, off, cap, rfl, hcap, hb, hc⟩⟩ := h
  · exact ⟨hl, .inl h⟩
  · exact ⟨hl, .inr ⟨b, off, cap, rfl, hcap, Nat.lt_of_lt_of_le hb hw.size, fun i hi => hw.cellL (p := ⟨b, off + i, none⟩) (hk b rfl) hb (hc i hi)⟩⟩
theorem TiersAt.keptL {n₀ : Nat} {S : List Nat} {w w' : World} {v : Value} {l : List (List Int × List Int)} (h : TiersAt n₀ w v l) (hw : Kept (KL n₀ S) w w') : TiersAt n₀ w' v l := by
  obtain ⟨hl, hn, h | ⟨b, off, cap, rfl, hcap, hb, hc⟩⟩ := h
  · exact ⟨hl, Nat.le_trans hn hw.size, .inl h⟩
  · refine ⟨hl, Nat.le_trans hn hw.size, .inr ⟨b, off, cap, rfl, hcap, hb, fun i hi => ?_⟩⟩
    obtain ⟨vc, vw, h1, h2, ⟨h3, h4⟩, ⟨h5, h6⟩⟩ := hc i hi
    have hbw : b < w.heap.size := Nat.lt_of_lt_of_le hb hn
    exact ⟨vc, vw, hw.cellL (p := ⟨b, off + i * 2, none⟩) hb hbw h1, hw.cellL (p := ⟨b, off + i * 2 + 1, none⟩) hb hbw h2, ⟨h3.keptL h4 hw, h4⟩, ⟨h5.keptL h6 hw, h6⟩⟩
theorem ownFrom_keptL {β : Type} {n₀ B : Nat} {S : List Nat} {w : World} (hB : n₀ ≤ B) (hS : ∀ k ∈ S, k < B) : OwnFrom B (fun (_ : β) W => Kept (KL n₀ S) w W) := fun s X Y row hs hg hr =>
  ⟨Nat.le_trans hs.size hg.size, fun k o hk ho => by
    have hX := hs.same k o hk ho
    refine (hg.block k (Array.getElem?_eq_some_iff.1 hX).1 (fun e => ?_)).trans hX
    obtain ⟨h1, _⟩ := hr k e.symm
    rcases ho with h4 | ⟨h4, _⟩
    · omega
    · have := hS k h4; omega⟩
set_option maxRecDepth 100000 in
set_option maxHeartbeats 2000000 in
theorem tier_iterL (n₀ bs bt : Nat) (S : List Nat) (hbs : bs ∈ S) (hbt : bt ∈ S) (W H tv : Value) (ti : Nat) (ts : List (List Int × List Int)) (w : World)
    (h1 : Blk w bs #[W, H, tv] 143) (h2 : Blk w bt #[.int .i64 ti] 3) (ht : TiersAt n₀ w tv ts) (hti : ti < ts.length) :
    Iter Try.prog 99 #[.pointer (some ⟨bs, 0, none⟩), .pointer (some ⟨bt, 0, none⟩)] (fun c : Nat => #[Value.agg #[.int .i64 ti, .int .i64 c]]) (KL n₀ S) (List.range (ts[ti]?.getD ([], [])).2.length) w := by
  intro l J Jx Wd hkw hJ hJx hY h0
  have g1 : Blk Wd bs #[W, H, tv] 143 := hkw.same bs _ h1 (.inr ⟨hbs, rfl⟩)
  have g2 : Blk Wd bt #[.int .i64 ti] 3 := hkw.same bt _ h2 (.inr ⟨hbt, rfl⟩)
  obtain ⟨a, cap, rfl, hl, hn, hp⟩ := (ht.keptL hkw).placed
  obtain ⟨b, off, rfl, hb, vc, vw, c1, c2, _, ⟨hi, hik⟩⟩ := hp ti hti
  obtain ⟨cells, hcs⟩ : ∃ cells, (ts[ti]?.getD ([], [])).2 = cells := ⟨_, rfl⟩
  rw [hcs] at hi hY
  rw [hcs]
  obtain ⟨ac, capc, rfl, hlc, hpc⟩ := hi.placed
  have k0 := g1.cell (i := 2) (v := .slice (some ⟨b, off, none⟩) ts.length cap) rfl
  have k1 := g2.cell (i := 0) (v := .int .i64 ti) rfl
  have HG2 := Lib.hid g2
  have HY := Lib.hid hY
  have HH0 := Lib.hid h0
  clear hp hi hcs hY hpc hik ht h1 h2 g1 g2 h0
  refine callsIn_of_wp Try.func99 rfl trivial ?_ rfl
  simp only [Try.ntmps99, List.size_toArray, List.length_cons, List.length_nil, Nat.reduceAdd, Nat.reduceSub, Array.replicate_succ, Array.replicate_zero, List.push_toArray, List.append_toArray, List.nil_append, List.cons_append]
  gi_wp2
  gi_loopw [13] (fun i wr => ∃ k : Nat, k ≤ cells.length ∧ i = .int .i64 k ∧ Hid (J (List.range k) wr) ∧ Hid (Kept (KL n₀ S) Wd wr)) (fun i _ => cells.length - (intOf i).toNat)
  case atStart => exact ⟨0, Nat.zero_le _, rfl, Lib.hid HH0.out, Lib.hid (Kept.refl _ _)⟩
  case round =>
    obtain ⟨k, hk, rfl, HJ, HKK⟩ := hrel
    by_cases hlt : k < cells.length
    · have q0 := (show Blk wr bt #[.int .i64 ti] 3 from HKK.out.same bt _ HG2.out (.inr ⟨hbt, rfl⟩)).cell (i := 0) (v := .int .i64 ti) rfl
      have hsu : List.range k ++ [k] = List.range (k + 1) := List.range_succ.symm
      have HSU := Lib.hid hsu
      have hpre : ∀ m, m ≤ cells.length → List.range m <+: List.range cells.length := fun m hm => by
        have e : List.range m = (List.range cells.length).take m := by rw [List.take_range, Nat.min_eq_left hm]
        rw [e]; exact List.take_prefix _ _
      have HPRE := Lib.hid hpre
      have hyy := HY.out _ k wr HJ.out (by rw [hsu]; exact hpre _ (by omega))
      clear hsu hpre
      obtain ⟨fn, tmps, assign, body, hy, hR⟩ := hyy
      gi_wp2
      refine (roundIn_any hR).mono ?_
      rintro e W3 ⟨⟨rfl, hJ3, hk3⟩ | ⟨rfl, hJx3⟩, _⟩
      · have HJ3 := Lib.hid hJ3
        have HK3 := Lib.hid (HKK.out.trans hk3)
        clear hJ3 hk3
        gi_wp2
        go_roundw
        case rel => exact ⟨k + 1, by omega, by go_num, Lib.hid (by rw [← HSU.out]; exact HJ3.out), HK3⟩
        case measure => simp [intOf]; omega
      · have HJ3 := Lib.hid hJx3
        clear hJx3
        gi_wp2
        refine bodyPost_ret (results_none rfl _ _ _) rfl ?_
        exact ⟨⟨_, rfl⟩, .inr ⟨_, by rw [HSU.out]; exact HPRE.out _ (by omega), HJ3.out⟩⟩
    · have hke : k = cells.length := by omega
      subst hke
      gi_wp2
      go_end0
      exact ⟨⟨_, rfl⟩, .inl HJ.out⟩
set_option maxRecDepth 100000 in
set_option maxHeartbeats 2000000 in
theorem back_iterL (n₀ bt : Nat) (S : List Nat) (hbt : bt ∈ S) (tv : Value) (ts : List (List Int × List Int)) (w : World) (h2 : Blk w bt #[tv] 67) (ht : TiersAt n₀ w tv ts) (hts : ts.length ≤ 1000000) :
    ∃ f : Nat → Value, Iter Try.prog 98 #[.pointer (some ⟨bt, 0, none⟩)] (fun x : Nat × Value => #[Value.int .i64 x.1, x.2]) (KL n₀ S) (backL f ts.length) w := by
  obtain ⟨a, cap, rfl, hl, hn, hp⟩ := ht.placed
  have hf : ∃ f : Nat → Value, ∀ i, i < ts.length → ∃ b off vc vw, a = some ⟨b, off, none⟩ ∧ b < n₀ ∧ f i = .agg #[vc, vw] ∧ w.cell? ⟨b, off + i * 2, none⟩ = some vc ∧ w.cell? ⟨b, off + i * 2 + 1, none⟩ = some vw ∧ vc.cells = #[vc] ∧ vw.cells = #[vw] := by
    cases a with
    | none => exact ⟨fun _ => undef, fun i hi => by obtain ⟨b, off, e, _⟩ := hp i hi; cases e⟩
    | some ad =>
      refine ⟨fun i => tierV w ad.block ad.off i, fun i hi => ?_⟩
      obtain ⟨b, off, e, hb, vc, vw, c1, c2, ⟨i1, _⟩, ⟨i2, _⟩⟩ := hp i hi
      cases e
      obtain ⟨_, _, e1, _⟩ := i1.placed
      obtain ⟨_, _, e2, _⟩ := i2.placed
      exact ⟨b, off, vc, vw, rfl, hb, by simp [tierV, c1, c2], c1, c2, by rw [e1]; rfl, by rw [e2]; rfl⟩
  obtain ⟨f, hf⟩ := hf
  refine ⟨f, ?_⟩
  intro l J Jx Wd hkw hJ hJx hY h0
  have g2 : Blk Wd bt #[.slice a ts.length cap] 67 := hkw.same bt _ h2 (.inr ⟨hbt, rfl⟩)
  have k1 := g2.cell (i := 0) (v := .slice a ts.length cap) rfl
  have HG2 := Lib.hid g2
  have HY := Lib.hid hY
  have HF := Lib.hid hf
  have HKW := Lib.hid hkw
  have HJJ : Hid (J ((backL f ts.length).take (ts.length - ts.length)) Wd) := Lib.hid (by rw [Nat.sub_self]; exact h0)
  clear hp hf hY ht h2 g2 h0 hkw
  refine callsIn_of_wp Try.func98 rfl trivial ?_ rfl
  simp only [Try.ntmps98, List.size_toArray, List.length_cons, List.length_nil, Nat.reduceAdd, Nat.reduceSub, Array.replicate_succ, Array.replicate_zero, List.push_toArray, List.append_toArray, List.nil_append, List.cons_append]
  have hw0 : IntKind.i64.wrap ((ts.length : Int) - 1) = (ts.length : Int) - 1 := wrap_id (by omega) (by omega)
  gi_wp2
  gi_loopw [3] (fun i wr => ∃ k : Nat, k ≤ ts.length ∧ i = .int .i64 ((k : Int) - 1) ∧ Hid (J ((backL f ts.length).take (ts.length - k)) wr) ∧ Hid (Kept (KL n₀ S) Wd wr)) (fun i _ => (intOf i + 1).toNat)
  case atStart => exact ⟨ts.length, Nat.le_refl _, rfl, HJJ, Lib.hid (Kept.refl _ _)⟩
  case round =>
    obtain ⟨k, hk, rfl, HJ, HKK⟩ := hrel
    by_cases hlt : 1 ≤ k
    · obtain ⟨k, rfl⟩ : ∃ k', k = k' + 1 := ⟨k - 1, by omega⟩
      have hki : ((k + 1 : Nat) : Int) - 1 = (k : Int) := by omega
      rw [hki]
      have q0 := (show Blk wr bt #[.slice a ts.length cap] 67 from HKK.out.same bt _ HG2.out (.inr ⟨hbt, rfl⟩)).cell (i := 0) (v := .slice a ts.length cap) rfl
      obtain ⟨b, off, vc, vw, rfl, hb, hfk, c1, c2, v1, v2⟩ := HF.out k (by omega)
      have hbw : b < w.heap.size := Nat.lt_of_lt_of_le hb hn
      have hkt := HKW.out.trans HKK.out
      have c1 := hkt.cellL (p := ⟨b, off + k * 2, none⟩) hb hbw c1
      have c2 := hkt.cellL (p := ⟨b, off + k * 2 + 1, none⟩) hb hbw c2
      have hsu := backL_take f ts.length k (by omega)
      have HSU := Lib.hid hsu
      have hyy := HY.out _ (k, f k) wr HJ.out (by rw [hsu]; exact List.take_prefix _ _)
      rw [hfk] at hyy
      have hk0 : (0 : Int) ≤ (k : Int) := by omega
      have hk1 : (k : Int) < (ts.length : Int) := by omega
      clear hsu hkt
      dsimp only at hyy
      obtain ⟨fn, tmps, assign, body, hy, hR⟩ := hyy
      gi_wp2
      refine (roundIn_any hR).mono ?_
      rintro e W3 ⟨⟨rfl, hJ3, hk3⟩ | ⟨rfl, hJx3⟩, _⟩
      · have HJ3 : Hid (J ((backL f ts.length).take (ts.length - k)) W3) := Lib.hid (by rw [← HSU.out, hfk]; exact hJ3)
        have HK3 := Lib.hid (HKK.out.trans hk3)
        clear hJ3 hk3
        gi_wp2
        go_roundw
        case rel => exact ⟨k, by omega, rfl, HJ3, HK3⟩
        case measure => simp [intOf] <;> omega
      · have HJ3 : Hid (Jx ((backL f ts.length).take (ts.length - k)) W3) := Lib.hid (by rw [← HSU.out, hfk]; exact hJx3)
        clear hJx3
        gi_wp2
        refine bodyPost_ret (results_none rfl _ _ _) rfl ?_
        exact ⟨⟨_, rfl⟩, .inr ⟨_, List.take_prefix _ _, HJ3.out⟩⟩
    · obtain rfl : k = 0 := by omega
      have HJ2 : Hid (J (backL f ts.length) wr) := Lib.hid (by
        have := HJ.out
        rw [Nat.sub_zero, List.take_of_length_le (by simp [backL])] at this
        exact this)
      clear HJ
      gi_wp2
      go_end0
      exact ⟨⟨_, rfl⟩, .inl HJ2.out⟩
end
section
attribute [local go_sem] Oper.semAt_some
theorem range_innerB {α : Type} {P : Program} {g : Operand} {ps : Array Tmp} {assign body : Code} {Q : Exit → Act → World → Prop} {a : Act} {w : World}
    {l₀ : Nat} {r₀ : Loop} (hl₀ : w.heap[l₀]? = some (.loop r₀))
    {gf : Nat} {lb : Array Value} (hg : a.eval g = .func (.func gf) #[] lb) (eg : ∀ args w, (callFunc gf args).run P w = .ok (.enter gf args) w)
    {encs : α → Array Value} {K : Nat → Obj → Prop} {xs : List α} (hit : Iter P gf lb encs K xs w) (hK : ∀ k r, w.heap.size ≤ k → ¬ K k (.loop r)) (hps : ∀ x, (encs x).size = ps.size)
    (I : List α → World → Prop) (Ix : Code → List α → World → Prop) (hI : OwnFrom w.heap.size I) (hIx : ∀ c, OwnFrom w.heap.size (Ix c)) (h0 : I [] w) (vs : α → Array Value) (T : TypeId) (f : α → Nat → Act)
    (hassign : ∀ (l : Nat) (pre : List α) (x : α) (W : World) (Q : Act → World → Prop), I pre W → (∀ Bx W', KeepsFrom w.heap.size W W' → Kept K W W' → I pre W' → (Blk W' Bx (vs x) T ∧ w.heap.size ≤ Bx) → Q (f x Bx) W') →
      assign.wpIn (Fence.wide.inRound l) 9 P (Exit.then Q (fun _ _ _ => False)) { tmps := (ps.zip (encs x)).foldl (fun t (p, v) => t.setIfInBounds p v) a.tmps, defers := [] } W)
    (hbody : ∀ (l : Nat) (pre : List α) (x : α) (Bx : Nat) (W : World), w.heap.size ≤ l → (∃ r, W.heap[l]? = some (.loop r)) → I pre W → (Blk W Bx (vs x) T ∧ w.heap.size ≤ Bx) → (pre ++ [x]) <+: xs → body.wpIn (Fence.wide.inRound l) 9 P (roundP w.heap.size K I Ix (pre ++ [x]) W) (f x Bx) W)
    (hdone : ∀ (W : World), I xs W → Q .normal a W)
    (hstop : ∀ (c : Code) (pre : List α) (W : World), pre <+: xs → Ix c pre W → c.wpIn (Fence.wide.inRound l₀) 9 P Q a W) :
    (Code.rangeFunc g ps assign body).wpIn (Fence.wide.inRound l₀) 9 P Q a w :=
  range_inner hl₀ hg eg hit hK hps I Ix hI hIx h0 (fun x a' W => ∃ Bx, (Blk W Bx (vs x) T ∧ w.heap.size ≤ Bx) ∧ a' = f x Bx)
    (fun x a' s A C row hs hgr hr => by
      obtain ⟨Bx, ⟨h2, h4⟩, h3⟩ := hs
      refine ⟨Bx, ⟨h2.kept hgr (fun e => ?_), h4⟩, h3⟩
      obtain ⟨_, o, ho, hc⟩ := hr Bx e.symm
      rw [show A.heap[Bx]? = _ from h2] at ho
      cases ho
      cases hc)
    (fun l pre x W Q hi hQ => hassign l pre x W Q hi fun Bx W' k1 k2 hi' hx => hQ _ _ k1 k2 hi' ⟨Bx, hx, rfl⟩)
    (fun l pre x a' W hl hr hi ha hp => by obtain ⟨Bx, h2, rfl⟩ := ha; exact hbody l pre x Bx W hl hr hi h2 hp) hdone hstop
def KFreeTo (w : World) (W H : Int) (ts : List (List Int × List Int)) (e : Ending) (w' : World) : Prop :=
  Below w.heap.size w w' ∧
  ((checkF W H ts ≠ 0 ∧ e = .returned (.tuple #[.slice none 0 0, .int .i64 (checkF W H ts)])) ∨
   (checkF W H ts = 0 ∧ ∃ v, e = .returned (.tuple #[v, .int .i64 0]) ∧ BrR w' (w.heap.size + 1) v (freeA ts (List.range ts.length).reverse)))
/-- What holds before each tier. -/
structure KFreeI (n₀ : Nat) (w W0 : World) (sv : Array Value) (b1 : Nat) (v : Value) (l : List (Nat × Nat)) (wr : World) : Prop where
  r : BrR wr (w.heap.size + 1) v l
  c : Blk wr b1 #[v] 81
  s : Blk wr (b1 + 1) sv 143
  k : Kept (KL n₀ [b1 + 1, b1 + 2]) W0 wr
  b : Below w.heap.size w wr
theorem KFreeI.past {n₀ : Nat} {w W0 : World} {sv : Array Value} {b1 : Nat} {v : Value} {l : List (Nat × Nat)} {wr wr' : World} (h : KFreeI n₀ w W0 sv b1 v l wr) (hb : Below wr.heap.size wr wr') : KFreeI n₀ w W0 sv b1 v l wr' :=
  ⟨h.r.past hb, h.c.past hb, h.s.past hb, h.k.trans (Kept.of_below hb), h.b.trans (hb.mono h.b.size)⟩
theorem KFreeI.own {β : Type} {n₀ : Nat} {w W0 : World} {sv : Array Value} {b1 : Nat} {v : Value} {l : List (Nat × Nat)} {B : Nat} (h1 : b1 + 2 < B) (h0 : n₀ ≤ B) (h2 : w.heap.size ≤ B) : OwnFrom B (fun (_ : β) wr => KFreeI n₀ w W0 sv b1 v l wr) := fun s X Y row hs hg hr =>
  have ne : ∀ j, j < B → some j ≠ row := fun j hj e => by have := (hr j e.symm).1; omega
  ⟨own_kept hs.r hg (fun y hy e => by
      obtain ⟨_, o, h3, h4⟩ := hr y e
      obtain ⟨_, _, vs, f, h5⟩ := ownRow_lt hs.r y hy
      rw [h5] at h3
      cases h3
      cases h4), hs.c.kept hg (ne _ (by omega)), hs.s.kept hg (ne _ (by omega)), ownFrom_keptL (β := Unit) h0 (fun k hk => by simp at hk; omega) () X Y row hs.k hg hr, ownFrom_below (β := Unit) (Nat.le_refl _) h2 () X Y row hs.b hg hr⟩
theorem row_kept {n₀ base b1 k : Nat} {S : List Nat} {W6 w3 : World} {v v' : Value} {tmp : Obj} {xs : List Value} (hrow : W6.ownsRow base 74 2 v k xs) (hgrow : (W6.alloc tmp).grownBy w3 v.ownBlock) (h0 : n₀ ≤ base) (hb1 : n₀ ≤ b1)
    (hS : ∀ k ∈ S, k ≠ b1 ∧ ∃ vs T f, W6.heap[k]? = some (.cells vs T f) ∧ T ≠ 74) : Kept (KL n₀ S) W6 (w3.setCell ⟨b1, 0, none⟩ v') :=
  ⟨by rw [World.size_setCell]; have h1 := hgrow.size; simp at h1; omega, fun j o hj ho => by
    have hjl := (Array.getElem?_eq_some_iff.1 hj).1
    have hne : j ≠ b1 := by
      rcases ho with h | ⟨h, _⟩
      · omega
      · exact (hS j h).1
    have hnr : some j ≠ v.ownBlock := fun e => by
      obtain ⟨h1, _, vs, f, h2⟩ := ownRow_lt hrow j e.symm
      rcases ho with h | ⟨h, _⟩
      · omega
      · obtain ⟨_, vs', T, f', h3, h4⟩ := hS j h
        rw [h2] at h3
        cases h3
        exact h4 rfl
    rw [Below.heap_setCell _ ⟨b1, 0, none⟩ _ j hne, hgrow.block j (by simp; omega) hnr, Below.heap_alloc W6 tmp j hjl]
    exact hj⟩
theorem row_others {base b1 k : Nat} {W6 w3 : World} {v v' : Value} {tmp : Obj} {xs : List Value} (hrow : W6.ownsRow base 74 2 v k xs) (hgrow : (W6.alloc tmp).grownBy w3 v.ownBlock) : KeepsOthers W6 (w3.setCell ⟨b1, 0, none⟩ v') := by
  refine ((KeepsOthers.alloc W6 tmp).trans (KeepsOthers.of_grownBy hgrow fun j o ej hj => ?_)).trans (KeepsOthers.setCell _ _ _)
  obtain ⟨_, h1, vs, f, h2⟩ := ownRow_lt hrow j ej
  rw [Below.heap_alloc W6 tmp j h1, h2] at hj
  cases hj
  rfl
theorem KFreeI.append {n₀ : Nat} {w W0 : World} {sv : Array Value} {b1 n d : Nat} {v v' : Value} {l : List (Nat × Nat)} {W6 w3 : World} {tmp : Obj} (h : KFreeI n₀ w W0 sv b1 v l W6) (hown : BrR w3 (w.heap.size + 1) v' (l ++ [(n, d)])) (hgrow : (W6.alloc tmp).grownBy w3 v.ownBlock)
    (hn : n₀ ≤ w.heap.size) (hb1 : w.heap.size + 1 ≤ b1) (hK : Kept (KL n₀ [b1 + 1, b1 + 2]) W6 (w3.setCell ⟨b1, 0, none⟩ v')) : Blk w3 b1 #[v] 81 ∧ KFreeI n₀ w W0 sv b1 v' (l ++ [(n, d)]) (w3.setCell ⟨b1, 0, none⟩ v') := by
  have hnc : some b1 ≠ v.ownBlock := fun e => by
    obtain ⟨_, _, vs, f, h2⟩ := ownRow_lt h.r b1 e.symm
    rw [show W6.heap[b1]? = _ from h.c] at h2
    cases h2
  have c3 : Blk w3 b1 #[v] 81 := (h.c.alloc tmp).kept hgrow hnc
  have hnc' : some b1 ≠ v'.ownBlock := fun e => by
    obtain ⟨_, _, vs, f, h2⟩ := ownRow_lt hown b1 e.symm
    rw [show w3.heap[b1]? = _ from c3] at h2
    cases h2
  refine ⟨c3, own_kept hown (grownBy_setCell w3 ⟨b1, 0, none⟩ v') (fun j hj e => hnc' (by rw [hj]; exact e)), ?_, ?_, h.k.trans hK, ?_⟩
  · exact (show Boxed w3 b1 81 v from c3).set v'
  · exact hK.same (b1 + 1) _ h.s (.inr ⟨by simp, rfl⟩)
  · exact ((h.b.alloc h.b.size tmp).grown hgrow (by have := h.b.size; simp; omega) (fun j hj => by have := (ownRow_lt h.r j hj).1; omega)).setCell (p := ⟨b1, 0, none⟩) (show w.heap.size ≤ b1 by omega) v'
theorem KL.mid {n₀ : Nat} {S : List Nat} {A B C : World} (h1 : Kept (KL n₀ S) A B) (h2 : Kept (KL n₀ S) A C) (hBC : B.heap.size ≤ C.heap.size) (hn : n₀ ≤ A.heap.size) (hS : ∀ k ∈ S, ∃ o, A.heap[k]? = some o ∧ o.isCells = true) : Kept (KL n₀ S) B C :=
  ⟨hBC, fun k o hk ho => by
    obtain ⟨o', h3, h4⟩ : ∃ o', A.heap[k]? = some o' ∧ KL n₀ S k o' := by
      rcases ho with h | ⟨h, _⟩
      · exact ⟨_, Array.getElem?_eq_getElem (by omega), .inl h⟩
      · obtain ⟨o', h5, h6⟩ := hS k h
        exact ⟨o', h5, .inr ⟨h, h6⟩⟩
    have h7 := h1.same k o' h3 h4
    rw [hk] at h7
    cases h7
    exact h2.same k o h3 h4⟩
theorem freeA_len {ts : List (List Int × List Int)} : ∀ {l : List Nat}, (∀ t ∈ l, nbAt ts t ≤ 144) → (freeA ts l).length ≤ 144 * l.length
  | [], _ => by simp [freeA]
  | t :: l, h => by
    have h1 := freeA_len (l := l) (fun t ht => h t (by simp [ht]))
    have h2 := freeT_len ts t (nbAt ts t)
    have h3 := h t (by simp)
    have e : freeA ts (t :: l) = freeT ts t (nbAt ts t) ++ freeA ts l := by simp [freeA]
    rw [e, List.length_append, List.length_cons]
    omega
set_option maxRecDepth 100000 in
set_option maxHeartbeats 4000000 in
theorem kFree_any (n₀ : Nat) (W H : Int) (tv : Value) (ts : List (List Int × List Int)) (w : World) (ht : TiersAt n₀ w tv ts) :
    Calls Try.prog 35 #[.agg #[.int .i64 W, .int .i64 H, tv]] w (KFreeTo w W H ts) := by
  obtain ⟨a, cap, rfl, hl, hn, hp⟩ := ht.placed
  have A1 := Blk.new w #[.int .i64 W, .int .i64 H, .slice a ts.length cap] 69
  have BB := (Below.refl _ w).alloc (Nat.le_refl _) (.cells #[.int .i64 W, .int .i64 H, .slice a ts.length cap] 69)
  have s0 := A1.cell (i := 0) (v := .int .i64 W) rfl
  have s1 := A1.cell (i := 1) (v := .int .i64 H) rfl
  have s2 := A1.cell (i := 2) (v := .slice a ts.length cap) rfl
  have HC := Lib.hid (checkStack_any n₀ W H _ ts _ (ht.past BB))
  obtain ⟨er, her⟩ : ∃ er, checkF W H ts = er := ⟨_, rfl⟩
  rw [her] at HC
  have HE := Lib.hid her
  have HT := Lib.hid ht
  have HA1 := Lib.hid A1
  have HBB := Lib.hid BB
  clear A1 BB ht hp her
  by_cases he : er = 0
  · subst he
    obtain ⟨k1, k2, k3, k4, k5⟩ := check_parts HE.out
    have hN1 := prod_range k1 k2
    have HN := Lib.hid k4
    clear k1 k2 k4 k5
    refine (callsIn_wide (n := 9)).1 ?_
    refine callsIn_of_wp_marks Try.func35 rfl trivial ?_ rfl
    simp only [Try.ntmps35, List.size_toArray, List.length_cons, List.length_nil, Nat.reduceAdd, Nat.reduceSub, Array.replicate_succ, Array.replicate_zero, List.push_toArray, List.append_toArray, List.nil_append, List.cons_append]
    gi_wp2_with fail
    refine ⟨trivial, ?_⟩
    refine (callsIn_wide.2 HC.out).mono ?_
    rintro e w2 ⟨rfl, hb2⟩
    have A2 := HA1.out.past hb2
    have HB2 := Lib.hid (HBB.out.trans (hb2.mono HBB.out.size))
    clear s0 s1 s2 hb2 HA1 HBB HC
    obtain ⟨b1, hb1⟩ : ∃ x, w2.heap.size = x := ⟨_, rfl⟩
    have A3 := A2.alloc (.cells #[.slice none 0 0] 81)
    have A4 := A3.alloc (.cells #[.int .i64 W, .int .i64 H, .slice a ts.length cap] 143)
    have x0 := A3.cell (i := 0) (v := .int .i64 W) rfl
    have x1 := A3.cell (i := 1) (v := .int .i64 H) rfl
    have x2 := A3.cell (i := 2) (v := .slice a ts.length cap) rfl
    have y2 := A4.cell (i := 2) (v := .slice a ts.length cap) rfl
    have C3 := (Blk.newI w2 b1 #[.slice none 0 0] 81 hb1).alloc (.cells #[.int .i64 W, .int .i64 H, .slice a ts.length cap] 143)
    have C4 := Blk.newI (w2.alloc (.cells #[.slice none 0 0] 81)) (b1 + 1) #[.int .i64 W, .int .i64 H, .slice a ts.length cap] 143 (by simp [hb1])
    have B4 := ((Below.refl _ w2).alloc (Nat.le_refl _) (.cells #[.slice none 0 0] 81)).alloc (by simp) (.cells #[.int .i64 W, .int .i64 H, .slice a ts.length cap] 143)
    have hs4 : ((w2.alloc (.cells #[.slice none 0 0] 81)).alloc (.cells #[.int .i64 W, .int .i64 H, .slice a ts.length cap] 143)).heap.size = b1 + 2 := by simp [hb1]
    have HS4 := Lib.hid hs4
    have HB1 := Lib.hid hb1
    clear hs4
    gi_wp2_with fail
    refine ⟨trivial, ?_⟩
    obtain ⟨w4, hw4⟩ : ∃ x, (w2.alloc (.cells #[.slice none 0 0] 81)).alloc (.cells #[.int .i64 W, .int .i64 H, .slice a ts.length cap] 143) = x := ⟨_, rfl⟩
    rw [hw4] at A4 y2 C3 C4 B4 HS4 ⊢
    clear hw4 x0 x1 x2 A3
    refine (callsIn_wide.2 (back_mk a ts.length cap w4)).mono ?_
    rintro e w7 ⟨rfl, rfl⟩
    have hb7 := (Below.refl w4.heap.size w4).alloc (Nat.le_refl _) (.cells #[.slice a ts.length cap] 67)
    have BT := Blk.newI w4 (b1 + 2) #[.slice a ts.length cap] 67 HS4.out
    have hs7 : (w4.alloc (.cells #[.slice a ts.length cap] 67)).heap.size = b1 + 3 := by simp [HS4.out]
    have hwb : w.heap.size + 1 ≤ b1 := by have h1 := HB2.out.size; have h2 := HB1.out; have h3 := A2.lt; omega
    have P7 : KFreeI n₀ w (w4.alloc (.cells #[.slice a ts.length cap] 67)) #[.int .i64 W, .int .i64 H, .slice a ts.length cap] b1 (.slice none 0 0) (freeA ts []) (w4.alloc (.cells #[.slice a ts.length cap] 67)) :=
      ⟨⟨by simp [freeA, flatL], .inl ⟨rfl, rfl⟩⟩, C3.alloc _, C4.alloc _, Kept.refl _ _, (HB2.out.trans (B4.mono HB2.out.size)).trans (hb7.mono (HB2.out.trans (B4.mono HB2.out.size)).size)⟩
    obtain ⟨w7, hw7⟩ : ∃ x, w4.alloc (.cells #[.slice a ts.length cap] 67) = x := ⟨_, rfl⟩
    have hs44 := HS4.out
    rw [hw7] at BT hs7 P7 ⊢
    rw [hs44]
    clear hw7 hb7 A4 A2 C3 C4 B4 y2 HS4 hs44
    have T7 := HT.out.past P7.b
    obtain ⟨f, hit⟩ := back_iterL n₀ (b1 + 2) [b1 + 1, b1 + 2] (by simp) _ ts w7 BT T7 (by omega)
    have HP7 := Lib.hid P7
    have HBT := Lib.hid BT
    have HFEW : Hid (∀ t, t < ts.length → nbAt ts t ≤ 144) := Lib.hid (stackV_of HE.out).few
    clear P7 BT T7
    gi_wp2_with fail
    apply range_outer1 (gf := 98) (lb := #[.pointer (some ⟨b1 + 2, 0, none⟩)]) rfl (enters_of Try.func98 (by kernel_rfl) rfl)
      hit (fun j r hj => KL.loop (by have := HP7.out.b.size; omega) r) (fun _ => rfl)
      (fun pre W' => ∃ v, KFreeI n₀ w w7 #[.int .i64 W, .int .i64 H, .slice a ts.length cap] b1 v (freeA ts (pre.map (·.1))) W') (fun _ _ _ => False)
      (fun s A C row hs hg hr => by obtain ⟨v, h⟩ := hs; exact ⟨v, KFreeI.own (β := Unit) (by omega) (by omega) (by omega) () A C row h hg hr⟩)
      (fun _ _ _ _ _ hs _ _ => hs) ⟨_, HP7.out⟩
    case hassign =>
      intro l pre x W' Q hi hQ
      gi_wp2
      exact hQ _ _ (KeepsFrom.refl _ _) (Kept.refl _ _) hi rfl
    case hbody =>
      rintro l pre ⟨ti, tz⟩ W1 hl ⟨r, hr⟩ ⟨v0, hI⟩ hpre
      have hti : ti < ts.length := by
        have h9 := hpre.subset (by simp : (ti, tz) ∈ pre ++ [(ti, tz)])
        simp [backL] at h9
        obtain ⟨a9, h8, h10, _⟩ := h9
        omega
      have HPM : Hid ((∀ t ∈ pre.map (·.1), t < ts.length) ∧ pre.length ≤ 10) := Lib.hid ⟨fun t ht => by
          obtain ⟨p, hp1, rfl⟩ := List.mem_map.1 ht
          have h9 := hpre.subset (by simp [hp1] : p ∈ pre ++ [(ti, tz)])
          obtain ⟨i9, h8, rfl⟩ : ∃ i, i < ts.length ∧ (i, f i) = p := by
            obtain ⟨i, hi, hp2⟩ := List.mem_map.1 h9
            exact ⟨i, by simpa using hi, hp2⟩
          exact h8, by have h9 := hpre.length_le; simp [backL] at h9; omega⟩
      have x0 := hI.s.cell (i := 0) (v := .int .i64 W) rfl
      have x1 := hI.s.cell (i := 1) (v := .int .i64 H) rfl
      have x2 := hI.s.cell (i := 2) (v := .slice a ts.length cap) rfl
      have HI := Lib.hid hI
      clear hI
      gi_wp2_with fail
      refine ⟨trivial, ?_⟩
      refine (CallsIn.inRound l (callsIn_wide.2 (tier_mk (.int .i64 W) (.int .i64 H) (.slice a ts.length cap) ti _))).mono ?_
      rintro e w9 ⟨rfl, rfl⟩
      clear x0 x1 x2
      gi_wp2_with fail
      obtain ⟨b8, hb8⟩ : ∃ x, W1.heap.size = x := ⟨_, rfl⟩
      have hb9 := ((Below.refl W1.heap.size W1).alloc (Nat.le_refl _) (.cells #[.int .i64 W, .int .i64 H, .slice a ts.length cap] 143)).alloc (by simp) (.cells #[.int .i64 ti] 3)
      have SX := (Blk.newI W1 b8 #[.int .i64 W, .int .i64 H, .slice a ts.length cap] 143 hb8).alloc (.cells #[.int .i64 ti] 3)
      have TX := Blk.newI (W1.alloc (.cells #[.int .i64 W, .int .i64 H, .slice a ts.length cap] 143)) (b8 + 1) #[.int .i64 ti] 3 (by simp [hb8])
      have hs9 : ((W1.alloc (.cells #[.int .i64 W, .int .i64 H, .slice a ts.length cap] 143)).alloc (.cells #[.int .i64 ti] 3)).heap.size = b8 + 2 := by simp [hb8]
      have hb78 : b1 + 3 ≤ b8 := by have h1 := HI.out.k.size; omega
      have I9 := HI.out.past hb9
      have hrl : W1.heap[l]? = some (.loop r) := hr
      have hr9 : ((W1.alloc (.cells #[.int .i64 W, .int .i64 H, .slice a ts.length cap] 143)).alloc (.cells #[.int .i64 ti] 3)).heap[l]? = some (.loop r) := (hb9.block l (Array.getElem?_eq_some_iff.1 hr).1).trans hr
      obtain ⟨w9, hw9⟩ : ∃ x, (W1.alloc (.cells #[.int .i64 W, .int .i64 H, .slice a ts.length cap] 143)).alloc (.cells #[.int .i64 ti] 3) = x := ⟨_, rfl⟩
      rw [hw9] at SX TX hs9 I9 hr9 hb9 ⊢
      rw [hb8]
      clear hw9
      have T9 := HT.out.past I9.b
      have hti9 := tier_iterL n₀ b8 (b8 + 1) [b8, b8 + 1] (by simp) (by simp) _ _ _ ti ts w9 SX TX T9 hti
      obtain ⟨nb, hnb⟩ : ∃ nb, (ts[ti]?.getD ([], [])).2.length = nb := ⟨_, rfl⟩
      rw [hnb] at hti9
      have HNB := Lib.hid hnb
      have HI9 := Lib.hid I9
      have HB9 := Lib.hid hb9
      have HSX := Lib.hid (And.intro SX TX)
      clear SX TX I9 T9 hnb hb9 hrl hr
      apply range_innerB (l₀ := l) (r₀ := r) hr9 (gf := 99) (lb := #[.pointer (some ⟨b8, 0, none⟩), .pointer (some ⟨b8 + 1, 0, none⟩)]) rfl (enters_of Try.func99 (by kernel_rfl) rfl)
        hti9 (fun j r hj => KL.loop (by have := HI9.out.b.size; omega) r) (fun _ => rfl)
        (fun pre' W' => (∃ v, KFreeI n₀ w w7 #[.int .i64 W, .int .i64 H, .slice a ts.length cap] b1 v (freeA ts (pre.map (·.1)) ++ (pre'.filter (freeP ts ti)).map (fun b => (ti, b))) W') ∧ Kept (KL n₀ [b8, b8 + 1]) w9 W' ∧ KeepsFrom w7.heap.size w9 W') (fun _ _ _ => False)
        (OwnFrom.and (fun s A C row hs hg hr => by obtain ⟨v, h⟩ := hs; exact ⟨v, KFreeI.own (β := Unit) (by omega) (by have := HI9.out.b.size; omega) (by have := HI9.out.b.size; omega) () A C row h hg hr⟩) (OwnFrom.and (ownFrom_keptL (by have := HI9.out.b.size; omega) (fun k hk => by simp at hk; omega)) (ownFrom_keepsFrom (by have := HI9.out.k.size; omega))))
        (fun _ _ _ _ _ hs _ _ => hs) ⟨⟨_, by rw [List.filter_nil, List.map_nil, List.append_nil]; exact HI9.out⟩, Kept.refl _ _, KeepsFrom.refl _ _⟩ (fun x : Nat => #[.int .i64 ti, .int .i64 x]) 74
      case hassign =>
        rintro l' pre' x W' Q ⟨⟨v, hi1⟩, hi2, hi3⟩ hQ
        obtain ⟨kb, hkb⟩ : ∃ kb, W'.heap.size = kb := ⟨_, rfl⟩
        have hX := Blk.newI W' kb #[.int .i64 ti, .int .i64 x] 74 hkb
        have hbx := (Below.refl _ W').alloc (Nat.le_refl _) (.cells #[.int .i64 ti, .int .i64 x] 74)
        have hsz : w9.heap.size ≤ kb := by have := hi2.size; omega
        have HQ := Lib.hid (hQ kb _ ((KeepsOthers.alloc _ _).from _) (Kept.alloc _ _ _) ⟨⟨v, hi1.past hbx⟩, hi2.trans (Kept.of_below hbx), hi3.trans (KeepsFrom.of_below hbx)⟩ ⟨hX, hsz⟩)
        clear hQ hX hbx hi1 hi2 hi3
        gi_wp2
        exact HQ.out
      case hbody =>
        rintro l' pre' x Bx W' hl' ⟨r', hr'⟩ ⟨⟨v, hi1⟩, hi2, hi3⟩ ⟨hBx, hBx2⟩ hpre'
        obtain ⟨hpx, hx⟩ := range_pre hpre'
        have hc := isFree_any n₀ W H _ ti x ts W' (W * H).toNat HN.out (by omega) (by omega) (HT.out.past hi1.b) hti
        obtain ⟨q, hq⟩ : ∃ q, freeP ts ti x = q := ⟨_, rfl⟩
        rw [hq] at hc
        have HC := Lib.hid hc
        have HQ := Lib.hid hq
        have k0 := hi1.s.cell (i := 0) (v := .int .i64 W) rfl
        have k1 := hi1.s.cell (i := 1) (v := .int .i64 H) rfl
        have k2 := hi1.s.cell (i := 2) (v := .slice a ts.length cap) rfl
        have z0 := hBx.cell (i := 0) (v := .int .i64 ti) rfl
        have z1 := hBx.cell (i := 1) (v := .int .i64 x) rfl
        have HI1 := Lib.hid hi1
        have HI2 := Lib.hid hi2
        have HI3 := Lib.hid hi3
        have HBX := Lib.hid hBx
        have HPL : Hid (pre'.length = x) := Lib.hid (by rw [hpx, List.length_range])
        clear hc hq hi1 hi2 hi3 hBx hpre' hpx
        gi_wp2_with fail
        refine ⟨trivial, ?_⟩
        refine (CallsIn.inRound l' (callsIn_wide.2 HC.out)).mono ?_
        rintro e w6 ⟨rfl, hb6⟩
        have I6 := HI1.out.past hb6
        have K6 := HI2.out.trans (Kept.of_below (K := KL n₀ [b8, b8 + 1]) hb6)
        have KF6 := HI3.out.trans (KeepsFrom.of_below (B := w7.heap.size) hb6)
        have HB6 := Lib.hid hb6
        have HI6 := Lib.hid I6
        have HK6 := Lib.hid K6
        have HKF6 := Lib.hid KF6
        have HX6 := Lib.hid (HBX.out.past hb6)
        clear k0 k1 k2 z0 z1 hb6 I6 K6 KF6 HC
        cases q
        · have HFL : Hid (((pre' ++ [x]).filter (freeP ts ti)).map (fun b => (ti, b)) = (pre'.filter (freeP ts ti)).map (fun b => (ti, b))) := Lib.hid (by rw [List.filter_append]; simp [HQ.out])
          gi_wp2
          exact ⟨KeepsFrom.of_below HB6.out, Kept.of_below HB6.out, ⟨v, by rw [HFL.out]; exact HI6.out⟩, HK6.out, HKF6.out⟩
        · have HFL : Hid (freeA ts (pre.map (·.1)) ++ ((pre' ++ [x]).filter (freeP ts ti)).map (fun b => (ti, b)) = (freeA ts (pre.map (·.1)) ++ (pre'.filter (freeP ts ti)).map (fun b => (ti, b))) ++ [(ti, x)]) := Lib.hid (by rw [List.filter_append, List.append_assoc]; simp [HQ.out])
          obtain ⟨ll, hll⟩ : ∃ ll, freeA ts (pre.map (·.1)) ++ (pre'.filter (freeP ts ti)).map (fun b => (ti, b)) = ll := ⟨_, rfl⟩
          rw [hll] at HFL HI6 HI1
          have hlen : ll.length ≤ 1000000 := by
            have h1 := freeA_len (ts := ts) (l := pre.map (·.1)) (fun t ht => HFEW.out t (HPM.out.1 t ht))
            have h2 := List.length_filter_le (freeP ts ti) pre'
            have h3 := HPM.out.2
            have h4 := HPL.out
            have h5 := HFEW.out ti hti
            have h6 : nbAt ts ti = nb := HNB.out
            rw [← hll, List.length_append, List.length_map]
            rw [List.length_map] at h1
            omega
          obtain ⟨pv, cv, hsh⟩ := HI6.out.r.shape
          obtain ⟨n1, hn1⟩ : ∃ n, ll.length = n := ⟨_, rfl⟩
          have HR : Hid (w6.ownsRow (w.heap.size + 1) 74 2 v n1 (flatL ll)) := Lib.hid (by rw [← hn1]; exact HI6.out.r)
          rw [hn1] at hsh hlen
          subst hsh
          have HN1 := Lib.hid hn1
          obtain ⟨i0, hi, hz0, hz1, hz2⟩ := info_parts infoBrick2
          have c0 := HI6.out.c.cell (i := 0) (v := .slice pv n1 cv) rfl
          have f0 := HI6.out.c.fr (i := 0)
          have z0 := HX6.out.cell (i := 0) (v := .int .i64 ti) rfl
          have z1 := HX6.out.cell (i := 1) (v := .int .i64 x) rfl
          have hws : w.heap.size + 1 ≤ w6.heap.size := by have := HI6.out.c.lt; omega
          clear hn1 hll
          gi_wp2_with (first | (gi_at_builtin; refine stopHere ?_))
          intro _
          refine wpListIn_append_own _ rfl _ _ 81 rfl (w.heap.size + 1) 74 i0 (.agg #[.int .i64 0, .int .i64 0]) 2 16 undBricks2 hi hz0 hz1 hz2 rfl (by decide) (.slice pv n1 cv) n1 (flatL ll) rfl (HR.out.alloc _) ⟨w6.heap.size, 0, none⟩ 1 1 [.int .i64 ti, .int .i64 x] rfl rfl (cell_two_new _ _ _ _) (by simp [Value.oneCell']) (by unfold maxLen; omega) (by omega) (by simp; omega) ?_
          intro v' w3 hown3 hgrow3 _
          have hown : BrR w3 (w.heap.size + 1) v' (ll ++ [(ti, x)]) := by
            rw [BrR, flatL_snoc', List.length_append, HN1.out]; exact hown3
          have hk1 : Kept (KL n₀ [b1 + 1, b1 + 2]) w6 (w3.setCell ⟨b1, 0, none⟩ v') := row_kept HR.out hgrow3 (by omega) (by omega) (fun k hk => by
            rcases (by simpa using hk : k = b1 + 1 ∨ k = b1 + 2) with rfl | rfl
            · exact ⟨by omega, _, _, _, HI6.out.s, by decide⟩
            · exact ⟨by omega, _, _, _, HI6.out.k.same (b1 + 2) _ HBT.out (.inr ⟨by simp, rfl⟩), by decide⟩)
          have hk2 : Kept (KL n₀ [b8, b8 + 1]) w6 (w3.setCell ⟨b1, 0, none⟩ v') := row_kept HR.out hgrow3 (by omega) (by omega) (fun k hk => by
            rcases (by simpa using hk : k = b8 ∨ k = b8 + 1) with rfl | rfl
            · exact ⟨by omega, _, _, _, HK6.out.same _ _ HSX.out.1 (.inr ⟨by simp, rfl⟩), by decide⟩
            · exact ⟨by omega, _, _, _, HK6.out.same _ _ HSX.out.2 (.inr ⟨by simp, rfl⟩), by decide⟩)
          obtain ⟨hc3, hnew⟩ := KFreeI.append HI6.out hown hgrow3 hn (by omega) hk1
          have hko := row_others (b1 := b1) (v' := v') HR.out hgrow3
          obtain ⟨g3, cap3, rfl⟩ := ownsRow_succ hown3
          have c1 := hc3.cell (i := 0) (v := .slice pv n1 cv) rfl
          have f1 := hc3.fr (i := 0)
          have HNEW := Lib.hid hnew
          have HKK := Lib.hid (And.intro hk1 (And.intro hk2 hko))
          clear hk1 hk2 hnew hko hown hown3 hgrow3 c0 f0 hc3
          gi_wp2
          exact ⟨(KeepsFrom.of_below HB6.out).trans (HKK.out.2.2.from _), (Kept.of_below HB6.out).trans HKK.out.2.1, ⟨_, by rw [HFL.out]; exact HNEW.out⟩, HK6.out.trans HKK.out.2.1, HKF6.out.trans (HKK.out.2.2.from _)⟩
      case hdone =>
        rintro W' ⟨⟨v, hi1⟩, hi2, hi3⟩
        have hfl : freeA ts (pre.map (·.1)) ++ ((List.range nb).filter (freeP ts ti)).map (fun b => (ti, b)) = freeA ts ((pre ++ [(ti, tz)]).map (·.1)) := by
          rw [List.map_append, List.map_cons, List.map_nil, freeA_snoc, show nbAt ts ti = nb from HNB.out]; rfl
        rw [hfl] at hi1
        have HI1 := Lib.hid hi1
        have HKO := Lib.hid (HI.out.k.size)
        have HK := Lib.hid ((KeepsFrom.of_below (B := w7.heap.size) HB9.out).trans hi3)
        have hsz := hi2.size
        clear hi1 hi2 hi3 hfl
        have HFIN := Lib.hid (KL.mid HI.out.k HI1.out.k (by have := HB9.out.size; omega) (by have := HP7.out.b.size; omega) (fun k hk => by
          rcases (by simpa using hk : k = b1 + 1 ∨ k = b1 + 2) with rfl | rfl
          · exact ⟨_, HP7.out.s, rfl⟩
          · exact ⟨_, HBT.out, rfl⟩))
        first
          | exact ⟨HK.out, HFIN.out, v, HI1.out⟩
          | (gi_wp2; exact ⟨HK.out, HFIN.out, v, HI1.out⟩)
      case hstop =>
        rintro c pre' W' _ h
        exact h.elim
    case hdone =>
      rintro D W' hD ⟨v, hI⟩ hdf
      have hbl : (backL f ts.length).map (·.1) = (List.range ts.length).reverse := by
        unfold backL
        rw [List.map_map]
        exact (List.map_congr_left (g := id) (fun _ _ => rfl)).trans (List.map_id _)
      rw [hbl] at hI
      obtain ⟨pv, cv, hsh⟩ := hI.r.shape
      obtain ⟨n1, hn1⟩ : ∃ n, (freeA ts (List.range ts.length).reverse).length = n := ⟨_, rfl⟩
      rw [hn1] at hsh
      subst hsh
      have HM : Hid (Marks w.heap.size [D] W') := Lib.hid ((show Marks w.heap.size [] W' from ⟨List.nodup_nil, fun D hD => by cases hD⟩).cons hdf (by omega) (fun D' hD' => by cases hD'))
      have c0 := hI.c.cell (i := 0) (v := .slice pv n1 cv) rfl
      have HI := Lib.hid (And.intro hI.r hI.b)
      clear hI hdf hbl hn1
      gi_wp2
      refine leaves_marks (I := fun (_ : Unit) W => BrR W (w.heap.size + 1) (.slice pv n1 cv) (freeA ts (List.range ts.length).reverse) ∧ Below w.heap.size w W) (B := w.heap.size)
        (OwnFrom.and (fun s X Y row hs hg hr => own_kept hs hg (fun y hy e => by
          obtain ⟨_, o, h3, h4⟩ := hr y e
          obtain ⟨_, _, vs, f, h5⟩ := ownRow_lt hs y hy
          rw [h5] at h3
          cases h3
          cases h4)) (ownFrom_below (Nat.le_refl _) (Nat.le_refl _))) ?_ [D] _ HM.out HI.out
      rintro W9 ⟨h9, hb9⟩
      exact ⟨.tuple #[.slice pv n1 cv, .int .i64 0], by simp [results, Try.results35, go_sem], hb9, .inr ⟨HE.out, _, rfl, h9⟩⟩
    case hstop =>
      rintro D c pre W' _ _ h _
      exact h.elim
  · have hne : (er != 0) = true := by simpa using he
    go_enter Try.func35, Try.ntmps35
    go_wp2_with fail
    refine HC.out.mono ?_
    rintro e w2 ⟨rfl, hb2⟩
    have HB2 := Lib.hid (HBB.out.trans (hb2.mono HBB.out.size))
    clear hb2
    go_wp2
    refine bodyPost_ret (v := .tuple #[.slice none 0 0, .int .i64 er]) ?_ rfl ?_
    · simp [results, Try.results35, go_sem]
    · exact ⟨HB2.out, .inl ⟨by rw [HE.out]; exact he, by rw [HE.out]⟩⟩
end
def natI (l : List (Nat × Nat)) : List (Int × Int) := l.map fun p => ((p.1 : Int), (p.2 : Int))
theorem natI_len (l : List (Nat × Nat)) : (natI l).length = l.length := by simp [natI]
theorem natI_get {l : List (Nat × Nat)} {i : Nat} (h : i < l.length) (d : Nat × Nat) : (natI l)[i]?.getD (0, 0) = (((l[i]?.getD d).1 : Int), ((l[i]?.getD d).2 : Int)) := by
  simp [natI, h]
theorem own_pairsR {w : World} {base : Nat} {T : TypeId} {v : Value} {l : List (Nat × Nat)} (h : w.ownsRow base T 2 v l.length (flatL l)) (hl : l.length ≤ 1000000) : PairsR w v (natI l) := by
  rcases h.2 with ⟨rfl, h0⟩ | ⟨g, cap, cur, rfl, hb, hg, hcap, _, hcs, _⟩
  · have h1 := List.length_eq_zero_iff.1 h0
    subst h1
    exact ⟨none, 0, rfl, by simp [natI], fun i hi => by simp [natI] at hi⟩
  · refine ⟨some ⟨g, 0, none⟩, cap, by rw [natI_len], by rw [natI_len]; exact hl, fun i hi => ?_⟩
    rw [natI_len] at hi
    obtain ⟨a1, a2⟩ := flatL_get l i hi
    rw [natI_get hi (0, 0)]
    exact ⟨g, 0, rfl, (Array.getElem?_eq_some_iff.1 hg).1, by rw [Nat.zero_add, h.cellAt (i * 2) (by omega), a1], by rw [Nat.zero_add, h.cellAt (i * 2 + 1) (by omega), a2]⟩
theorem BrR.pairs {w : World} {base : Nat} {v : Value} {l : List (Nat × Nat)} (h : BrR w base v l) (hl : l.length ≤ 1000000) : PairsR w v (natI l) := own_pairsR h hl
theorem LoadsB.pairs {w : World} {g c : Nat} {l : List (Nat × Nat)} (h : LoadsB w g l) (hl : l.length ≤ 1000000) : PairsR w (.slice (some ⟨g, 0, none⟩) l.length c) (natI l) := by
  refine ⟨some ⟨g, 0, none⟩, c, by rw [natI_len], by rw [natI_len]; exact hl, fun i hi => ?_⟩
  rw [natI_len] at hi
  obtain ⟨a1, a2⟩ := h.cell hi
  rw [natI_get hi (0, 0)]
  exact ⟨g, 0, rfl, Blk.lt h, by rw [Nat.zero_add]; exact a1, by rw [Nat.zero_add]; exact a2⟩
theorem RowsAt.pairs {W : World} {base gb : Nat} {rows : List (List (Nat × Nat))} (h : RowsAt W base gb rows) {t : Nat} (ht : t < rows.length) (hl : (rows[t]?.getD []).length ≤ 1000000) : ∃ v, W.cell? ⟨gb, t, none⟩ = some v ∧ PairsR W v (natI (rows[t]?.getD [])) := by
  obtain ⟨vals, h1, h2, h3⟩ := h
  have hv : vals[t]? = some (vals[t]?.getD undef) := by rw [List.getElem?_eq_getElem (by omega)]; rfl
  exact ⟨vals[t]?.getD undef, h2.cell (by simpa using hv), own_pairsR (h3 t ht) hl⟩
theorem hangsTo_parts {w w' : World} {W H : Int} {ts : List (List Int × List Int)} {e : Ending} (h : HangsTo w W H ts e w') : Below w.heap.size w w' ∧ ∃ x y er, e = .returned (.tuple #[.agg #[.int .i64 x, .int .i64 y], .int .i64 er]) ∧
    ((checkF W H ts ≠ 0 ∧ x = 0 ∧ y = 0 ∧ er = 2) ∨ (checkF W H ts = 0 ∧ er = 0 ∧ ∃ r, FirstB ts (hangP ts) r ∧ bT r = x ∧ bB r = y)) := by
  refine ⟨h.1, ?_⟩
  rcases h.2 with ⟨h1, rfl⟩ | ⟨h1, r, hf, rfl⟩
  · exact ⟨0, 0, _, rfl, .inl ⟨h1, rfl, rfl, checkF_err h1⟩⟩
  · exact ⟨_, _, 0, rfl, .inr ⟨h1, rfl, r, hf, rfl, rfl⟩⟩
theorem kFreeTo_parts {w w' : World} {W H : Int} {ts : List (List Int × List Int)} {e : Ending} (h : KFreeTo w W H ts e w') : Below w.heap.size w w' ∧ ∃ p n c er, e = .returned (.tuple #[.slice p n c, .int .i64 er]) ∧
    ((checkF W H ts ≠ 0 ∧ n = 0 ∧ er = 2) ∨ (checkF W H ts = 0 ∧ er = 0 ∧ BrR w' (w.heap.size + 1) (.slice p n c) (freeA ts (List.range ts.length).reverse))) := by
  refine ⟨h.1, ?_⟩
  rcases h.2 with ⟨h1, rfl⟩ | ⟨h1, v, rfl, hr⟩
  · exact ⟨_, _, _, _, rfl, .inl ⟨h1, rfl, checkF_err h1⟩⟩
  · obtain ⟨p, c, rfl⟩ := hr.shape
    exact ⟨_, _, _, _, rfl, .inr ⟨h1, rfl, hr⟩⟩
theorem RowsAt.lt {W : World} {base gb : Nat} {rows : List (List (Nat × Nat))} (h : RowsAt W base gb rows) : gb < W.heap.size := by
  obtain ⟨_, _, h2, _⟩ := h
  exact h2.lt
theorem loadsAll_full {w w' : World} {W H : Int} {ts : List (List Int × List Int)} {e : Ending} (h : LoadsAll w W H ts e w') : ∃ p n c p' n' c' er, e = .returned (.tuple #[.slice p n c, .slice p' n' c', .int .i64 er]) ∧ Below w.heap.size w w' ∧
    ((checkF W H ts ≠ 0 ∧ er = 2 ∧ n = 0 ∧ n' = 0) ∨ (checkF W H ts = 0 ∧ (∃ r, r ≠ none ∧ FirstB ts (hangP ts) r) ∧ er = 80 ∧ n = 0 ∧ n' = 0) ∨ (checkF W H ts = 0 ∧ FirstB ts (hangP ts) none ∧ (loadsF ts (W * H).toNat).2.2 ≠ 0 ∧ er = 10 ∧ n = 0 ∧ n' = 0) ∨
     (er = 0 ∧ checkF W H ts = 0 ∧ FirstB ts (hangP ts) none ∧ ∃ rows fl gb g, loadsF ts (W * H).toNat = (rows, fl, 0) ∧ p = some ⟨gb, 0, none⟩ ∧ n = ts.length ∧ c = ts.length ∧ w.heap.size ≤ gb ∧ RowsAt w' w.heap.size gb rows ∧ p' = some ⟨g, 0, none⟩ ∧ n' = (W * H).toNat ∧ c' = (W * H).toNat ∧ w.heap.size ≤ g ∧ LoadsB w' g fl)) := by
  rcases h with ⟨hc, rfl, hb⟩ | ⟨hc, r, rv, fv, er, hf, rfl, hb, hrn, hr0⟩
  · exact ⟨_, _, _, _, _, _, _, rfl, hb, .inl ⟨hc, checkF_err hc, rfl, rfl⟩⟩
  · by_cases h1 : r = none
    · subst h1
      obtain ⟨e1, e2, e3⟩ := hr0 rfl
      by_cases h2 : er = 0
      · obtain ⟨gb, g, g1, g2, g3, g4, g5, g6⟩ := e3 h2
        subst g1 g4
        obtain ⟨⟨rows, fl, el⟩, hlo⟩ : ∃ q, loadsF ts (W * H).toNat = q := ⟨_, rfl⟩
        rw [hlo] at e1 g3 g6
        have h3 : el = 0 := by rw [← h2]; exact e1.symm
        subst h3
        exact ⟨_, _, _, _, _, _, _, rfl, hb, .inr (.inr (.inr ⟨h2, hc, hf, rows, fl, gb, g, hlo, rfl, rfl, rfl, g2, g3, rfl, rfl, rfl, g5, g6⟩))⟩
      · obtain ⟨rfl, rfl⟩ := e2 h2
        have h5 : (loadsF ts (W * H).toNat).2.2 ≠ 0 := by rw [← e1]; exact h2
        exact ⟨_, _, _, _, _, _, _, rfl, hb, .inr (.inr (.inl ⟨hc, hf, h5, by rw [e1]; exact loadsF_err h5, rfl, rfl⟩))⟩
    · obtain ⟨rfl, rfl, rfl⟩ := hrn h1
      exact ⟨_, _, _, _, _, _, _, rfl, hb, .inr (.inl ⟨hc, ⟨r, h1, hf⟩, rfl, rfl, rfl⟩)⟩
set_option maxRecDepth 100000 in
set_option maxHeartbeats 16000000 in
theorem stacks_any (W H : Int) (tv : Value) (ts : List (List Int × List Int)) (w : World) (hs : SrcT w tv ts) :
    Calls Try.prog 6 #[.agg #[.int .i64 W, .int .i64 H, tv]] w fun e w' => e = .returned (.bool true) ∧ Below w.heap.size w w' := by
  have HSRC := Lib.hid hs
  have HK := Lib.hid known_any
  obtain ⟨a, cap, rfl, hl, hp⟩ := hs
  have HP := Lib.hid hp
  have A := Blk.new w #[.int .i64 W, .int .i64 H, .slice a ts.length cap] 69
  have B0 := (Below.refl _ w).alloc (Nat.le_refl _) (.cells #[.int .i64 W, .int .i64 H, .slice a ts.length cap] 69)
  have x0 := A.cell (i := 0) (v := .int .i64 W) rfl
  have x1 := A.cell (i := 1) (v := .int .i64 H) rfl
  have x2 := A.cell (i := 2) (v := .slice a ts.length cap) rfl
  have HA := Lib.hid A
  have HB := Lib.hid B0
  clear A B0 hp
  go_enter Try.func6, Try.ntmps6
  go_wp2_with fail
  refine (large_any W H _ ts _ (HSRC.out.past HB.out)).mono ?_
  rintro e w2 ⟨hb2, r, rfl, hr⟩
  have HB2 := Lib.hid (HB.out.trans (hb2.mono HB.out.size))
  have HA2 := Lib.hid (HA.out.past hb2)
  have HRR := Lib.hid hr
  clear hb2 hr HB HA x0 x1 x2
  cases r
  · obtain ⟨ht12, hss⟩ := HRR.out rfl
    have HSS := Lib.hid hss
    clear HRR hss
    have x0 := HA2.out.cell (i := 0) (v := .int .i64 W) rfl
    have x1 := HA2.out.cell (i := 1) (v := .int .i64 H) rfl
    have x2 := HA2.out.cell (i := 2) (v := .slice a ts.length cap) rfl
    have HOW := Lib.hid (own_any W H _ ts w2 (HSRC.out.past HB2.out) (by omega) (fun i hi => ⟨Nat.le_trans (HSS.out i hi).1 (by decide), Nat.le_trans (HSS.out i hi).2 (by decide)⟩))
    go_wp2_with fail
    refine HOW.out.mono ?_
    rintro e w3 ⟨p2, c2, rfl, ht3, hb3⟩
    obtain ⟨b3, hb3e⟩ : ∃ x, w3.heap.size = x := ⟨_, rfl⟩
    have HT3 := Lib.hid ht3
    have hB4 := (Below.refl _ w3).alloc (Nat.le_refl _) (.cells #[.int .i64 W, .int .i64 H, .slice p2 ts.length c2] 69)
    have HI4 := Lib.hid (Blk.newI w3 b3 #[.int .i64 W, .int .i64 H, .slice p2 ts.length c2] 69 hb3e)
    have HB4 := Lib.hid ((HB2.out.trans (hb3.mono HB2.out.size)).trans (hB4.mono (HB2.out.trans (hb3.mono HB2.out.size)).size))
    have HA4 := Lib.hid ((HA2.out.past hb3).past hB4)
    have HT4 := Lib.hid (ht3.past hB4)
    clear hb3 ht3 hB4 HB2 HA2 HOW x0 x1 x2 HT3
    have i0 := HI4.out.cell (i := 0) (v := .int .i64 W) rfl
    have i1 := HI4.out.cell (i := 1) (v := .int .i64 H) rfl
    have i2 := HI4.out.cell (i := 2) (v := .slice p2 ts.length c2) rfl
    rw [hb3e] at HT4
    go_wp2_with fail
    obtain ⟨w4, hz⟩ : ∃ u, w3.alloc (.cells #[.int .i64 W, .int .i64 H, .slice p2 ts.length c2] 69) = u := ⟨_, rfl⟩
    rw [hz] at HI4 HB4 HA4 HT4 i0 i1 i2 ⊢
    clear hz hb3e
    refine (checkStack_any b3 W H _ ts w4 HT4.out).mono ?_
    rintro e w5 ⟨rfl, hb5⟩
    have HB5 := Lib.hid (HB4.out.trans (hb5.mono HB4.out.size))
    have HA5 := Lib.hid (HA4.out.past hb5)
    have HI5 := Lib.hid (HI4.out.past hb5)
    have HT5 := Lib.hid (HT4.out.past hb5)
    clear hb5 HB4 HA4 HI4 HT4 i0 i1 i2
    obtain ⟨er0, her0⟩ : ∃ x, checkF W H ts = x := ⟨_, rfl⟩
    rw [her0]
    have HE0 := Lib.hid her0
    clear her0
    have i0 := HI5.out.cell (i := 0) (v := .int .i64 W) rfl
    have i1 := HI5.out.cell (i := 1) (v := .int .i64 H) rfl
    have i2 := HI5.out.cell (i := 2) (v := .slice p2 ts.length c2) rfl
    have HH := Lib.hid (kHangs_any b3 W H _ ts w5 HT5.out)
    go_wp2_with fail
    refine HH.out.mono ?_
    intro e w6 hC
    obtain ⟨hb6, hx, hy, fe, rfl, hR⟩ := hangsTo_parts hC
    have HHR := Lib.hid hR
    obtain ⟨b6, hb6e⟩ : ∃ x, w6.heap.size = x := ⟨_, rfl⟩
    have hB7 := (Below.refl _ w6).alloc (Nat.le_refl _) (.cells #[.int .i64 hx, .int .i64 hy] 74)
    have HC7 := Lib.hid (Blk.newI w6 b6 #[.int .i64 hx, .int .i64 hy] 74 hb6e)
    have HB7 := Lib.hid ((HB5.out.trans (hb6.mono HB5.out.size)).trans (hB7.mono (HB5.out.trans (hb6.mono HB5.out.size)).size))
    have HA7 := Lib.hid ((HA5.out.past hb6).past hB7)
    have HI7 := Lib.hid ((HI5.out.past hb6).past hB7)
    have HT7 := Lib.hid ((HT5.out.past hb6).past hB7)
    clear hC hb6 hR hB7 HB5 HA5 HI5 HT5 HH i0 i1 i2
    have i0 := HI7.out.cell (i := 0) (v := .int .i64 W) rfl
    have i1 := HI7.out.cell (i := 1) (v := .int .i64 H) rfl
    have i2 := HI7.out.cell (i := 2) (v := .slice p2 ts.length c2) rfl
    go_wp2_with fail
    obtain ⟨w7, hz⟩ : ∃ u, w6.alloc (.cells #[.int .i64 hx, .int .i64 hy] 74) = u := ⟨_, rfl⟩
    rw [hz] at HC7 HB7 HA7 HI7 HT7 i0 i1 i2 ⊢
    clear hz hb6e
    refine (loadsAll_any b3 W H _ ts w7 HT7.out).mono ?_
    intro e w8 hL
    obtain ⟨p, n, c, p', n', c', er, rfl, hb8, hL2⟩ := loadsAll_full hL
    have HL8 := Lib.hid hL2
    have HB8 := Lib.hid (HB7.out.trans (hb8.mono HB7.out.size))
    have HA8 := Lib.hid (HA7.out.past hb8)
    have HI8 := Lib.hid (HI7.out.past hb8)
    have HT8 := Lib.hid (HT7.out.past hb8)
    have HC8 := Lib.hid (HC7.out.past hb8)
    clear hL hL2 hb8 HB7 HA7 HI7 HT7 HC7 i0 i1 i2
    have i0 := HI8.out.cell (i := 0) (v := .int .i64 W) rfl
    have i1 := HI8.out.cell (i := 1) (v := .int .i64 H) rfl
    have i2 := HI8.out.cell (i := 2) (v := .slice p2 ts.length c2) rfl
    have HF := Lib.hid (kFree_any b3 W H _ ts w8 HT8.out)
    go_wp2_with fail
    refine HF.out.mono ?_
    intro e w9 hF
    obtain ⟨hb9, fp, fn, fc, he, rfl, hF2⟩ := kFreeTo_parts hF
    have HFR := Lib.hid hF2
    have HB9 := Lib.hid (HB8.out.trans (hb9.mono HB8.out.size))
    have HA9 := Lib.hid (HA8.out.past hb9)
    have HI9 := Lib.hid (HI8.out.past hb9)
    have HT9 := Lib.hid (HT8.out.past hb9)
    have HC9 := Lib.hid (HC8.out.past hb9)
    have HB89 := Lib.hid hb9
    clear hF hF2 hb9 HB8 HA8 HI8 HT8 HC8 i0 i1 i2 HF
    go_wp2_with fail
    have HB0 := Lib.hid (Below.refl w9.heap.size w9)
    obtain ⟨ap, capp, hsh, _, _, hpl⟩ := HT9.out.placed
    obtain ⟨rfl, hj1, rfl⟩ : p2 = ap ∧ ts.length = ts.length ∧ c2 = capp := by simpa using hsh
    have HPI := Lib.hid hpl
    clear hsh hj1 hpl
    have x2 := HA9.out.cell (i := 2) (v := .slice a ts.length cap) rfl
    go_loopw [12] (fun s12 wr => ∃ i : Nat, i ≤ ts.length ∧ s12 = .int .i64 i ∧ Hid (Below w9.heap.size w9 wr)) (fun s12 _ => ts.length - (intOf s12).toNat)
    case atStart => exact ⟨0, Nat.zero_le _, rfl, HB0⟩
    case round =>
      obtain ⟨i, hi, rfl, HBW⟩ := hrel
      rename World => zw1
      clear HB0 x2
      have x2 := (HA9.out.past HBW.out).cell (i := 2) (v := .slice a ts.length cap) rfl
      by_cases hil : i < ts.length
      · have hii : (0 : Int) ≤ (i : Int) := by omega
        have hili : (i : Int) < (ts.length : Int) := by omega
        obtain ⟨b, off, rfl, hbb, vc, vw, c1, _, s1, _⟩ := HP.out i hil
        obtain ⟨ac, cc, rfl, _, hpc⟩ := s1.ints.placed
        obtain ⟨ib, io, rfl, hib, vci, vwi, d1, _, ⟨t1, _⟩, _⟩ := HPI.out i hil
        obtain ⟨aci, cci, rfl, _, hpci⟩ := t1.placed
        obtain ⟨m, hm⟩ : ∃ m, (ts[i]?.getD ([], [])).1.length = m := ⟨_, rfl⟩
        rw [hm] at c1 d1
        have hm150 : m ≤ 150 := by rw [← hm]; exact (HSS.out i hil).1
        have c1 := (HB9.out.cell (p := ⟨b, _, none⟩) hbb).trans c1
        have HC1 := Lib.hid (And.intro c1 d1)
        have HPC := Lib.hid hpc
        have HPCI := Lib.hid hpci
        have HM := Lib.hid hm
        have hbw9 : b < w9.heap.size := by have := HB9.out.size; omega
        have hib9 : ib < w9.heap.size := by have h1 := HT9.out.2.1; omega
        clear s1 t1 hpc hpci hm c1 d1
        go_wp2_with fail
        go_loopw [13] (fun s13 wr => ∃ k : Nat, k ≤ m ∧ s13 = .int .i64 k ∧ Hid (Below w9.heap.size w9 wr)) (fun s13 _ => m - (intOf s13).toNat)
        case atStart => exact ⟨0, Nat.zero_le _, rfl, HBW⟩
        case round =>
          obtain ⟨k, hk, rfl, HBX⟩ := hrel
          rename World => zw2
          clear HBW x2
          have x2 := (HA9.out.past HBX.out).cell (i := 2) (v := .slice (some ⟨b, off, none⟩) ts.length cap) rfl
          have y2 := (HI9.out.past HBX.out).cell (i := 2) (v := .slice (some ⟨ib, io, none⟩) ts.length c2) rfl
          have c1 := (HBX.out.cell (p := ⟨b, _, none⟩) hbw9).trans HC1.out.1
          have d1 := (HBX.out.cell (p := ⟨ib, _, none⟩) hib9).trans HC1.out.2
          by_cases hkl : k < m
          · have hki : (0 : Int) ≤ (k : Int) := by omega
            have hkli : (k : Int) < (m : Int) := by omega
            obtain ⟨cb, co, rfl, hcb, e1⟩ := HPC.out k (by rw [HM.out]; exact hkl)
            obtain ⟨cbi, coi, rfl, hcbi, f1⟩ := HPCI.out k (by rw [HM.out]; exact hkl)
            obtain ⟨z, hz⟩ : ∃ z, (ts[i]?.getD ([], [])).1[k]?.getD 0 = z := ⟨_, rfl⟩
            rw [hz] at e1 f1
            have e1 := (HBX.out.cell (p := ⟨cb, _, none⟩) (show cb < w9.heap.size by have := HB9.out.size; omega)).trans ((HB9.out.cell (p := ⟨cb, _, none⟩) hcb).trans e1)
            have f1 := (HBX.out.cell (p := ⟨cbi, _, none⟩) hcbi).trans f1
            clear hz
            go_wp2_with fail
            refine region_plain (fun X => X.cell? ⟨w.heap.size, 2, none⟩ = some (.slice (some ⟨b, off, none⟩) ts.length cap) ∧ X.cell? ⟨b3, 2, none⟩ = some (.slice (some ⟨ib, io, none⟩) ts.length c2) ∧ X.cell? ⟨b, off + i * 2, none⟩ = some (.slice (some ⟨cb, co, none⟩) m cc) ∧ X.cell? ⟨ib, io + i * 2, none⟩ = some (.slice (some ⟨cbi, coi, none⟩) m cci) ∧ X.cell? ⟨cb, co + k, none⟩ = some (.int .i64 z) ∧ X.cell? ⟨cbi, coi + k, none⟩ = some (.int .i64 z)) 19 #[false, false, false, false, false, false, false, false, false, false, false, false, false, false, false, false, false, false, false] rfl rfl (by kernel_rfl) ?_
            obtain ⟨v1, hv1⟩ : ∃ x, zw2.drew = x := ⟨_, rfl⟩
            have hB1 : Below w9.heap.size w9 v1 := by rw [← hv1]; exact HBX.out.drew
            have hSS : v1.cell? ⟨w.heap.size, 2, none⟩ = some (.slice (some ⟨b, off, none⟩) ts.length cap) ∧ v1.cell? ⟨b3, 2, none⟩ = some (.slice (some ⟨ib, io, none⟩) ts.length c2) ∧ v1.cell? ⟨b, off + i * 2, none⟩ = some (.slice (some ⟨cb, co, none⟩) m cc) ∧ v1.cell? ⟨ib, io + i * 2, none⟩ = some (.slice (some ⟨cbi, coi, none⟩) m cci) ∧ v1.cell? ⟨cb, co + k, none⟩ = some (.int .i64 z) ∧ v1.cell? ⟨cbi, coi + k, none⟩ = some (.int .i64 z) := by rw [← hv1]; exact ⟨x2, y2, c1, d1, e1, f1⟩
            rw [hv1]
            clear hv1 x2 y2 c1 d1 e1 f1 HBX
            have HB1 := Lib.hid hB1
            clear hB1
            refine take_first (i := 0) (v := ?_) rfl (by kernel_rfl) (by kernel_rfl) (by kernel_rfl) (fun _ _ _ h => h) (by rfl) (by assumption) ?_ ?_
            rotate_left 1
            · intro X hSX
              (try dsimp only at hSX)
              first | (go_simp; done) | (go_simp; with_reducible rfl)
            try simp only [Act.put, List.setIfInBounds_toArray, List.set_cons_zero, List.set_cons_succ]
            refine take_first (i := 1) (v := ?_) rfl (by kernel_rfl) (by kernel_rfl) (by kernel_rfl) (fun _ _ _ h => h) (by rfl) (by assumption) ?_ ?_
            rotate_left 1
            · intro X hSX
              (try dsimp only at hSX)
              first | (go_simp; done) | (go_simp; with_reducible rfl)
            try simp only [Act.put, List.setIfInBounds_toArray, List.set_cons_zero, List.set_cons_succ]
            refine take_first (i := 2) (v := ?_) rfl (by kernel_rfl) (by kernel_rfl) (by kernel_rfl) (fun _ _ _ h => h) (by rfl) (by assumption) ?_ ?_
            rotate_left 1
            · intro X hSX
              (try dsimp only at hSX)
              first | (go_simp; done) | (go_simp; with_reducible rfl)
            try simp only [Act.put, List.setIfInBounds_toArray, List.set_cons_zero, List.set_cons_succ]
            refine take_first (i := 3) (v := ?_) rfl (by kernel_rfl) (by kernel_rfl) (by kernel_rfl) (fun _ _ _ h => h) (by rfl) (by assumption) ?_ ?_
            rotate_left 1
            · intro X hSX
              (try dsimp only at hSX)
              first | (go_simp; done) | (go_simp; with_reducible rfl)
            try simp only [Act.put, List.setIfInBounds_toArray, List.set_cons_zero, List.set_cons_succ]
            refine take_first (i := 4) (v := ?_) rfl (by kernel_rfl) (by kernel_rfl) (by kernel_rfl) (fun _ _ _ h => h) (by rfl) (by assumption) ?_ ?_
            rotate_left 1
            · intro X hSX
              (try dsimp only at hSX)
              first | (go_simp; done) | (go_simp; with_reducible rfl)
            try simp only [Act.put, List.setIfInBounds_toArray, List.set_cons_zero, List.set_cons_succ]
            refine take_first (i := 5) (v := ?_) rfl (by kernel_rfl) (by kernel_rfl) (by kernel_rfl) (fun _ _ _ h => h) (by rfl) (by assumption) ?_ ?_
            rotate_left 1
            · intro X hSX
              (try dsimp only at hSX)
              first | (go_simp; done) | (go_simp; with_reducible rfl)
            try simp only [Act.put, List.setIfInBounds_toArray, List.set_cons_zero, List.set_cons_succ]
            refine take_first (i := 6) (v := ?_) rfl (by kernel_rfl) (by kernel_rfl) (by kernel_rfl) (fun _ _ _ h => h) (by rfl) (by assumption) ?_ ?_
            rotate_left 1
            · intro X hSX
              (try dsimp only at hSX)
              first | (go_simp; done) | (go_simp; with_reducible rfl)
            try simp only [Act.put, List.setIfInBounds_toArray, List.set_cons_zero, List.set_cons_succ]
            refine take_first (i := 7) (v := ?_) rfl (by kernel_rfl) (by kernel_rfl) (by kernel_rfl) (fun _ _ _ h => h) (by rfl) (by assumption) ?_ ?_
            rotate_left 1
            · intro X hSX
              (try dsimp only at hSX)
              first | (go_simp; done) | (go_simp; with_reducible rfl)
            try simp only [Act.put, List.setIfInBounds_toArray, List.set_cons_zero, List.set_cons_succ]
            refine take_first (i := 8) (v := ?_) rfl (by kernel_rfl) (by kernel_rfl) (by kernel_rfl) (fun _ _ _ h => h) (by rfl) (by assumption) ?_ ?_
            rotate_left 1
            · intro X hSX
              (try dsimp only at hSX)
              first | (go_simp; done) | (go_simp; with_reducible rfl)
            try simp only [Act.put, List.setIfInBounds_toArray, List.set_cons_zero, List.set_cons_succ]
            refine take_first (i := 9) (v := ?_) rfl (by kernel_rfl) (by kernel_rfl) (by kernel_rfl) (fun _ _ _ h => h) (by rfl) (by assumption) ?_ ?_
            rotate_left 1
            · intro X hSX
              (try dsimp only at hSX)
              first | (go_simp; done) | (go_simp; with_reducible rfl)
            try simp only [Act.put, List.setIfInBounds_toArray, List.set_cons_zero, List.set_cons_succ]
            refine take_first (i := 10) (v := ?_) rfl (by kernel_rfl) (by kernel_rfl) (by kernel_rfl) (fun _ _ _ h => h) (by rfl) (by assumption) ?_ ?_
            rotate_left 1
            · intro X hSX
              (try dsimp only at hSX)
              first | (go_simp; done) | (go_simp; with_reducible rfl)
            try simp only [Act.put, List.setIfInBounds_toArray, List.set_cons_zero, List.set_cons_succ]
            refine take_first (i := 11) (v := ?_) rfl (by kernel_rfl) (by kernel_rfl) (by kernel_rfl) (fun _ _ _ h => h) (by rfl) (by assumption) ?_ ?_
            rotate_left 1
            · intro X hSX
              (try dsimp only at hSX)
              first | (go_simp; done) | (go_simp; with_reducible rfl)
            try simp only [Act.put, List.setIfInBounds_toArray, List.set_cons_zero, List.set_cons_succ]
            refine take_first (i := 12) (v := ?_) rfl (by kernel_rfl) (by kernel_rfl) (by kernel_rfl) (fun _ _ _ h => h) (by rfl) (by assumption) ?_ ?_
            rotate_left 1
            · intro X hSX
              (try dsimp only at hSX)
              first | (go_simp; done) | (go_simp; with_reducible rfl)
            try simp only [Act.put, List.setIfInBounds_toArray, List.set_cons_zero, List.set_cons_succ]
            refine take_first (i := 13) (v := ?_) rfl (by kernel_rfl) (by kernel_rfl) (by kernel_rfl) (fun _ _ _ h => h) (by rfl) (by assumption) ?_ ?_
            rotate_left 1
            · intro X hSX
              (try dsimp only at hSX)
              first | (go_simp; done) | (go_simp; with_reducible rfl)
            try simp only [Act.put, List.setIfInBounds_toArray, List.set_cons_zero, List.set_cons_succ]
            refine take_first (i := 14) (v := ?_) rfl (by kernel_rfl) (by kernel_rfl) (by kernel_rfl) (fun _ _ _ h => h) (by rfl) (by assumption) ?_ ?_
            rotate_left 1
            · intro X hSX
              (try dsimp only at hSX)
              first | (go_simp; done) | (go_simp; with_reducible rfl)
            try simp only [Act.put, List.setIfInBounds_toArray, List.set_cons_zero, List.set_cons_succ]
            refine take_first (i := 15) (v := ?_) rfl (by kernel_rfl) (by kernel_rfl) (by kernel_rfl) (fun _ _ _ h => h) (by rfl) (by assumption) ?_ ?_
            rotate_left 1
            · intro X hSX
              (try dsimp only at hSX)
              first | (go_simp; done) | (go_simp; with_reducible rfl)
            try simp only [Act.put, List.setIfInBounds_toArray, List.set_cons_zero, List.set_cons_succ]
            refine take_first (i := 16) (v := ?_) rfl (by kernel_rfl) (by kernel_rfl) (by kernel_rfl) (fun _ _ _ h => h) (by rfl) (by assumption) ?_ ?_
            rotate_left 1
            · intro X hSX
              (try dsimp only at hSX)
              first | (go_simp; done) | (go_simp; with_reducible rfl)
            try simp only [Act.put, List.setIfInBounds_toArray, List.set_cons_zero, List.set_cons_succ]
            refine take_first (i := 17) (v := ?_) rfl (by kernel_rfl) (by kernel_rfl) (by kernel_rfl) (fun _ _ _ h => h) (by rfl) (by assumption) ?_ ?_
            rotate_left 1
            · intro X hSX
              (try dsimp only at hSX)
              first | (go_simp; done) | (go_simp; with_reducible rfl)
            try simp only [Act.put, List.setIfInBounds_toArray, List.set_cons_zero, List.set_cons_succ]
            refine take_first (i := 18) (v := ?_) rfl (by kernel_rfl) (by kernel_rfl) (by kernel_rfl) (fun _ _ _ h => h) (by rfl) (by assumption) ?_ ?_
            rotate_left 1
            · intro X hSX
              (try dsimp only at hSX)
              first | (go_simp; done) | (go_simp; with_reducible rfl)
            try simp only [Act.put, List.setIfInBounds_toArray, List.set_cons_zero, List.set_cons_succ]
            refine wpAnyH_done (by kernel_rfl) ?_ _
            clear hSS
            go_wp2
            go_roundw
            case rel => exact ⟨k + 1, hkl, by go_num, HB1⟩
            case measure => simp [intOf]; omega
          · have hke : k = m := by omega
            subst hke
            go_wp2
            go_roundw
            case rel => exact ⟨i + 1, hil, by go_num, HBX⟩
            case measure => simp [intOf]; omega
      · have hie : i = ts.length := by omega
        subst hie
        have HBU := Lib.hid (HB9.out.trans (HBW.out.mono HB9.out.size))
        have HAU := Lib.hid (HA9.out.past HBW.out)
        have HCU := Lib.hid (HC9.out.past HBW.out)
        clear x2 HPI HI9 HT9
        have x0 := HAU.out.cell (i := 0) (v := .int .i64 W) rfl
        have x1 := HAU.out.cell (i := 1) (v := .int .i64 H) rfl
        have x2 := HAU.out.cell (i := 2) (v := .slice a ts.length cap) rfl
        go_wp2_with fail
        refine (refStack_any W H _ ts zw1 (HSRC.out.past HBU.out) (fun i hi => ⟨Nat.le_trans (HSS.out i hi).1 (by decide), Nat.le_trans (HSS.out i hi).2 (by decide)⟩)).mono ?_
        rintro e v3 ⟨rfl, hb3⟩
        have HB3 := Lib.hid (HBU.out.trans (hb3.mono HBU.out.size))
        have HA3 := Lib.hid (HAU.out.past hb3)
        have HC3 := Lib.hid (HCU.out.past hb3)
        have hb3w := Lib.hid hb3
        clear hb3 HBU HAU HCU x0 x1 x2
        have n0 := HC3.out.cell (i := 0) (v := .int .i64 hx) rfl
        have n1 := HC3.out.cell (i := 1) (v := .int .i64 hy) rfl
        have x0 := HA3.out.cell (i := 0) (v := .int .i64 W) rfl
        have x1 := HA3.out.cell (i := 1) (v := .int .i64 H) rfl
        have x2 := HA3.out.cell (i := 2) (v := .slice a ts.length cap) rfl
        obtain ⟨c0, hc0⟩ : ∃ r, decide (checkF W H ts = 0) = r := ⟨_, rfl⟩
        rw [hc0]
        cases c0
        · have hck : checkF W H ts ≠ 0 := of_decide_eq_false hc0
          have her2 : er0 = 2 := by rw [← HE0.out]; exact checkF_err hck
          obtain ⟨rfl, rfl, rfl⟩ : hx = 0 ∧ hy = 0 ∧ fe = 2 := by
            rcases HHR.out with ⟨_, h⟩ | ⟨h, _⟩
            · exact h
            · exact absurd h hck
          obtain ⟨rfl, rfl⟩ : fn = 0 ∧ he = 2 := by
            rcases HFR.out with ⟨_, h⟩ | ⟨h, _⟩
            · exact h
            · exact absurd h hck
          obtain ⟨rfl, rfl, rfl⟩ : er = 2 ∧ n = 0 ∧ n' = 0 := by
            rcases HL8.out with ⟨_, h⟩ | ⟨h, _⟩ | ⟨h, _⟩ | ⟨_, h, _⟩
            · exact h
            · exact absurd h hck
            · exact absurd h hck
            · exact absurd h hck
          subst her2
          clear HHR HFR HL8 hc0 hck HE0
          go_wp2_with (first | (go_at_call 16; refine (HK.out _).mono ?_; rintro e w99 ⟨rfl, hb99⟩; have HB99 := Lib.hid (HB3.out.trans (hb99.mono HB3.out.size)); clear hb99))
          go_ret
          exact ⟨rfl, HB99.out⟩
        · have hck : checkF W H ts = 0 := of_decide_eq_true hc0
          have her2 : er0 = 0 := by rw [← HE0.out]; exact hck
          obtain ⟨rfl, r, hf, hbx, hby⟩ : fe = 0 ∧ ∃ r, FirstB ts (hangP ts) r ∧ bT r = hx ∧ bB r = hy := by
            rcases HHR.out with ⟨h, _⟩ | ⟨_, h⟩
            · exact absurd hck h
            · exact h
          obtain ⟨rfl, hfr⟩ : he = 0 ∧ BrR w9 (w8.heap.size + 1) (.slice fp fn fc) (freeA ts (List.range ts.length).reverse) := by
            rcases HFR.out with ⟨h, _⟩ | ⟨_, h⟩
            · exact absurd hck h
            · exact h
          subst her2
          have hv := stackV_of hck
          have hfl : (freeA ts (List.range ts.length).reverse).length ≤ 1000000 := by
            have h1 := freeA_len (ts := ts) (l := (List.range ts.length).reverse) (fun t ht => hv.few t (by simpa using ht))
            have h2 := hv.t10
            simp at h1
            omega
          have HV := Lib.hid hv
          have HCK := Lib.hid hck
          have HF := Lib.hid hf
          have HBXY := Lib.hid (And.intro hbx hby)
          have HFL := Lib.hid hfl
          have HPF := Lib.hid ((hfr.pairs hfl).past (HBW.out.trans ((show Below zw1.heap.size zw1 v3 from hb3w.out).mono HBW.out.size)))
          have HL9 := HL8
          clear hv hfl hck hf hbx hby hfr HHR HFR hc0 HE0
          go_wp2_with fail
          refine region_plain (fun X => X.cell? ⟨b6, 0, none⟩ = some (.int .i64 hx) ∧ X.cell? ⟨b6, 1, none⟩ = some (.int .i64 hy) ∧ X.cell? ⟨w.heap.size, 0, none⟩ = some (.int .i64 W) ∧ X.cell? ⟨w.heap.size, 1, none⟩ = some (.int .i64 H) ∧ X.cell? ⟨w.heap.size, 2, none⟩ = some (.slice a ts.length cap)) 23 #[false, false, false, false, false, false, false, false, false, false, false, false, false, false, false, false, false, false, false, false, false, false, false] rfl rfl (by kernel_rfl) ?_
          obtain ⟨v4, hv4⟩ : ∃ x, v3.drew = x := ⟨_, rfl⟩
          have hB4 : Below v3.heap.size v3 v4 := by rw [← hv4]; exact (Below.refl _ _).drew
          have hC4 := HC3.out.past hB4
          have hA4 := HA3.out.past hB4
          rw [hv4]
          clear hv4 n0 n1 x0 x1 x2
          have HB4 := Lib.hid (HB3.out.trans (hB4.mono HB3.out.size))
          have HPF4 := Lib.hid (HPF.out.past hB4)
          have HB34 := Lib.hid hB4
          have HS : Hid (∀ X, Below v4.heap.size v4 X → X.cell? ⟨b6, 0, none⟩ = some (.int .i64 hx) ∧ X.cell? ⟨b6, 1, none⟩ = some (.int .i64 hy) ∧ X.cell? ⟨w.heap.size, 0, none⟩ = some (.int .i64 W) ∧ X.cell? ⟨w.heap.size, 1, none⟩ = some (.int .i64 H) ∧ X.cell? ⟨w.heap.size, 2, none⟩ = some (.slice a ts.length cap)) := Lib.hid fun X hX => ⟨(hC4.past hX).cell (i := 0) rfl, (hC4.past hX).cell (i := 1) rfl, (hA4.past hX).cell (i := 0) rfl, (hA4.past hX).cell (i := 1) rfl, (hA4.past hX).cell (i := 2) rfl⟩
          have hSS := HS.out v4 (Below.refl _ _)
          have HHG := Lib.hid (refHangs_any W H _ ts _ v4 (HSRC.out.past HB4.out) HV.out)
          clear hB4 hC4 hA4 HPF
          refine take_first (i := 0) (v := ?_) rfl (by kernel_rfl) (by kernel_rfl) (by kernel_rfl) (fun _ _ _ h => h) (by rfl) (by assumption) ?_ ?_
          rotate_left 1
          · intro X hSX
            (try dsimp only at hSX)
            first | (go_simp; done) | (go_simp; with_reducible rfl)
          try simp only [Act.put, List.setIfInBounds_toArray, List.set_cons_zero, List.set_cons_succ]
          refine take_first (i := 1) (v := ?_) rfl (by kernel_rfl) (by kernel_rfl) (by kernel_rfl) (fun _ _ _ h => h) (by rfl) (by assumption) ?_ ?_
          rotate_left 1
          · intro X hSX
            (try dsimp only at hSX)
            first | (go_simp; done) | (go_simp; with_reducible rfl)
          try simp only [Act.put, List.setIfInBounds_toArray, List.set_cons_zero, List.set_cons_succ]
          refine take_first (i := 2) (v := ?_) rfl (by kernel_rfl) (by kernel_rfl) (by kernel_rfl) (fun _ _ _ h => h) (by rfl) (by assumption) ?_ ?_
          rotate_left 1
          · intro X hSX
            (try dsimp only at hSX)
            first | (go_simp; done) | (go_simp; with_reducible rfl)
          try simp only [Act.put, List.setIfInBounds_toArray, List.set_cons_zero, List.set_cons_succ]
          refine take_first (i := 3) (v := ?_) rfl (by kernel_rfl) (by kernel_rfl) (by kernel_rfl) (fun _ _ _ h => h) (by rfl) (by assumption) ?_ ?_
          rotate_left 1
          · intro X hSX
            (try dsimp only at hSX)
            first | (go_simp; done) | (go_simp; with_reducible rfl)
          try simp only [Act.put, List.setIfInBounds_toArray, List.set_cons_zero, List.set_cons_succ]
          refine take_first (i := 4) (v := ?_) rfl (by kernel_rfl) (by kernel_rfl) (by kernel_rfl) (fun _ _ _ h => h) (by rfl) (by assumption) ?_ ?_
          rotate_left 1
          · intro X hSX
            (try dsimp only at hSX)
            first | (go_simp; done) | (go_simp; with_reducible rfl)
          try simp only [Act.put, List.setIfInBounds_toArray, List.set_cons_zero, List.set_cons_succ]
          refine take_first (i := 5) (v := ?_) rfl (by kernel_rfl) (by kernel_rfl) (by kernel_rfl) (fun _ _ _ h => h) (by rfl) (by assumption) ?_ ?_
          rotate_left 1
          · intro X hSX
            (try dsimp only at hSX)
            first | (go_simp; done) | (go_simp; with_reducible rfl)
          try simp only [Act.put, List.setIfInBounds_toArray, List.set_cons_zero, List.set_cons_succ]
          refine take_first (i := 6) (v := ?_) rfl (by kernel_rfl) (by kernel_rfl) (by kernel_rfl) (fun _ _ _ h => h) (by rfl) (by assumption) ?_ ?_
          rotate_left 1
          · intro X hSX
            (try dsimp only at hSX)
            first | (go_simp; done) | (go_simp; with_reducible rfl)
          try simp only [Act.put, List.setIfInBounds_toArray, List.set_cons_zero, List.set_cons_succ]
          refine take_first (i := 7) (v := ?_) rfl (by kernel_rfl) (by kernel_rfl) (by kernel_rfl) (fun _ _ _ h => h) (by rfl) (by assumption) ?_ ?_
          rotate_left 1
          · intro X hSX
            (try dsimp only at hSX)
            first | (go_simp; done) | (go_simp; with_reducible rfl)
          try simp only [Act.put, List.setIfInBounds_toArray, List.set_cons_zero, List.set_cons_succ]
          refine take_first (i := 8) (v := ?_) rfl (by kernel_rfl) (by kernel_rfl) (by kernel_rfl) (fun _ _ _ h => h) (by rfl) (by assumption) ?_ ?_
          rotate_left 1
          · intro X hSX
            (try dsimp only at hSX)
            first | (go_simp; done) | (go_simp; with_reducible rfl)
          try simp only [Act.put, List.setIfInBounds_toArray, List.set_cons_zero, List.set_cons_succ]
          refine take_first (i := 9) (v := ?_) rfl (by kernel_rfl) (by kernel_rfl) (by kernel_rfl) (fun _ _ _ h => h) (by rfl) (by assumption) ?_ ?_
          rotate_left 1
          · intro X hSX
            (try dsimp only at hSX)
            first | (go_simp; done) | (go_simp; with_reducible rfl)
          try simp only [Act.put, List.setIfInBounds_toArray, List.set_cons_zero, List.set_cons_succ]
          refine take_first (i := 10) (v := ?_) rfl (by kernel_rfl) (by kernel_rfl) (by kernel_rfl) (fun _ _ _ h => h) (by rfl) (by assumption) ?_ ?_
          rotate_left 1
          · intro X hSX
            (try dsimp only at hSX)
            first | (go_simp; done) | (go_simp; with_reducible rfl)
          try simp only [Act.put, List.setIfInBounds_toArray, List.set_cons_zero, List.set_cons_succ]
          refine take_first (i := 11) (v := ?_) rfl (by kernel_rfl) (by kernel_rfl) (by kernel_rfl) (fun _ _ _ h => h) (by rfl) (by assumption) ?_ ?_
          rotate_left 1
          · intro X hSX
            (try dsimp only at hSX)
            first | (go_simp; done) | (go_simp; with_reducible rfl)
          try simp only [Act.put, List.setIfInBounds_toArray, List.set_cons_zero, List.set_cons_succ]
          refine take_first (i := 12) (v := ?_) rfl (by kernel_rfl) (by kernel_rfl) (by kernel_rfl) (fun _ _ _ h => h) (by rfl) (by assumption) ?_ ?_
          rotate_left 1
          · intro X hSX
            (try dsimp only at hSX)
            first | (go_simp; done) | (go_simp; with_reducible rfl)
          try simp only [Act.put, List.setIfInBounds_toArray, List.set_cons_zero, List.set_cons_succ]
          refine only_one (i := 13) (by kernel_rfl) rfl (by rfl) ?_
          intro K hK
          go_simp
          refine HHG.out.mono ?_
          rintro e v5 ⟨r', hf', rfl, hb5⟩
          obtain rfl := firstB_unique hf' HF.out
          rw [HBXY.out.1, HBXY.out.2]
          have HB45 := Lib.hid hb5
          have hSS := HS.out v5 hb5
          clear hb5 hf' HHG
          refine hK.out _ _ hSS ?_
          clear hK K
          try simp only [Act.put, List.setIfInBounds_toArray, List.set_cons_zero, List.set_cons_succ]
          refine take_first (i := 14) (v := ?_) rfl (by kernel_rfl) (by kernel_rfl) (by kernel_rfl) (fun _ _ _ h => h) (by rfl) (by assumption) ?_ ?_
          rotate_left 1
          · intro X hSX
            (try dsimp only at hSX)
            first | (go_simp; done) | (go_simp; with_reducible rfl)
          try simp only [Act.put, List.setIfInBounds_toArray, List.set_cons_zero, List.set_cons_succ]
          refine take_first (i := 15) (v := ?_) rfl (by kernel_rfl) (by kernel_rfl) (by kernel_rfl) (fun _ _ _ h => h) (by rfl) (by assumption) ?_ ?_
          rotate_left 1
          · intro X hSX
            (try dsimp only at hSX)
            first | (go_simp; done) | (go_simp; with_reducible rfl)
          try simp only [Act.put, List.setIfInBounds_toArray, List.set_cons_zero, List.set_cons_succ]
          refine take_first (i := 16) (v := ?_) rfl (by kernel_rfl) (by kernel_rfl) (by kernel_rfl) (fun _ _ _ h => h) (by rfl) (by assumption) ?_ ?_
          rotate_left 1
          · intro X hSX
            (try dsimp only at hSX)
            first | (go_simp; done) | (go_simp; with_reducible rfl)
          try simp only [Act.put, List.setIfInBounds_toArray, List.set_cons_zero, List.set_cons_succ]
          refine take_first (i := 17) (v := ?_) rfl (by kernel_rfl) (by kernel_rfl) (by kernel_rfl) (fun _ _ _ h => h) (by rfl) (by assumption) ?_ ?_
          rotate_left 1
          · intro X hSX
            (try dsimp only at hSX)
            first | (go_simp; done) | (go_simp; with_reducible rfl)
          try simp only [Act.put, List.setIfInBounds_toArray, List.set_cons_zero, List.set_cons_succ]
          refine take_first (i := 18) (v := ?_) rfl (by kernel_rfl) (by kernel_rfl) (by kernel_rfl) (fun _ _ _ h => h) (by rfl) (by assumption) ?_ ?_
          rotate_left 1
          · intro X hSX
            (try dsimp only at hSX)
            first | (go_simp; done) | (go_simp; with_reducible rfl)
          try simp only [Act.put, List.setIfInBounds_toArray, List.set_cons_zero, List.set_cons_succ]
          refine only_one (i := 19) (by kernel_rfl) rfl (by rfl) ?_
          intro K hK
          go_simp
          refine (refFree_any W H _ ts _ v5 (HSRC.out.past (HB4.out.trans (HB45.out.mono HB4.out.size))) HV.out).mono ?_
          rintro e v6 ⟨fv, rfl, hfr6, hb6'⟩
          have HB46 := Lib.hid (HB45.out.trans (hb6'.mono HB45.out.size))
          have HFR6 := Lib.hid hfr6
          have hSS := HS.out v6 HB46.out
          clear hb6' hfr6
          refine hK.out _ _ hSS ?_
          clear hK K
          try simp only [Act.put, List.setIfInBounds_toArray, List.set_cons_zero, List.set_cons_succ]
          refine only_one (i := 20) (by kernel_rfl) rfl (by rfl) ?_
          intro K hK
          go_simp
          refine (bricks_same _ _ _ v6 (HPF4.out.past HB46.out) (HFR6.out.pairs HFL.out)).mono ?_
          rintro e v7 ⟨rfl, hb7'⟩
          have HB47 := Lib.hid (HB46.out.trans (hb7'.mono HB46.out.size))
          have hSS := HS.out v7 HB47.out
          clear hb7'
          refine hK.out _ _ hSS ?_
          clear hK K
          try simp only [Act.put, List.setIfInBounds_toArray, List.set_cons_zero, List.set_cons_succ]
          refine take_first (i := 21) (v := ?_) rfl (by kernel_rfl) (by kernel_rfl) (by kernel_rfl) (fun _ _ _ h => h) (by rfl) (by assumption) ?_ ?_
          rotate_left 1
          · intro X hSX
            (try dsimp only at hSX)
            first | (go_simp; done) | (go_simp; with_reducible rfl)
          try simp only [Act.put, List.setIfInBounds_toArray, List.set_cons_zero, List.set_cons_succ]
          refine take_first (i := 22) (v := ?_) rfl (by kernel_rfl) (by kernel_rfl) (by kernel_rfl) (fun _ _ _ h => h) (by rfl) (by assumption) ?_ ?_
          rotate_left 1
          · intro X hSX
            (try dsimp only at hSX)
            first | (go_simp; done) | (go_simp; with_reducible rfl)
          try simp only [Act.put, List.setIfInBounds_toArray, List.set_cons_zero, List.set_cons_succ]
          refine wpAnyH_done (by kernel_rfl) ?_ _
          have HB7' := Lib.hid (HB4.out.trans (HB47.out.mono HB4.out.size))
          obtain ⟨n0, n1, x0, x1, x2⟩ := hSS
          by_cases hrn : r' = none
          · subst hrn
            obtain rfl : hx = -1 := HBXY.out.1.symm
            have HLD := Lib.hid (refLoads_any W H _ ts _ v7 (HSRC.out.past HB7'.out) HCK.out HF.out HV.out)
            clear HL8
            go_wp2_with fail
            refine HLD.out.mono ?_
            rintro e v8 ⟨hb8', ⟨h6, rfl⟩ | ⟨h6, gb, g, rfl, hrows, hfl8⟩⟩
            · obtain ⟨rfl, rfl, rfl⟩ : er = 10 ∧ n = 0 ∧ n' = 0 := by
                rcases HL9.out with ⟨h, _⟩ | ⟨_, ⟨r2, h2, h3⟩, _⟩ | ⟨_, _, _, h⟩ | ⟨_, _, _, rows, fl, gb, g, h, _⟩
                · exact absurd HCK.out h
                · exact absurd (firstB_unique h3 HF.out) h2
                · exact h
                · rw [h] at h6; exact absurd rfl h6
              have HB8' := Lib.hid (HB7'.out.trans (hb8'.mono HB7'.out.size))
              clear hb8' h6 HLD HL9 n0 n1 x0 x1 x2
              go_wp2_with (first | (go_at_call 16; refine (HK.out _).mono ?_; rintro e w99 ⟨rfl, hb99⟩; have HB99 := Lib.hid (HB8'.out.trans (hb99.mono HB8'.out.size)); clear hb99))
              go_ret
              exact ⟨rfl, HB99.out⟩
            · obtain ⟨rfl, rows, fl, gb0, g0, hlo, rfl, rfl, rfl, _, hr0, rfl, rfl, rfl, _, hf0⟩ : er = 0 ∧ ∃ rows fl gb g, loadsF ts (W * H).toNat = (rows, fl, 0) ∧ p = some ⟨gb, 0, none⟩ ∧ n = ts.length ∧ c = ts.length ∧ w7.heap.size ≤ gb ∧ RowsAt w8 w7.heap.size gb rows ∧ p' = some ⟨g, 0, none⟩ ∧ n' = (W * H).toNat ∧ c' = (W * H).toNat ∧ w7.heap.size ≤ g ∧ LoadsB w8 g fl := by
                rcases HL9.out with ⟨h, _⟩ | ⟨_, ⟨r2, h2, h3⟩, _⟩ | ⟨_, _, h, _⟩ | ⟨h1, _, _, h⟩
                · exact absurd HCK.out h
                · exact absurd (firstB_unique h3 HF.out) h2
                · exact absurd h6 h
                · exact ⟨h1, h⟩
              have hB89 : Below w8.heap.size w8 v8 := (HB89.out.trans ((HBW.out.trans (hb3w.out.mono HBW.out.size)).mono HB89.out.size)).trans (((HB34.out.trans (HB47.out.mono HB34.out.size)).trans (hb8'.mono (HB34.out.trans (HB47.out.mono HB34.out.size)).size)).mono (HB89.out.trans ((HBW.out.trans (hb3w.out.mono HBW.out.size)).mono HB89.out.size)).size)
              rw [hlo] at hrows hfl8
              dsimp only at hrows hfl8
              have HB8' := Lib.hid (HB7'.out.trans (hb8'.mono HB7'.out.size))
              have hlv := loadsF_val (tierV_of HCK.out HF.out) hlo
              have HLV := Lib.hid hlv
              obtain ⟨N, hNe⟩ : ∃ n, (W * H).toNat = n := ⟨_, rfl⟩
              have hN144 : N ≤ 144 := by rw [← hNe]; exact HV.out.n1
              have hflen : fl.length = N := by rw [← hNe]; exact HLV.out.2.1.len
              rw [hNe]
              have P1 : PairsR v8 (.slice (some ⟨g0, 0, none⟩) N N) (natI fl) := by
                have h := (LoadsB.pairs (c := N) hf0 (by omega)).past hB89
                rw [hflen] at h
                exact h
              have P2 : PairsR v8 (.slice (some ⟨g, 0, none⟩) N N) (natI fl) := by
                have h := LoadsB.pairs (c := N) hfl8 (by omega)
                rw [hflen] at h
                exact h
              have HLS := Lib.hid (loads_same _ _ _ v8 P1 P2)
              have HR1 := Lib.hid (hr0.past hB89)
              have HR2 := Lib.hid hrows
              have HRL : Hid (rows.length = ts.length ∧ ∀ t, t < ts.length → (rows[t]?.getD []).length ≤ 1000000) := Lib.hid ⟨HLV.out.1, fun t ht => by
                have h1 := (HLV.out.2.2.2 t ht).len
                have h2 := HV.out.few t ht
                omega⟩
              clear P1 P2 hf0 hfl8 hr0 hrows hB89 hlv hlo hflen hNe HLD HL9 n0 n1 x0 x1 x2 hb8' h6 HLV
              go_wp2_with fail
              refine HLS.out.mono ?_
              rintro e v9 ⟨rfl, hb9'⟩
              have HB9' := Lib.hid (HB8'.out.trans (hb9'.mono HB8'.out.size))
              have HQ1 := Lib.hid (HR1.out.past hb9')
              have HQ2 := Lib.hid (HR2.out.past hb9')
              have HB09 := Lib.hid (Below.refl v9.heap.size v9)
              clear hb9' HR1 HR2 HLS
              go_wp2_with fail
              go_loopw [17] (fun s17 wr => ∃ i : Nat, i ≤ ts.length ∧ s17 = .int .i64 i ∧ Hid (Below v9.heap.size v9 wr)) (fun s17 _ => ts.length - (intOf s17).toNat)
              case atStart => exact ⟨0, Nat.zero_le _, rfl, HB09⟩
              case round =>
                obtain ⟨i, hi, rfl, HBY⟩ := hrel
                rename World => zw3
                clear HB09
                by_cases hil : i < ts.length
                · have hii : (0 : Int) ≤ (i : Int) := by omega
                  have hili : (i : Int) < (ts.length : Int) := by omega
                  obtain ⟨va, ca, pa⟩ := (HQ1.out.past HBY.out).pairs (t := i) (by rw [HRL.out.1]; exact hil) (HRL.out.2 i hil)
                  obtain ⟨vb, cb, pb⟩ := (HQ2.out.past HBY.out).pairs (t := i) (by rw [HRL.out.1]; exact hil) (HRL.out.2 i hil)
                  have HPA := Lib.hid pa
                  have HPB := Lib.hid pb
                  obtain ⟨aa, ac, rfl, _, _⟩ := pa
                  obtain ⟨ba, bc, rfl, _, _⟩ := pb
                  obtain ⟨m, hm⟩ : ∃ m, (natI (rows[i]?.getD [])).length = m := ⟨_, rfl⟩
                  rw [hm] at ca cb HPA HPB
                  clear hm
                  go_wp2_with fail
                  refine region_plain (fun X => X.cell? ⟨gb0, i, none⟩ = some (.slice aa m ac) ∧ X.cell? ⟨gb, i, none⟩ = some (.slice ba m bc)) 10 #[false, false, false, false, false, false, false, false, false, false] rfl rfl (by kernel_rfl) ?_
                  obtain ⟨t1, ht1⟩ : ∃ x, zw3.drew = x := ⟨_, rfl⟩
                  have hT1 : Below zw3.heap.size zw3 t1 := by rw [← ht1]; exact (Below.refl _ _).drew
                  have hSS : t1.cell? ⟨gb0, i, none⟩ = some (.slice aa m ac) ∧ t1.cell? ⟨gb, i, none⟩ = some (.slice ba m bc) := by rw [← ht1]; exact ⟨ca, cb⟩
                  rw [ht1]
                  clear ht1 ca cb
                  have HSA := Lib.hid hSS
                  have HLS := Lib.hid (loads_same _ _ _ t1 (HPA.out.past hT1) (HPB.out.past hT1))
                  have HT1 := Lib.hid (HBY.out.trans (hT1.mono HBY.out.size))
                  have HL1 : Hid (gb0 < t1.heap.size ∧ gb < t1.heap.size) := Lib.hid ⟨by have h1 := HQ1.out.lt; have h2 := HT1.out.size; omega, by have h1 := HQ2.out.lt; have h2 := HT1.out.size; omega⟩
                  clear hT1
                  refine take_first (i := 0) (v := ?_) rfl (by kernel_rfl) (by kernel_rfl) (by kernel_rfl) (fun _ _ _ h => h) (by rfl) (by assumption) ?_ ?_
                  rotate_left 1
                  · intro X hSX
                    (try dsimp only at hSX)
                    first | (go_simp; done) | (go_simp; with_reducible rfl)
                  try simp only [Act.put, List.setIfInBounds_toArray, List.set_cons_zero, List.set_cons_succ]
                  refine take_first (i := 1) (v := ?_) rfl (by kernel_rfl) (by kernel_rfl) (by kernel_rfl) (fun _ _ _ h => h) (by rfl) (by assumption) ?_ ?_
                  rotate_left 1
                  · intro X hSX
                    (try dsimp only at hSX)
                    first | (go_simp; done) | (go_simp; with_reducible rfl)
                  try simp only [Act.put, List.setIfInBounds_toArray, List.set_cons_zero, List.set_cons_succ]
                  refine take_first (i := 2) (v := ?_) rfl (by kernel_rfl) (by kernel_rfl) (by kernel_rfl) (fun _ _ _ h => h) (by rfl) (by assumption) ?_ ?_
                  rotate_left 1
                  · intro X hSX
                    (try dsimp only at hSX)
                    first | (go_simp; done) | (go_simp; with_reducible rfl)
                  try simp only [Act.put, List.setIfInBounds_toArray, List.set_cons_zero, List.set_cons_succ]
                  refine take_first (i := 3) (v := ?_) rfl (by kernel_rfl) (by kernel_rfl) (by kernel_rfl) (fun _ _ _ h => h) (by rfl) (by assumption) ?_ ?_
                  rotate_left 1
                  · intro X hSX
                    (try dsimp only at hSX)
                    first | (go_simp; done) | (go_simp; with_reducible rfl)
                  try simp only [Act.put, List.setIfInBounds_toArray, List.set_cons_zero, List.set_cons_succ]
                  refine take_first (i := 4) (v := ?_) rfl (by kernel_rfl) (by kernel_rfl) (by kernel_rfl) (fun _ _ _ h => h) (by rfl) (by assumption) ?_ ?_
                  rotate_left 1
                  · intro X hSX
                    (try dsimp only at hSX)
                    first | (go_simp; done) | (go_simp; with_reducible rfl)
                  try simp only [Act.put, List.setIfInBounds_toArray, List.set_cons_zero, List.set_cons_succ]
                  refine take_first (i := 5) (v := ?_) rfl (by kernel_rfl) (by kernel_rfl) (by kernel_rfl) (fun _ _ _ h => h) (by rfl) (by assumption) ?_ ?_
                  rotate_left 1
                  · intro X hSX
                    (try dsimp only at hSX)
                    first | (go_simp; done) | (go_simp; with_reducible rfl)
                  try simp only [Act.put, List.setIfInBounds_toArray, List.set_cons_zero, List.set_cons_succ]
                  refine take_first (i := 6) (v := ?_) rfl (by kernel_rfl) (by kernel_rfl) (by kernel_rfl) (fun _ _ _ h => h) (by rfl) (by assumption) ?_ ?_
                  rotate_left 1
                  · intro X hSX
                    (try dsimp only at hSX)
                    first | (go_simp; done) | (go_simp; with_reducible rfl)
                  try simp only [Act.put, List.setIfInBounds_toArray, List.set_cons_zero, List.set_cons_succ]
                  refine take_first (i := 7) (v := ?_) rfl (by kernel_rfl) (by kernel_rfl) (by kernel_rfl) (fun _ _ _ h => h) (by rfl) (by assumption) ?_ ?_
                  rotate_left 1
                  · intro X hSX
                    (try dsimp only at hSX)
                    first | (go_simp; done) | (go_simp; with_reducible rfl)
                  try simp only [Act.put, List.setIfInBounds_toArray, List.set_cons_zero, List.set_cons_succ]
                  refine only_one (i := 8) (by kernel_rfl) rfl (by rfl) ?_
                  intro K hK
                  go_simp
                  refine HLS.out.mono ?_
                  rintro e t2 ⟨rfl, hb2'⟩
                  have hSS : t2.cell? ⟨gb0, i, none⟩ = some (.slice aa m ac) ∧ t2.cell? ⟨gb, i, none⟩ = some (.slice ba m bc) := ⟨(hb2'.cell (p := ⟨gb0, i, none⟩) HL1.out.1).trans HSA.out.1, (hb2'.cell (p := ⟨gb, i, none⟩) HL1.out.2).trans HSA.out.2⟩
                  have HT2 := Lib.hid (HT1.out.trans (hb2'.mono HT1.out.size))
                  clear hb2'
                  refine hK.out _ _ hSS ?_
                  clear hK K
                  try simp only [Act.put, List.setIfInBounds_toArray, List.set_cons_zero, List.set_cons_succ]
                  refine take_first (i := 9) (v := ?_) rfl (by kernel_rfl) (by kernel_rfl) (by kernel_rfl) (fun _ _ _ h => h) (by rfl) (by assumption) ?_ ?_
                  rotate_left 1
                  · intro X hSX
                    (try dsimp only at hSX)
                    first | (go_simp; done) | (go_simp; with_reducible rfl)
                  try simp only [Act.put, List.setIfInBounds_toArray, List.set_cons_zero, List.set_cons_succ]
                  refine wpAnyH_done (by kernel_rfl) ?_ _
                  clear hSS
                  go_wp2
                  go_roundw
                  case rel => exact ⟨i + 1, hil, by go_num, HT2⟩
                  case measure => simp [intOf]; omega
                · have hie : i = ts.length := by omega
                  subst hie
                  have HBZ := Lib.hid (HB9'.out.trans (HBY.out.mono HB9'.out.size))
                  go_wp2_with (first | (go_at_call 16; refine (HK.out _).mono ?_; rintro e w99 ⟨rfl, hb99⟩; have HB99 := Lib.hid (HBZ.out.trans (hb99.mono HBZ.out.size)); clear hb99))
                  go_ret
                  exact ⟨rfl, HB99.out⟩
          · have hge := bT_nonneg hrn
            have hge2 : 0 ≤ hx := by rw [← HBXY.out.1]; exact hge
            obtain ⟨rfl, rfl, rfl⟩ : er = 80 ∧ n = 0 ∧ n' = 0 := by
              rcases HL9.out with ⟨h, _⟩ | ⟨_, _, h⟩ | ⟨_, h, _⟩ | ⟨_, _, h, _⟩
              · exact absurd HCK.out h
              · exact h
              · exact absurd (firstB_unique HF.out h) hrn
              · exact absurd (firstB_unique HF.out h) hrn
            clear hge HL8 HL9
            go_wp2_with (first | (go_at_call 16; refine (HK.out _).mono ?_; rintro e w99 ⟨rfl, hb99⟩; have HB99 := Lib.hid (HB7'.out.trans (hb99.mono HB7'.out.size)); clear hb99))
            go_ret
            exact ⟨rfl, HB99.out⟩
  · clear HRR
    go_wp2_with (first | (go_at_call 16; refine (HK.out _).mono ?_; rintro e w99 ⟨rfl, hb99⟩; have HB99 := Lib.hid (HB2.out.trans (hb99.mono HB2.out.size)); clear hb99))
    go_ret
    exact ⟨rfl, HB99.out⟩
section
variable {H : Type} {enc : TypeId × Value → H} {W : World}
theorem weightsAll_mem {P : Program} {e : TypeId} {d : DataW H} : ∀ {l : List (DataW H)}, d ∈ l → ∀ n ∈ d.weights P e, n ∈ DataW.weightsAll P e l
  | x :: l, h, n, hn => by
    simp only [DataW.weightsAll, List.mem_append]
    rcases List.mem_cons.1 h with rfl | h
    · exact .inl hn
    · exact .inr (weightsAll_mem h n hn)
theorem choose_list {α : Type} (p : Nat → α → Prop) : ∀ n, (∀ i, i < n → ∃ x, p i x) → ∃ l : List α, l.length = n ∧ ∀ i, i < n → ∃ x, l[i]? = some x ∧ p i x
  | 0, _ => ⟨[], rfl, fun i hi => by omega⟩
  | n + 1, h => by
    obtain ⟨l, hl, hall⟩ := choose_list p n (fun i hi => h i (by omega))
    obtain ⟨x, hx⟩ := h n (by omega)
    refine ⟨l ++ [x], by simp [hl], fun i hi => ?_⟩
    by_cases hin : i < n
    · obtain ⟨y, hy, hp⟩ := hall i hin
      exact ⟨y, by rw [List.getElem?_append_left (by omega)]; exact hy, hp⟩
    · obtain rfl : i = n := by omega
      exact ⟨x, by rw [List.getElem?_append_right (by omega), hl]; simp, hx⟩
theorem cell_blkT {w : World} {a : Addr} {v : Value} (h : w.cell? a = some v) : a.block < w.heap.size := by
  by_cases hb : a.block < w.heap.size
  · exact hb
  · rw [World.cell?, Array.getElem?_eq_none (by omega)] at h
    simp at h
/-- A slice of ints, opened. -/
theorem srcI_open {n : Nat} {v : Value} {y : DataW H × List MemPlace} (hd : DataW.trod enc Try.prog W 0 (fun _ => true) true n 46 [v] = some y) (hw : (y.1.weights Try.prog 46).all (· ≤ reachBytes) = true) :
    ∃ l, SrcI W v l := by
  rcases open_ints Try.underlying46 Try.underlying3 (by kernel_rfl) hd with ⟨hv, _⟩ | ⟨a, len, cap, zs, hv, _, hle, _, hm, hy, hall, _⟩
  · obtain rfl : v = .slice none 0 0 := by simpa using hv
    exact ⟨[], by simp, .inl ⟨rfl, rfl⟩⟩
  · obtain rfl : v = .slice (some a) len cap := by simpa using hv
    simp only [if_true] at hm
    subst hy
    have hb : Try.prog.bytesOf 3 = 8 := by kernel_rfl
    have hlits : ∀ l : List Int, (lits (H := H) .i64 l).length = l.length := fun l => by simp [lits]
    have hwt : len ≤ 17592186043904 := by
      simp only [DataW.weights, Try.underlying46, List.all_cons, Bool.and_eq_true, decide_eq_true_eq, hb] at hw
      have h1 := hw.1
      rw [hlits, hlits, List.length_take, List.length_drop] at h1
      unfold reachBytes at h1
      omega
    refine ⟨zs.take len, by simp; omega, ?_⟩
    by_cases hl : len = 0
    · subst hl
      exact .inr (.inl ⟨a, cap, rfl, by simp⟩)
    · right; right
      obtain ⟨b, off, spot⟩ := a
      have h00 := hall 0 (by omega)
      have hspot : spot = none := by simpa [Addr.add] using World.cell?_spot h00
      subst hspot
      have hlen : (zs.take len).length = len := by simp; omega
      refine ⟨b, off, cap, by rw [hlen], by omega, cell_blkT h00, ?_⟩
      intro i hi
      rw [hlen] at hi
      have h0 := hall i (by omega)
      rw [add_plain] at h0
      rw [h0, List.getElem?_take_of_lt hi]
      simp [List.getD]
/-- A slice of small numbers, opened. -/
theorem srcU_open {n : Nat} {v : Value} {y : DataW H × List MemPlace} (hd : DataW.trod enc Try.prog W 0 (fun _ => true) true n 118 [v] = some y) (hw : (y.1.weights Try.prog 118).all (· ≤ reachBytes) = true) :
    ∃ l, SrcU W v l := by
  rcases open_ints Try.underlying118 Try.underlying95 (by kernel_rfl) hd with ⟨hv, _⟩ | ⟨a, len, cap, zs, hv, _, hle, _, hm, hy, hall, hwf⟩
  · obtain rfl : v = .slice none 0 0 := by simpa using hv
    exact ⟨[], by simp, none, 0, rfl, by simp, fun i hi => by simp at hi⟩
  · obtain rfl : v = .slice (some a) len cap := by simpa using hv
    simp only [if_true] at hm
    subst hy
    have hb : Try.prog.bytesOf 95 = 2 := by kernel_rfl
    have hlits : ∀ l : List Int, (lits (H := H) .u16 l).length = l.length := fun l => by simp [lits]
    have hwt : len ≤ 140737488355328 := by
      simp only [DataW.weights, Try.underlying118, List.all_cons, Bool.and_eq_true, decide_eq_true_eq, hb] at hw
      have h1 := hw.1
      rw [hlits, hlits, List.length_take, List.length_drop] at h1
      unfold reachBytes at h1
      omega
    have hlen : (zs.take len).length = len := by simp; omega
    refine ⟨zs.take len, fun x hx => ?_, some a, cap, by rw [hlen], by omega, fun i hi => ?_⟩
    · have h1 := hwf x (List.mem_of_mem_take hx)
      simp [Lit.wf, IntKind.min, IntKind.max, IntKind.signed, IntKind.bits] at h1
      omega
    · rw [hlen] at hi
      obtain ⟨b, off, spot⟩ := a
      have h0 := hall i (by omega)
      have h00 := hall 0 (by omega)
      have hspot : spot = none := by simpa [Addr.add] using World.cell?_spot h00
      subst hspot
      refine ⟨b, off, rfl, cell_blkT h00, ?_⟩
      rw [add_plain] at h0
      rw [h0, List.getElem?_take_of_lt hi]
      simp [List.getD]
/-- A slice of tiers, opened. -/
theorem srcT_open {n : Nat} {v : Value} {y : DataW H × List MemPlace} (hd : DataW.trod enc Try.prog W 0 (fun _ => true) true n 67 [v] = some y) (hw : (y.1.weights Try.prog 67).all (· ≤ reachBytes) = true) :
    ∃ l, SrcT W v l := by
  rcases open_slice_pairs Try.underlying67 Try.underlying85 (by kernel_rfl) rfl rfl (by kernel_rfl) (by kernel_rfl) hd with ⟨hv, _⟩ | ⟨a, len, cap, m, k, V0, V1, D0, D1, P0, P1, hv, _, hle, _, hm, hy, hall⟩
  · obtain rfl : v = .slice none 0 0 := by simpa using hv
    exact ⟨[], none, 0, rfl, by simp, fun i hi => by simp at hi⟩
  · obtain rfl : v = .slice (some a) len cap := by simpa using hv
    simp only [if_true] at hm
    subst hm
    subst hy
    have hb : Try.prog.bytesOf 85 = 48 := by kernel_rfl
    simp only [DataW.weights, Try.underlying67, List.all_cons, Bool.and_eq_true, decide_eq_true_eq, List.length_map, List.length_range, hb, List.all_append] at hw
    have hwt : (len + (m - len)) * 48 ≤ 140737488351232 := by
      have h1 := hw.1
      unfold reachBytes at h1
      omega
    have hmk : ∀ i, i < len → ∃ q : List Int × List Int, SrcI W (V0 i) q.1 ∧ SrcI W (V1 i) q.2 := by
      intro i hi
      have hmem : ∀ z ∈ (DataW.agg [D0 i, D1 i]).weights Try.prog 85, decide (z ≤ reachBytes) = true := fun z hz =>
        List.all_eq_true.1 hw.2.1 z (weightsAll_mem (d := .agg [D0 i, D1 i]) (List.mem_map.2 ⟨i, List.mem_range.2 hi, rfl⟩) z hz)
      simp only [DataW.weights, Try.underlying85, DataW.weightsEach, List.map_cons, List.map_nil, List.append_nil, List.mem_append] at hmem
      obtain ⟨l1, h1⟩ := srcI_open (hall i (by omega)).2.2.1 (List.all_eq_true.2 fun z hz => hmem z (.inl hz))
      obtain ⟨l2, h2⟩ := srcI_open (hall i (by omega)).2.2.2 (List.all_eq_true.2 fun z hz => hmem z (.inr hz))
      exact ⟨(l1, l2), h1, h2⟩
    obtain ⟨ms, hms, hmsat⟩ := choose_list (fun i (q : List Int × List Int) => SrcI W (V0 i) q.1 ∧ SrcI W (V1 i) q.2) len hmk
    refine ⟨ms, some a, m, by rw [hms], by omega, fun i hi => ?_⟩
    rw [hms] at hi
    obtain ⟨b, off, spot⟩ := a
    obtain ⟨h00, _⟩ := hall 0 (by omega)
    have hspot : spot = none := by simpa [Addr.add] using World.cell?_spot h00
    subst hspot
    obtain ⟨h0, h1, t0, t1⟩ := hall i (by omega)
    obtain ⟨x, hx, hp1, hp2⟩ := hmsat i hi
    rw [add_plain] at h0 h1
    exact ⟨b, off, rfl, cell_blkT h00, V0 i, V1 i, h0, by rw [show off + i * 2 + 1 = off + (i * 2 + 1) by omega]; exact h1, by rw [hx]; exact hp1, by rw [hx]; exact hp2⟩
theorem array3T {α : Type} {a : Array α} (h : a.size = 3) : ∃ x y z, a = #[x, y, z] := by
  rcases a with ⟨l⟩
  match l, h with
  | [x, y, z], _ => exact ⟨x, y, z, rfl⟩
set_option maxRecDepth 100000 in
/-- A stack, opened. -/
theorem stack_open {b0 : Nat} {v : Value} {d : DataW H} {p : List MemPlace} (hv : Value.okWide Try.prog W .any b0 69 v) (h : DataW.Trod enc Try.prog W 0 (fun _ => true) true 69 v d p) (hw : (d.weights Try.prog 69).all (· ≤ reachBytes) = true) :
    ∃ x y tv ts, v = .agg #[.int .i64 x, .int .i64 y, tv] ∧ SrcT W tv ts := by
  obtain ⟨cs, rfl, hsz⟩ := okWide_struct Try.underlying69 hv
  obtain ⟨c0, c1, c2, rfl⟩ := array3T (hsz.trans (by kernel_rfl))
  obtain ⟨fuel, hf⟩ := h
  obtain ⟨xs, n, hd, hx, _, hlen, hall⟩ := DataW.trod_struct Try.underlying69 hf
  have hi : Try.prog.cellsOf 3 = 1 := by kernel_rfl
  have ht : Try.prog.cellsOf 67 = 1 := by kernel_rfl
  have h0 := hall 0 _ rfl
  have h1 := hall 1 _ rfl
  have h2 := hall 2 _ rfl
  have hl3 : xs.length = 3 := hlen
  obtain ⟨x0, x1, x2, rfl⟩ : ∃ x0 x1 x2, xs = [x0, x1, x2] := by
    match xs, hl3 with
    | [x0, x1, x2], _ => exact ⟨x0, x1, x2, rfl⟩
  have hd2 : d = .agg [x0.1, x1.1, x2.1] := by have := congrArg Prod.fst hx; simpa using this
  subst hd2
  simp only [DataW.weights, Try.underlying69, DataW.weightsEach, List.map_cons, List.map_nil, List.append_nil, List.all_append, Bool.and_eq_true] at hw
  simp only [List.getElem?_cons_zero, List.getElem?_cons_succ] at h0 h1 h2
  have e0 := int_of_trod (v := c0) (d := x0.1) (p := x0.2) (by simpa [hi, Value.cells] using h0)
  have e1 := int_of_trod (v := c1) (d := x1.1) (p := x1.2) (by simpa [hi, Value.cells] using h1)
  obtain ⟨ts, hts⟩ := srcT_open (v := c2) (y := x2) (by simpa [ht, Value.cells] using h2) (by
    first | exact hw.2.2 | (simpa using hw.2.2))
  exact ⟨intOf c0, intOf c1, c2, ts, by rw [← e0, ← e1], hts⟩
end
set_option maxRecDepth 100000 in
theorem contract6 (H : Type) (enc : TypeId × Value → H) (W : World) (base : Nat) (args : Array Value) (ds gs : List (DataW H)) (before : List MemPlace)
    (hval : ∀ (j : Nat) t v, Try.f6.params[j]? = some t → args[j]? = some v → Value.okWide Try.prog W .any base t v)
    (hW : DataW.Whole enc Try.prog Try.f6.params.toList Rows.kilnStacksSpec.vars false W args.toList ds gs before)
    (hz : (DataW.weightsEach Try.prog (Try.f6.params.toList ++ Rows.kilnStacksSpec.plain.varTypes Try.prog) (ds ++ gs)).all (· ≤ reachBytes) = true) :
    Calls Try.prog 6 args W fun e W' => ∃ v, e = .returned v ∧ Rows.kilnStacksSpec.post enc Try.prog Try.f6 false true false false W args v W' := by
  have hW' := hW
  obtain ⟨p, q, hA0, hV, rfl, hfz, hnd⟩ := hW
  have hA : DataW.TrodAll enc Try.prog W 0 (fun _ => true) true Try.f6.params.toList args.toList ds p := hA0
  rw [Try.params6] at hA hval hz
  obtain ⟨v0, d0, rfl, rfl, h0⟩ := trodAll_one hA
  obtain ⟨rfl, rfl⟩ := trodVars_none hV
  have hws : ((d0.weights Try.prog 69).all fun x => decide (x ≤ reachBytes)) = true := by
    simp only [List.cons_append, List.nil_append, DataW.weightsEach, List.all_append, Bool.and_eq_true, List.append_nil] at hz
    first | exact hz | exact hz.1
  obtain ⟨x, y, tv, ts, rfl, hsrc⟩ := stack_open (hval 0 69 v0 rfl rfl) h0 hws
  clear hA0
  simp only [List.append_nil] at hW'
  have hlt : ∀ x ∈ p, x.block < W.heap.size := fun x hx => by simpa using hW'.lt x (by simpa using hx)
  have g0 : ∀ (W' : World), Below W.heap.size W W' → DataW.Trod enc Try.prog W' 0 (fun b => decide (b < W.heap.size)) true 69 (.agg #[.int .i64 x, .int .i64 y, tv]) d0 p :=
    fun W' hn => Below.trod laidOutP (by kernel_rfl) (of_decide_eq_true (by kernel_rfl)) h0 hn (fun x hx => hlt x (by simp [hx]))
  refine (stacks_any x y tv _ W hsrc).mono fun e W' ⟨he, hb⟩ => ?_
  subst he
  refine ⟨_, rfl, _, _, _, [], p, [], hW', ?_, ?_, ?_, hb.frame _, fun h => by cases h⟩
  · exact trodAll_mk1 (shut_bool Try.underlying4 _)
  · exact trodAll_mk1 (g0 _ hb)
  · rfl
theorem laid_met6 (os : Os) : laidMet Try.prog Rows.kilnStacksRow.laid ((World.laidAll Try.prog os Rows.kilnStacksRow.laid).forCall (fun _ _ => 0) ⟨#[], #[.agg #[.int .i64 0, .int .i64 0, .slice none 0 0]], []⟩).memory :=
  laidMet_laidAll _ (by kernel_rfl) (by kernel_rfl)
theorem reads6 (os : Os) {H : Type} (enc : TypeId × Value → H) : ∃ places, DataW.whole enc Try.prog ((World.laidAll Try.prog os Rows.kilnStacksRow.laid).forCall (fun _ _ => 0) ⟨#[], #[.agg #[.int .i64 0, .int .i64 0, .slice none 0 0]], []⟩).memory Try.f6.params.toList Rows.kilnStacksSpec.vars false (#[.agg #[.int .i64 0, .int .i64 0, .slice none 0 0]] : Array Value).toList 8 = some ([.agg [.lit (.int .i64 0), .lit (.int .i64 0), .nil]], [], places) :=
  ⟨[], by kernel_rfl⟩
set_option maxRecDepth 100000 in
theorem lifted6 (os : Os) (started : os.Started) (H : Type) (enc : TypeId × Value → H) (F : Stop.Interp) :
    ReturnsInHanded {} Try.checked os 6 .any ((OpenSpec.ofChange Rows.kilnStacksSpec).preRow enc Try.prog Try.f6 Rows.kilnStacksRow.domain false Rows.kilnStacksRow.laid) (((OpenSpec.ofChange Rows.kilnStacksSpec).at F).post enc Try.prog Try.f6 false true false false) := by
  obtain ⟨places, hx⟩ := reads6 os enc
  refine returnsInHanded_of_row (C := Try.checked) (s := OpenSpec.ofChange Rows.kilnStacksSpec) ownP started (by kernel_rfl) Try.func6
    (witness_row_at (enc := enc) (C := Try.checked) false (World.laidAll Try.prog os Rows.kilnStacksRow.laid) #[.agg #[.int .i64 0, .int .i64 0, .slice none 0 0]] (World.laidAll_os _ _ _) (by kernel_rfl) (by kernel_rfl) (by kernel_rfl)
      (OpenSpec.preRow_of_cond 8 hx (by kernel_rfl) (fun k hk => by cases hk) (by kernel_rfl) (laid_met6 os))) ?_
  intro W base args ds gs before hval hW _ _ hz _ _ _
  exact contract6 H enc W base args ds gs before hval hW hz
theorem said6 : Rows.KilnStacksSaid :=
  OpenClaim.holds_of_cond 6 Try.f6 rfl rfl rfl rfl rfl rfl rfl ⟨rfl, rfl, rfl, rfl, rfl⟩ rfl rfl rfl rfl rfl (by kernel_rfl) Try.func6 (by kernel_rfl)
    (of_decide_eq_true (by kernel_rfl)) (by unfold Func.isWrapper; first | (rw [if_pos (by decide +kernel)]; kernel_rfl) | (rw [if_neg (by decide +kernel)]; exact ⟨rfl, rfl⟩))
    (fun os started H enc _ F => by rw [OpenClaim.pre_eq_preRow]; exact lifted6 os started H enc F)
end Go.Proofs.Ytopnlcjbklmicaa
