import Derived.Test.YtopnlcjbklmicaaK56
import Derived.Test.YtopnlcjbklmicaaK53
import Derived.Test.YtopnlcjbklmicaaK34
import Derived.WalkKit
import Derived.WalkSpells
import Derived.WalkLawsBesides
import Derived.Deep.QuietTactic
import Derived.BigQuiet
import Derived.Lib.Hide
import Derived.WalkSmall
import Derived.Maps.OwnSet
import Derived.Maps.RangeWalk
import Derived.Deep.RegionWith
import Derived.Deep.RegionHeld3
import Derived.Deep.DrawnRows
import Derived.Deep.DeepCutAuto
import Derived.OneCell
import Derived.KernelRfl
import Derived.Laws.StructEq
import Derived.StillTailTactics
import Derived.Laws.Externs
import Derived.RangeFuncBox
import Derived.Outline
import Derived.RangeFuncNested
import Derived.RangeFuncBound
import Derived.RangeFuncCalls
import Derived.RangeFuncLeaves
import Derived.Shelf.RegionOpen
import Derived.OwnWalkIn
import Derived.TacticsInMore
import Derived.LoopNIn
import Derived.LoopIn
import Derived.Test.YtopnlcjbklmicaaProg
namespace Go.Proofs.Ytopnlcjbklmicaa
open Go.RowKit Go.Maps Go.Shelf
set_option linter.unusedVariables false
set_option linter.unusedSimpArgs false
/-- A slice of small numbers that came in. -/
def SrcU (w : World) (v : Value) (l : List Int) : Prop :=
  (∀ x ∈ l, 0 ≤ x ∧ x ≤ 65535) ∧ ∃ a c, v = .slice a l.length c ∧ l.length ≤ 140737488355328 ∧ ∀ i, i < l.length → ∃ b off, a = some ⟨b, off, none⟩ ∧ b < w.heap.size ∧ w.cell? ⟨b, off + i, none⟩ = some (.int .u16 (l[i]?.getD 0))
/-- One int more. -/
theorem wpList_appI {ops : Array Oper} {rest : List Oper} {o : Oper} {a : Act} {W : World} {Q : Exit → Act → World → Prop} (hgd : o.guard = none) (s x : Operand)
    (ho : o.op = .call { callee := .builtin .append, args := #[s, x], argTypes := #[46, 46] }) (base : Nat) (v : Value) (l : List Int) (hs : a.eval s = v) (hown : IntsR W base v l) (bx : Nat) (z : Int) (hx : a.eval x = .slice (some ⟨bx, 0, none⟩) 1 1)
    (hbx : W.cell? ⟨bx, 0, none⟩ = some (.int .i64 z)) (hl : l.length ≤ 1000) (hbase : base ≤ W.heap.size)
    (h : ∀ v' W', IntsR W' base v' (l ++ [z]) → W.grownBy W' v.ownBlock → (v'.ownBlock = v.ownBlock ∨ v'.ownBlock = some W.heap.size) → wpList Try.prog ops Q rest (a.put o.dst v') W') : wpList Try.prog ops Q (o :: rest) a W := by
  obtain ⟨i0, hi, hz0, hz1, hz2⟩ := info_parts infoInt
  refine wpList_append_own_at W hgd s x 46 ho base 3 i0 (.int .i64 0) 1 8 undInts hi hz0 hz1 hz2 rfl (by decide) v l.length (iM l) hs hown ⟨bx, 0, none⟩ 1 1 [.int .i64 z] hx rfl (fun j u hj => ?_) (fun u hu => ?_) (by unfold maxLen; omega) (by omega) hbase (fun v' W' h1 h2 _ h4 => h v' W' ?_ h2 h4)
  · rw [addr_addT]
    match j, hj with
    | 0, hj => simp at hj; subst hj; exact hbx
    | j + 1, hj => simp at hj
  · simp at hu; subst hu; rfl
  · unfold IntsR iM
    rw [List.map_append, List.length_append]
    exact h1
/-- Three rows of ints of one's own. -/
structure Rows3 (w : World) (base : Nat) (v1 : Value) (l1 : List Int) (v2 : Value) (l2 : List Int) (v3 : Value) (l3 : List Int) : Prop where
  r1 : IntsR w base v1 l1
  r2 : IntsR w base v2 l2
  r3 : IntsR w base v3 l3
  n12 : ∀ k, v1.ownBlock = some k → v2.ownBlock ≠ some k
  n13 : ∀ k, v1.ownBlock = some k → v3.ownBlock ≠ some k
  n23 : ∀ k, v2.ownBlock = some k → v3.ownBlock ≠ some k
theorem Rows3.turn {w : World} {base : Nat} {v1 v2 v3 : Value} {l1 l2 l3 : List Int} (h : Rows3 w base v1 l1 v2 l2 v3 l3) : Rows3 w base v2 l2 v3 l3 v1 l1 :=
  ⟨h.r2, h.r3, h.r1, h.n23, fun k e e' => h.n12 k e' e, fun k e e' => h.n13 k e' e⟩
theorem Rows3.past {w w' : World} {base : Nat} {v1 v2 v3 : Value} {l1 l2 l3 : List Int} (h : Rows3 w base v1 l1 v2 l2 v3 l3) (hb : Below w.heap.size w w') : Rows3 w' base v1 l1 v2 l2 v3 l3 := by
  have hg : w.grownBy w' none := ⟨hb.os, hb.tape, hb.output, hb.size, fun j hj _ => hb.block j hj⟩
  exact ⟨h.r1.kept hg (fun _ _ e => by cases e), h.r2.kept hg (fun _ _ e => by cases e), h.r3.kept hg (fun _ _ e => by cases e), h.n12, h.n13, h.n23⟩
theorem Rows3.app {w w' : World} {base : Nat} {v1 v2 v3 v : Value} {l1 l2 l3 l : List Int} (h : Rows3 w base v1 l1 v2 l2 v3 l3) (hr : IntsR w' base v l) (hg : w.grownBy w' v1.ownBlock) (ha : v.ownBlock = v1.ownBlock ∨ v.ownBlock = some w.heap.size) : Rows3 w' base v l v2 l2 v3 l3 := by
  refine ⟨hr, h.r2.kept hg (fun k e e' => h.n12 k e' e), h.r3.kept hg (fun k e e' => h.n13 k e' e), fun k e e' => ?_, fun k e e' => ?_, h.n23⟩
  · rcases ha with ha | ha
    · exact h.n12 k (ha ▸ e) e'
    · have := (h.r2.lt k e').2.1
      rw [ha] at e
      have := Option.some.inj e
      omega
  · rcases ha with ha | ha
    · exact h.n13 k (ha ▸ e) e'
    · have := (h.r3.lt k e').2.1
      rw [ha] at e
      have := Option.some.inj e
      omega
theorem Rows3.empties (w : World) (b : Nat) (hb : w.heap.size = b) : Rows3 (((w.alloc (.cells #[] 3)).alloc (.cells #[] 3)).alloc (.cells #[] 3)) b (.slice (some ⟨b, 0, none⟩) 0 0) [] (.slice (some ⟨b + 1, 0, none⟩) 0 0) [] (.slice (some ⟨b + 1 + 1, 0, none⟩) 0 0) [] := by
  have g2 : (w.alloc (.cells #[] 3)).grownBy ((w.alloc (.cells #[] 3)).alloc (.cells #[] 3)) none := World.grownBy_alloc _ _ _
  have g3 : ((w.alloc (.cells #[] 3)).alloc (.cells #[] 3)).grownBy (((w.alloc (.cells #[] 3)).alloc (.cells #[] 3)).alloc (.cells #[] 3)) none := World.grownBy_alloc _ _ _
  refine ⟨((IntsR.empty w b b hb (Nat.le_refl _)).kept g2 (fun _ _ e => by cases e)).kept g3 (fun _ _ e => by cases e), (IntsR.empty (w.alloc (.cells #[] 3)) b (b + 1) (by simp [hb]) (by omega)).kept g3 (fun _ _ e => by cases e), IntsR.empty _ b (b + 1 + 1) (by simp [hb]) (by omega), ?_, ?_, ?_⟩
  all_goals
    intro k e e'
    simp [Value.ownBlock] at e e'
    omega
/-- What Loads returns, in short. -/
theorem loadsAll_parts {w w' : World} {W H : Int} {ts : List (List Int × List Int)} {e : Ending} (h : LoadsAll w W H ts e w') : ∃ p n c p' n' c' er, e = .returned (.tuple #[.slice p n c, .slice p' n' c', .int .i64 er]) ∧ Below w.heap.size w w' ∧
    ((er ≠ 0 ∧ n = 0 ∧ n' = 0 ∧ (checkF W H ts = 0 → FirstB ts (hangP ts) none → er = (loadsF ts (W * H).toNat).2.2)) ∨ (er = 0 ∧ checkF W H ts = 0 ∧ FirstB ts (hangP ts) none ∧ ∃ rows fl gb g, loadsF ts (W * H).toNat = (rows, fl, 0) ∧ p = some ⟨gb, 0, none⟩ ∧ n = ts.length ∧ c = ts.length ∧ w.heap.size ≤ gb ∧ RowsAt w' w.heap.size gb rows ∧ p' = some ⟨g, 0, none⟩ ∧ n' = (W * H).toNat ∧ c' = (W * H).toNat ∧ w.heap.size ≤ g ∧ LoadsB w' g fl)) := by
  rcases h with ⟨hc, rfl, hb⟩ | ⟨hc, r, rv, fv, er, hf, rfl, hb, hrn, hr0⟩
  · exact ⟨_, _, _, _, _, _, _, rfl, hb, .inl ⟨hc, rfl, rfl, fun h => absurd h hc⟩⟩
  · by_cases h1 : r = none
    · subst h1
      obtain ⟨e1, e2, e3⟩ := hr0 rfl
      by_cases h2 : er = 0
      · obtain ⟨gb, g, g1, g2, g3, g4, g5, g6⟩ := e3 h2
        subst g1 g4
        obtain ⟨⟨rows, fl, el⟩, hlo⟩ : ∃ q, loadsF ts (W * H).toNat = q := ⟨_, rfl⟩
        rw [hlo] at e1 g3 g6
        have h3 : el = 0 := by rw [← h2]; exact e1.symm
        subst h3
        exact ⟨_, _, _, _, _, _, _, rfl, hb, .inr ⟨h2, hc, hf, rows, fl, gb, g, hlo, rfl, rfl, rfl, g2, g3, rfl, rfl, rfl, g5, g6⟩⟩
      · obtain ⟨rfl, rfl⟩ := e2 h2
        exact ⟨_, _, _, _, _, _, _, rfl, hb, .inl ⟨h2, rfl, rfl, fun _ _ => e1⟩⟩
    · obtain ⟨rfl, rfl, rfl⟩ := hrn h1
      exact ⟨_, _, _, _, _, _, _, rfl, hb, .inl ⟨by decide, rfl, rfl, fun _ k => absurd (firstB_unique hf k) h1⟩⟩
/-- A brick's numbers. -/
def bT : Option (Nat × Nat) → Int
  | none => -1
  | some (t, _) => t
def bB : Option (Nat × Nat) → Int
  | none => -1
  | some (_, b) => b
theorem brickV_eq (q : Option (Nat × Nat)) : brickV q = .agg #[.int .i64 (bT q), .int .i64 (bB q)] := by
  cases q with
  | none => rfl
  | some q => rfl
theorem crushTo_ok {w w' : World} {W H : Int} {ts : List (List Int × List Int)} {bears : List Int} {e : Ending} {rows : List (List (Nat × Nat))} {fl : List (Nat × Nat)} (h : CrushTo w W H ts bears e w') (hc : checkF W H ts = 0) (hf : FirstB ts (hangP ts) none) (hl : loadsF ts (W * H).toNat = (rows, fl, 0)) (hb : bears.length = ts.length) (hr : (bears.all fun n => inB n 0 1000000) = true) :
    Below w.heap.size w w' ∧ ∃ q, FirstB ts (crushP ts rows bears) q ∧ e = .returned (.tuple #[.agg #[.int .i64 (bT q), .int .i64 (bB q)], .int .i64 0]) := by
  obtain ⟨h0, h | h | h | ⟨_, _, _, r, h1, h2⟩⟩ := h
  · exact absurd hc h.1
  · exact absurd hb h.2.1
  · rw [hr] at h; cases h.2.2.1
  · have hrn := firstB_unique h1 hf
    subst hrn
    rw [hl] at h2
    rcases h2 with ⟨h2, _⟩ | ⟨_, h2, _⟩ | ⟨_, _, q, h3, h4⟩
    · exact absurd rfl h2
    · exact absurd rfl h2
    · exact ⟨h0, q, h3, by rw [h4, brickV_eq]⟩
/-- Blocks that stand. -/
def KeepL (l : List (Nat × Array Value × TypeId)) (w W : World) : Prop := (∀ p ∈ l, Blk W p.1 p.2.1 p.2.2) ∧ Below w.heap.size w W
theorem KeepL.start (w : World) : KeepL [] w w := ⟨fun p hp => (by cases hp), Below.refl _ _⟩
theorem KeepL.past {l : List (Nat × Array Value × TypeId)} {w W W' : World} (h : KeepL l w W) (hb : Below W.heap.size W W') : KeepL l w W' :=
  ⟨fun p hp => (h.1 p hp).past hb, h.2.trans (hb.mono h.2.size)⟩
theorem KeepL.new {l : List (Nat × Array Value × TypeId)} {w W : World} {x : Nat} (h : KeepL l w W) (hx : W.heap.size = x) (vs : Array Value) (T : TypeId) : KeepL ((x, vs, T) :: l) w (W.alloc (.cells vs T)) := by
  have h2 := h.past ((Below.refl _ W).alloc (Nat.le_refl _) (.cells vs T))
  refine ⟨fun p hp => ?_, h2.2⟩
  rcases List.mem_cons.1 hp with rfl | hp
  · exact Blk.newI W x vs T hx
  · exact h2.1 p hp
theorem KeepL.hd {a : Nat × Array Value × TypeId} {l : List (Nat × Array Value × TypeId)} {w W : World} (h : KeepL (a :: l) w W) : Blk W a.1 a.2.1 a.2.2 := h.1 a (by simp)
theorem KeepL.tail {a : Nat × Array Value × TypeId} {l : List (Nat × Array Value × TypeId)} {w W : World} (h : KeepL (a :: l) w W) : KeepL l w W := ⟨fun p hp => h.1 p (by simp [hp]), h.2⟩
theorem KeepL.ne {l : List (Nat × Array Value × TypeId)} {w W : World} {x : Nat} (h : KeepL l w W) (hx : W.heap.size = x) : ∀ p ∈ l, p.1 ≠ x := fun p hp => by have := (h.1 p hp).lt; omega
theorem KeepL.far {l : List (Nat × Array Value × TypeId)} {w W : World} {b i : Nat} {u : Value} (h : KeepL l w W) (hn : ∀ p ∈ l, p.1 ≠ b) (hb : w.heap.size ≤ b) : KeepL l w (W.setCell ⟨b, i, none⟩ u) :=
  ⟨fun p hp => (h.1 p hp).far (hn p hp), h.2.setCell (p := ⟨b, i, none⟩) hb u⟩
theorem RowsAt.slot {W : World} {base gb : Nat} {rows : List (List (Nat × Nat))} (h : RowsAt W base gb rows) {t : Nat} (ht : t < rows.length) : ∃ p c, W.cell? ⟨gb, t, none⟩ = some (.slice p (rows[t]?.getD []).length c) := by
  obtain ⟨vals, h1, h2, h3⟩ := h
  obtain ⟨p, c, h4⟩ := own_shape2 (h3 t ht)
  exact ⟨p, c, h2.cell (by rw [← h4]; simp [show t < vals.length by omega])⟩
/-- What stands while the first brick on which something presses is looked for. -/
structure LookW (l : List (Nat × Array Value × TypeId)) (b : Nat) (w W : World) (r : Option (Nat × Nat)) : Prop where
  k : KeepL l w W
  b : Blk W b #[.int .i64 (bT r), .int .i64 (bB r)] 74
theorem LookW.set {l : List (Nat × Array Value × TypeId)} {b : Nat} {w W : World} {r : Option (Nat × Nat)} (h : LookW l b w W r) (hn : ∀ p ∈ l, p.1 ≠ b) (hb : w.heap.size ≤ b) (t i : Nat) :
    LookW l b w ((W.setCell ⟨b, 0, none⟩ (.int .i64 t)).setCell ⟨b, 1, none⟩ (.int .i64 i)) (some (t, i)) :=
  ⟨(h.k.far hn hb).far hn hb, (h.b.set 0 (by simp) (.int .i64 t) rfl).set 1 (by simp) (.int .i64 i) rfl⟩
theorem all_rep (n : Nat) (x : Int) (h : inB x 0 1000000 = true) : ((List.replicate n x).all fun n => inB n 0 1000000) = true := by
  rw [List.all_eq_true]; intro y hy; rw [(List.mem_replicate.1 hy).2]; exact h
set_option maxRecDepth 100000 in
set_option maxHeartbeats 8000000 in
theorem bears_any (W H : Int) (tv uv : Value) (ts : List (List Int × List Int)) (us : List Int) (w : World) (hs : SrcT w tv ts) (hu : SrcU w uv us) :
    Calls Try.prog 12 #[.agg #[.int .i64 W, .int .i64 H, tv], uv] w fun e w' => e = .returned (.bool true) ∧ Below w.heap.size w w' := by
  have HSRC := Lib.hid hs
  have HSU := Lib.hid hu
  obtain ⟨a, cap, rfl, hl, hp⟩ := hs
  obtain ⟨hur, ua, uc, rfl, hul, hup⟩ := hu
  have HK := Lib.hid known_any
  have A := Blk.new w #[.int .i64 W, .int .i64 H, .slice a ts.length cap] 69
  have B0 := (Below.refl _ w).alloc (Nat.le_refl _) (.cells #[.int .i64 W, .int .i64 H, .slice a ts.length cap] 69)
  have HP := Lib.hid hp
  have HUP := Lib.hid hup
  have HUR := Lib.hid hur
  clear hp hup hur
  go_enter Try.func12, Try.ntmps12
  go_wp2_with fail
  obtain ⟨w1, hw1⟩ : ∃ x, w.alloc (.cells #[.int .i64 W, .int .i64 H, .slice a ts.length cap] 69) = x := ⟨_, rfl⟩
  rw [hw1] at A B0 ⊢
  clear hw1
  have HA := Lib.hid A
  have HB := Lib.hid B0
  have x2 := A.cell (i := 2) (v := .slice a ts.length cap) rfl
  clear A B0
  go_loopw [5] (fun i wr => wr = w1 ∧ ∃ k : Nat, k ≤ ts.length ∧ i = .int .i64 k ∧ Hid (∀ t, t < k → (ts[t]?.getD ([], [])).1.length ≤ 36 ∧ (ts[t]?.getD ([], [])).2.length ≤ 36)) (fun i _ => ts.length - (intOf i).toNat)
  case atStart => exact ⟨rfl, 0, Nat.zero_le _, rfl, Lib.hid (fun t ht => by omega)⟩
  case round =>
    obtain ⟨rfl, k, hk, rfl, HL⟩ := hrel
    by_cases hlt : k < ts.length
    · obtain ⟨b, off, rfl, hbb, vc, vw, c1, c2, s1, s2⟩ := HP.out k hlt
      have c1 := (HB.out.cell (p := ⟨b, _, none⟩) hbb).trans c1
      have c2 := (HB.out.cell (p := ⟨b, _, none⟩) hbb).trans c2
      obtain ⟨ac, cc, rfl⟩ := s1.shape
      obtain ⟨aw, cw, rfl⟩ := s2.shape
      have hll1 := s1.1
      have hll2 := s2.1
      clear s1 s2
      obtain ⟨n1, hn1⟩ : ∃ n, (ts[k]?.getD ([], [])).1.length = n := ⟨_, rfl⟩
      obtain ⟨n2, hn2⟩ : ∃ n, (ts[k]?.getD ([], [])).2.length = n := ⟨_, rfl⟩
      rw [hn1] at c1 hll1
      rw [hn2] at c2 hll2
      have HN := Lib.hid (And.intro hn1 hn2)
      clear hn1 hn2
      have hki : (0 : Int) ≤ (k : Int) := by omega
      have hkl : (k : Int) < (ts.length : Int) := by omega
      by_cases h1 : 36 < n1
      · have h1i : (36 : Int) < (n1 : Int) := by omega
        go_wp2_with (first | (go_at_call 16; refine (HK.out _).mono ?_; rintro e w9 ⟨rfl, hb9⟩; have HB9 := Lib.hid (HB.out.trans (hb9.mono HB.out.size)); clear hb9))
        go_ret
        exact ⟨rfl, HB9.out⟩
      · have h1i : ¬ (36 : Int) < (n1 : Int) := by omega
        by_cases h2 : 36 < n2
        · have h2i : (36 : Int) < (n2 : Int) := by omega
          go_wp2_with (first | (go_at_call 16; refine (HK.out _).mono ?_; rintro e w9 ⟨rfl, hb9⟩; have HB9 := Lib.hid (HB.out.trans (hb9.mono HB.out.size)); clear hb9))
          go_ret
          exact ⟨rfl, HB9.out⟩
        · have h2i : ¬ (36 : Int) < (n2 : Int) := by omega
          have HL2 : Hid (∀ t, t < k + 1 → (ts[t]?.getD ([], [])).1.length ≤ 36 ∧ (ts[t]?.getD ([], [])).2.length ≤ 36) := Lib.hid fun t ht => by
            rcases Nat.lt_or_ge t k with h | h
            · exact HL.out t h
            · obtain rfl : t = k := by omega
              exact ⟨by rw [HN.out.1]; omega, by rw [HN.out.2]; omega⟩
          go_wp2
          go_roundw
          case rel => exact ⟨trivial, k + 1, by omega, by go_num, HL2⟩
          case measure => simp [intOf]; omega
    · have hke : k = ts.length := by omega
      subst hke
      clear HP
      have hlen36 := HL.out
      by_cases h8 : 8 < ts.length
      · have h8i : (8 : Int) < (ts.length : Int) := by omega
        have HBQ := HB
        clear hlen36
        go_wp2_with (first | (go_at_call 16; refine (HK.out _).mono ?_; rintro e w9 ⟨rfl, hb9⟩; have HB9 := Lib.hid (HBQ.out.trans (hb9.mono HBQ.out.size)); clear hb9))
        go_ret
        exact ⟨rfl, HB9.out⟩
      · have h8i : ¬ (8 : Int) < (ts.length : Int) := by omega
        have HOWN : Hid (∀ y, Below w.heap.size w y → Calls Try.prog 31 #[.agg #[.int .i64 W, .int .i64 H, .slice a ts.length cap]] y fun e w' => ∃ p c, e = .returned (.agg #[.int .i64 W, .int .i64 H, .slice p ts.length c]) ∧ TiersAt w'.heap.size w' (.slice p ts.length c) ts ∧ Below y.heap.size y w') :=
          Lib.hid fun y hy => own_any W H _ ts y (HSRC.out.past hy) (by omega) (fun i hi => ⟨Nat.le_trans (hlen36 i hi).1 (by decide), Nat.le_trans (hlen36 i hi).2 (by decide)⟩)
        by_cases hne : us.length = ts.length
        · have hnei : ((us.length : Int) != (ts.length : Int)) = false := by simp [hne]
          have HNE := Lib.hid hne
          have hul8 : us.length ≤ 8 := by omega
          have x0 := HA.out.cell (i := 0) (v := .int .i64 W) rfl
          have x1 := HA.out.cell (i := 1) (v := .int .i64 H) rfl
          have HO1 := Lib.hid (HOWN.out wr HB.out)
          clear hne hlen36
          go_wp2_with fail
          refine HO1.out.mono ?_
          rintro e w2 ⟨p2, c2, rfl, ht2, hb2⟩
          have HB2 := Lib.hid (HB.out.trans (hb2.mono HB.out.size))
          have HA2 := Lib.hid (HA.out.past hb2)
          have HLD := Lib.hid (loadsAll_any _ W H _ ts w2 ht2)
          clear hb2 ht2 HB HA x0 x1 x2 HO1
          go_wp2_with fail
          refine HLD.out.mono ?_
          intro e w4 hL
          obtain ⟨p, n, c, p', n', c', er, rfl, hb4, hL⟩ := loadsAll_parts hL
          have HB4 := Lib.hid (HB2.out.trans (hb4.mono HB2.out.size))
          have HA4 := Lib.hid (HA2.out.past hb4)
          clear hb4 HB2 HA2 HLD
          have HBQ := HB4
          rcases hL with ⟨her, rfl, rfl, _⟩ | ⟨rfl, hck, hhang, rows, fl, gb, g, hlo, rfl, rfl, rfl, hgb, hrows, rfl, rfl, rfl, hg, hfl⟩
          · have heri : (er != 0) = true := by simpa using her
            go_wp2_with (first | (go_at_call 16; refine (HK.out _).mono ?_; rintro e w9 ⟨rfl, hb9⟩; have HB9 := Lib.hid (HBQ.out.trans (hb9.mono HBQ.out.size)); clear hb9))
            go_ret
            exact ⟨rfl, HB9.out⟩
          · clear HBQ
            have HCK := Lib.hid hck
            have HHG := Lib.hid hhang
            have HLO := Lib.hid hlo
            have HRW := Lib.hid hrows
            obtain ⟨b, hb⟩ : ∃ x, w4.heap.size = x := ⟨_, rfl⟩
            have R0 := Rows3.empties w4 b hb
            have B5 : Below b w4 (((w4.alloc (.cells #[] 3)).alloc (.cells #[] 3)).alloc (.cells #[] 3)) := by
              rw [← hb]
              exact (((Below.refl _ w4).alloc (Nat.le_refl _) _).alloc (by simp) _).alloc (by simp; omega) _
            have HR0 := Lib.hid R0
            have HB5 := Lib.hid B5
            have HBE := Lib.hid hb
            clear R0 B5 hck hhang hlo hrows hfl hg hgb
            go_wp2_with fail
            go_loopw [9, 10, 11, 12] (fun s9 s10 s11 i wr => ∃ k : Nat, k ≤ us.length ∧ i = .int .i64 k ∧ Hid (Rows3 wr b s9 (us.take k) s10 (List.replicate k 0) s11 (List.replicate k 1000000)) ∧ Hid (Below b w4 wr)) (fun _ _ _ i _ => us.length - (intOf i).toNat)
            case atStart => exact ⟨0, Nat.zero_le _, rfl, HR0, HB5⟩
            case round =>
              obtain ⟨k, hk2, rfl, HR, HBW⟩ := hrel
              clear HR0 HB5
              by_cases hlt2 : k < us.length
              · obtain ⟨ub, uoff, rfl, hub, u1⟩ := HUP.out k hlt2
                obtain ⟨x, hx⟩ : ∃ x, us[k]?.getD 0 = x := ⟨_, rfl⟩
                have hxr : 0 ≤ x ∧ x ≤ 65535 := by rw [← hx, List.getElem?_eq_getElem hlt2]; exact HUR.out _ (List.getElem_mem hlt2)
                have htk : us.take (k + 1) = us.take k ++ [x] := by rw [List.take_succ_eq_append_getElem hlt2, ← hx, List.getElem?_eq_getElem hlt2]; rfl
                have hlk : (us.take k).length ≤ 1000 := by rw [List.length_take]; omega
                rw [hx] at u1
                have hwb : w.heap.size ≤ b := by have := HB4.out.size; have := HBE.out; omega
                have u1 := ((HB4.out.trans (HBW.out.mono hwb)).cell (p := ⟨ub, _, none⟩) hub).trans u1
                have hwx : IntKind.i64.wrap x = x := wrap_id (by omega) (by omega)
                have hki : (0 : Int) ≤ (k : Int) := by omega
                have hkl : (k : Int) < (us.length : Int) := by omega
                have HTK := Lib.hid htk
                have HLK := Lib.hid hlk
                have HWB := Lib.hid hwb
                clear hx htk hlk hwb
                obtain ⟨bx, hbx⟩ : ∃ n, wr.heap.size = n := ⟨_, rfl⟩
                go_wp2_with (first | (at_builtin; refine stopHere ?_))
                intro _
                have X1 := Blk.newI wr bx #[.int .i64 x] 3 hbx
                have R1 := HR.out.past ((Below.refl _ wr).alloc (Nat.le_refl _) (.cells #[.int .i64 x] 3))
                have hbs : b ≤ wr.heap.size := by have h1 := HBW.out.size; have h2 := HBE.out; omega
                have B1 := HBW.out.alloc hbs (.cells #[.int .i64 x] 3)
                have hbs1 : b ≤ (wr.alloc (.cells #[.int .i64 x] 3)).heap.size := by simp; omega
                refine wpList_appI rfl _ _ rfl b _ (us.take k) (by rfl) R1.r1 bx x (by rfl) (X1.cell (i := 0) rfl) HLK.out hbs1 ?_
                intro v9 y2 q1 q2 q3
                have R2 := (R1.app q1 q2 q3).turn
                have B2 := B1.grown q2 hbs1 (fun j hj => (R1.r1.lt j hj).1)
                have hbs2 : b ≤ y2.heap.size := by have h1 := B2.size; have h2 := HBE.out; omega
                have HR2 := Lib.hid R2
                have HB2 := Lib.hid B2
                have HS2 := Lib.hid hbs2
                clear hbx X1 R1 B1 hbs hbs1 q1 q2 q3 R2 B2 hbs2 HR HBW
                obtain ⟨bx2, hbx2⟩ : ∃ n, y2.heap.size = n := ⟨_, rfl⟩
                go_wp2_with (first | (at_builtin; refine stopHere ?_))
                intro _
                have X1 := Blk.newI y2 bx2 #[.int .i64 0] 3 hbx2
                have R1 := HR2.out.past ((Below.refl _ y2).alloc (Nat.le_refl _) (.cells #[.int .i64 0] 3))
                have B1 := HB2.out.alloc HS2.out (.cells #[.int .i64 0] 3)
                have hbs1 : b ≤ (y2.alloc (.cells #[.int .i64 0] 3)).heap.size := by have := HS2.out; simp; omega
                refine wpList_appI rfl _ _ rfl b _ (List.replicate k 0) (by rfl) R1.r1 bx2 0 (by rfl) (X1.cell (i := 0) rfl) (by simp; omega) hbs1 ?_
                intro v10 y3 q1 q2 q3
                have R2 := (R1.app q1 q2 q3).turn
                have B2 := B1.grown q2 hbs1 (fun j hj => (R1.r1.lt j hj).1)
                have hbs2 : b ≤ y3.heap.size := by have h1 := B2.size; have h2 := HBE.out; omega
                have HR3 := Lib.hid R2
                have HB3 := Lib.hid B2
                have HS3 := Lib.hid hbs2
                clear hbx2 X1 R1 B1 hbs1 q1 q2 q3 R2 B2 hbs2 HR2 HB2 HS2
                obtain ⟨bx3, hbx3⟩ : ∃ n, y3.heap.size = n := ⟨_, rfl⟩
                go_wp2_with (first | (at_builtin; refine stopHere ?_))
                intro _
                have X1 := Blk.newI y3 bx3 #[.int .i64 1000000] 3 hbx3
                have R1 := HR3.out.past ((Below.refl _ y3).alloc (Nat.le_refl _) (.cells #[.int .i64 1000000] 3))
                have B1 := HB3.out.alloc HS3.out (.cells #[.int .i64 1000000] 3)
                have hbs1 : b ≤ (y3.alloc (.cells #[.int .i64 1000000] 3)).heap.size := by have := HS3.out; simp; omega
                refine wpList_appI rfl _ _ rfl b _ (List.replicate k 1000000) (by rfl) R1.r1 bx3 1000000 (by rfl) (X1.cell (i := 0) rfl) (by simp; omega) hbs1 ?_
                intro v11 y4 q1 q2 q3
                have R2 := (R1.app q1 q2 q3).turn
                have B2 := B1.grown q2 hbs1 (fun j hj => (R1.r1.lt j hj).1)
                rw [← HTK.out, ← List.replicate_succ', ← List.replicate_succ'] at R2
                have HR4 := Lib.hid R2
                have HB5 := Lib.hid B2
                clear hbx3 X1 R1 B1 hbs1 q1 q2 q3 R2 B2 HR3 HB3 HS3
                go_wp2
                go_roundw
                case rel => exact ⟨k + 1, by omega, by go_num, HR4, HB5⟩
                case measure => simp [intOf]; omega
              · have hke2 : k = us.length := by omega
                subst hke2
                rename World => v0
                have hR := HR.out
                rw [List.take_length, HNE.out] at hR
                have hwb : w.heap.size < b := by have h1 := HA4.out.lt; have h2 := HBE.out; omega
                have hsr : b ≤ v0.heap.size := by have h1 := HBW.out.size; have h2 := HBE.out; omega
                have HAr := Lib.hid (HA4.out.below HBW.out hwb)
                have HBr := Lib.hid (HB4.out.trans (HBW.out.mono (by omega)))
                have HRWr := Lib.hid (HRW.out.past (by rw [HBE.out]; exact HBW.out))
                have HV1 := Lib.hid (hR.r1.ints (by omega))
                have HV2 := Lib.hid (hR.r2.ints (by simp; omega))
                have HV3 := Lib.hid (hR.r3.ints (by simp; omega))
                clear hR HR HBW HA4 HB4 HRW hwb hsr HUP
                have HRG : Hid ((us.all fun n => inB n 0 1000000) = true) := Lib.hid (List.all_eq_true.2 fun x hx => by have := HUR.out x hx; simp [inB]; omega)
                have HKL := Lib.hid (KeepL.start v0)
                have x0 := (HAr.out.past HKL.out.2).cell (i := 0) (v := .int .i64 W) rfl
                have x1 := (HAr.out.past HKL.out.2).cell (i := 1) (v := .int .i64 H) rfl
                have x2 := (HAr.out.past HKL.out.2).cell (i := 2) (v := .slice a ts.length cap) rfl
                go_wp2_with fail
                refine (HOWN.out _ (HBr.out.trans (HKL.out.2.mono HBr.out.size))).mono ?_
                rintro e y1 ⟨p3, c3, rfl, ht3, hb3⟩
                have HK1 := Lib.hid (HKL.out.past hb3)
                have HCR := Lib.hid (crushed_any _ W H _ _ ts us y1 ht3 (HV1.out.below HK1.out.2))
                clear x0 x1 x2 ht3 hb3 HKL
                go_wp2_with fail
                refine HCR.out.mono ?_
                intro e y2 hC
                obtain ⟨hb4, qa, hqa, rfl⟩ := crushTo_ok hC HCK.out HHG.out HLO.out HNE.out HRG.out
                have HQA := Lib.hid hqa
                obtain ⟨qax, hqax⟩ : ∃ x, bT qa = x := ⟨_, rfl⟩
                obtain ⟨qay, hqay⟩ : ∃ x, bB qa = x := ⟨_, rfl⟩
                rw [hqax, hqay]
                have HQAX := Lib.hid (And.intro hqax hqay)
                obtain ⟨b13, hb13⟩ : ∃ x, y2.heap.size = x := ⟨_, rfl⟩
                have HKL := Lib.hid ((HK1.out.past hb4).new hb13 #[.int .i64 qax, .int .i64 qay] 74)
                clear HK1 HCR hC hb4 hqa hqax hqay
                have x0 := (HAr.out.past HKL.out.2).cell (i := 0) (v := .int .i64 W) rfl
                have x1 := (HAr.out.past HKL.out.2).cell (i := 1) (v := .int .i64 H) rfl
                have x2 := (HAr.out.past HKL.out.2).cell (i := 2) (v := .slice a ts.length cap) rfl
                go_wp2_with fail
                obtain ⟨z14, hz⟩ : ∃ x, y2.alloc (.cells #[.int .i64 qax, .int .i64 qay] 74) = x := ⟨_, rfl⟩
                rw [hz] at HKL x0 x1 x2 ⊢
                clear hz
                refine (HOWN.out _ (HBr.out.trans (HKL.out.2.mono HBr.out.size))).mono ?_
                rintro e y1 ⟨p3, c3, rfl, ht3, hb3⟩
                have HK1 := Lib.hid (HKL.out.past hb3)
                have HCR := Lib.hid (crushed_any _ W H _ _ ts (List.replicate ts.length 0) y1 ht3 (HV2.out.below HK1.out.2))
                clear x0 x1 x2 ht3 hb3 HKL hb13
                go_wp2_with fail
                refine HCR.out.mono ?_
                intro e y2 hC
                obtain ⟨hb4, qb, hqb, rfl⟩ := crushTo_ok hC HCK.out HHG.out HLO.out (by simp) (all_rep _ _ (by decide))
                have HQB := Lib.hid hqb
                obtain ⟨qbx, hqbx⟩ : ∃ x, bT qb = x := ⟨_, rfl⟩
                obtain ⟨qby, hqby⟩ : ∃ x, bB qb = x := ⟨_, rfl⟩
                rw [hqbx, hqby]
                have HQBX := Lib.hid (And.intro hqbx hqby)
                obtain ⟨b14, hb14⟩ : ∃ x, y2.heap.size = x := ⟨_, rfl⟩
                have HKL := Lib.hid ((HK1.out.past hb4).new hb14 #[.int .i64 qbx, .int .i64 qby] 74)
                clear HK1 HCR hC hb4 hqb hqbx hqby
                have x0 := (HAr.out.past HKL.out.2).cell (i := 0) (v := .int .i64 W) rfl
                have x1 := (HAr.out.past HKL.out.2).cell (i := 1) (v := .int .i64 H) rfl
                have x2 := (HAr.out.past HKL.out.2).cell (i := 2) (v := .slice a ts.length cap) rfl
                go_wp2_with fail
                obtain ⟨z16, hz⟩ : ∃ x, y2.alloc (.cells #[.int .i64 qbx, .int .i64 qby] 74) = x := ⟨_, rfl⟩
                rw [hz] at HKL x0 x1 x2 ⊢
                clear hz
                refine (HOWN.out _ (HBr.out.trans (HKL.out.2.mono HBr.out.size))).mono ?_
                rintro e y1 ⟨p3, c3, rfl, ht3, hb3⟩
                have HK1 := Lib.hid (HKL.out.past hb3)
                have HCR := Lib.hid (crushed_any _ W H _ _ ts (List.replicate ts.length 1000000) y1 ht3 (HV3.out.below HK1.out.2))
                clear x0 x1 x2 ht3 hb3 HKL hb14
                go_wp2_with fail
                refine HCR.out.mono ?_
                intro e y2 hC
                obtain ⟨hb4, qc, hqc, rfl⟩ := crushTo_ok hC HCK.out HHG.out HLO.out (by simp) (all_rep _ _ (by decide))
                have HQC := Lib.hid hqc
                obtain ⟨qcx, hqcx⟩ : ∃ x, bT qc = x := ⟨_, rfl⟩
                obtain ⟨qcy, hqcy⟩ : ∃ x, bB qc = x := ⟨_, rfl⟩
                rw [hqcx, hqcy]
                have HQCX := Lib.hid (And.intro hqcx hqcy)
                obtain ⟨b16, hb16⟩ : ∃ x, y2.heap.size = x := ⟨_, rfl⟩
                have HKL := Lib.hid ((HK1.out.past hb4).new hb16 #[.int .i64 qcx, .int .i64 qcy] 74)
                clear HK1 HCR hC hb4 hqc hqcx hqcy
                have hqcn : qc = none := full_bears (tierV_of HCK.out HHG.out) HLO.out (by omega) (fun t ht => (HL.out t ht).2) (fun t ht b hb => by
                  have h1 := ((check_parts HCK.out).2.2.2.2 t ht).wt b hb
                  unfold wtAt
                  omega) HQC.out
                subst hqcn
                obtain ⟨rfl, rfl⟩ : qcx = -1 ∧ qcy = -1 := ⟨HQCX.out.1.symm, HQCX.out.2.symm⟩
                clear HQC HQCX HOWN HV1 HV2 HV3
                have hs16 : (y2.alloc (.cells #[.int .i64 (-1), .int .i64 (-1)] 74)).heap.size = b16 + 1 := by simp [hb16]
                have k18 := HKL.out.new hs16 #[.int .i64 (-1), .int .i64 (-1)] 74
                have k19 := k18.new (x := b16 + 1 + 1) (by simp [hb16]) #[.int .i64 (-1), .int .i64 (-1)] 74
                have m0 := k18.hd.cell (i := 0) (v := .int .i64 (-1)) rfl
                have m1 := k18.hd.cell (i := 1) (v := .int .i64 (-1)) rfl
                have n0 := k18.tail.hd.cell (i := 0) (v := .int .i64 (-1)) rfl
                have n1 := k18.tail.hd.cell (i := 1) (v := .int .i64 (-1)) rfl
                have x3 := (HAr.out.past k18.2).cell (i := 2) (v := .slice a ts.length cap) rfl
                have hnn : ((ts.length : Int) != (ts.length : Int)) = false := by simp
                have HK19 := Lib.hid k19
                have HNEQ := Lib.hid (k18.ne (x := b16 + 1 + 1) (by simp [hb16]))
                have HSZQ : Hid (v0.heap.size ≤ b16 + 1 + 1) := Lib.hid (by have := k18.2.size; simp [hb16] at this; omega)
                clear k18 k19 HKL hs16
                have hw1 : IntKind.i64.wrap ((ts.length : Int) - 1) = (ts.length : Int) - 1 := wrap_id (by omega) (by omega)
                go_wp2_with fail
                clear m0 m1 n0 n1 x3 hnn hb16
                obtain ⟨zr, hz⟩ : ∃ x, ((y2.alloc (.cells #[.int .i64 (-1), .int .i64 (-1)] 74)).alloc (.cells #[.int .i64 (-1), .int .i64 (-1)] 74)).alloc (.cells #[.int .i64 (-1), .int .i64 (-1)] 74) = x := ⟨_, rfl⟩
                rw [hz] at HK19 ⊢
                clear hz
                have hv4 := loadsF_val (tierV_of HCK.out HHG.out) HLO.out
                have hrl := hv4.1
                have HRV : Hid (∀ t, t < ts.length → (rows[t]?.getD []).length = nbAt ts t) := Lib.hid fun t ht => (hv4.2.2.2 t ht).len
                have hne : ∀ p ∈ [(b16 + 1, #[Value.int .i64 (-1), .int .i64 (-1)], (74 : TypeId)), (b16, #[Value.int .i64 (-1), .int .i64 (-1)], 74), (b14, #[Value.int .i64 qbx, .int .i64 qby], 74), (b13, #[Value.int .i64 qax, .int .i64 qay], 74)], p.1 ≠ b16 + 1 + 1 := HNEQ.out
                have HNEL := Lib.hid hne
                have HSZ9 : Hid (v0.heap.size ≤ b16 + 1 + 1) := HSZQ
                clear hv4 hne HNEQ HSZQ
                go_loopw [20] (fun k20 w5 => ∃ (k : Nat) (z : Int) (r : Option (Nat × Nat)), k ≤ ts.length ∧ k20 = .int .i64 z ∧ Hid (z = (k : Int) - 1) ∧ Hid (FirstL (nbAt ts) ts.length (pressP rows) k 0 r) ∧ Hid (LookW [(b16 + 1, #[Value.int .i64 (-1), .int .i64 (-1)], (74 : TypeId)), (b16, #[Value.int .i64 (-1), .int .i64 (-1)], 74), (b14, #[Value.int .i64 qbx, .int .i64 qby], 74), (b13, #[Value.int .i64 qax, .int .i64 qay], 74)] (b16 + 1 + 1) v0 w5 r)) (fun k20 _ => (intOf k20 + 1).toNat)
                case atStart => exact ⟨ts.length, _, none, Nat.le_refl _, rfl, Lib.hid rfl, Lib.hid (firstL_end _ _ _), Lib.hid ⟨HK19.out.tail, HK19.out.hd⟩⟩
                case round =>
                  obtain ⟨k, z, r, hk5, rfl, HZ, HF, HW⟩ := hrel
                  clear HK19
                  cases k with
                  | zero =>
                    have hz : z = -1 := by have := HZ.out; omega
                    subst hz
                    clear HZ
                    have hrq : r = qb := by
                      have h1 := firstL_first HF.out
                      have h2 := HQB.out
                      rw [none_bears] at h2
                      exact firstB_unique h1 h2
                    subst hrq
                    have hB := HW.out.b
                    rw [HQBX.out.1, HQBX.out.2] at hB
                    have i0 := hB.cell (i := 0) (v := .int .i64 qbx) rfl
                    have i1 := hB.cell (i := 1) (v := .int .i64 qby) rfl
                    have m0 := HW.out.k.hd.cell (i := 0) (v := .int .i64 (-1)) rfl
                    have m1 := HW.out.k.hd.cell (i := 1) (v := .int .i64 (-1)) rfl
                    have j0 := HW.out.k.tail.tail.hd.cell (i := 0) (v := .int .i64 qbx) rfl
                    have j1 := HW.out.k.tail.tail.hd.cell (i := 1) (v := .int .i64 qby) rfl
                    have l0 := HW.out.k.tail.tail.tail.hd.cell (i := 0) (v := .int .i64 qax) rfl
                    have l1 := HW.out.k.tail.tail.tail.hd.cell (i := 1) (v := .int .i64 qay) rfl
                    have HBQ := Lib.hid (HBr.out.trans (HW.out.k.2.mono HBr.out.size))
                    clear hB HF HW HRWr HAr
                    cases r with
                    | none =>
                      obtain ⟨rfl, rfl⟩ : qbx = -1 ∧ qby = -1 := ⟨HQBX.out.1.symm, HQBX.out.2.symm⟩
                      cases qa with
                      | some q =>
                        obtain ⟨ta, ba⟩ := q
                        obtain ⟨t', b', h1, _⟩ := firstB_sub (fun t b _ _ h => some_bears (fun x hx => (HUR.out x hx).1) t b h) HQA.out (by have h2 := HQB.out; rw [none_bears] at h2; exact h2)
                        cases h1
                      | none =>
                        obtain ⟨rfl, rfl⟩ : qax = -1 ∧ qay = -1 := ⟨HQAX.out.1.symm, HQAX.out.2.symm⟩
                        go_wp2_with (first | (go_at_call 16; refine (HK.out _).mono ?_; rintro e w9 ⟨rfl, hb9⟩; have HB9 := Lib.hid (HBQ.out.trans (hb9.mono HBQ.out.size)); clear hb9))
                        go_ret
                        exact ⟨rfl, HB9.out⟩
                    | some qq =>
                      obtain ⟨tb, bb⟩ := qq
                      obtain ⟨rfl, rfl⟩ : qbx = (tb : Int) ∧ qby = (bb : Int) := ⟨HQBX.out.1.symm, HQBX.out.2.symm⟩
                      cases qa with
                      | none =>
                        obtain ⟨rfl, rfl⟩ : qax = -1 ∧ qay = -1 := ⟨HQAX.out.1.symm, HQAX.out.2.symm⟩
                        go_wp2_with (first | (go_at_call 16; refine (HK.out _).mono ?_; rintro e w9 ⟨rfl, hb9⟩; have HB9 := Lib.hid (HBQ.out.trans (hb9.mono HBQ.out.size)); clear hb9))
                        go_ret
                        exact ⟨rfl, HB9.out⟩
                      | some q =>
                        obtain ⟨ta, ba⟩ := q
                        obtain ⟨t', b', h1, h2⟩ := firstB_sub (fun t b _ _ h => some_bears (fun x hx => (HUR.out x hx).1) t b h) HQA.out (by have h2 := HQB.out; rw [none_bears] at h2; exact h2)
                        obtain ⟨rfl, rfl⟩ : tb = t' ∧ bb = b' := by simpa using h1
                        obtain ⟨rfl, rfl⟩ : qax = (ta : Int) ∧ qay = (ba : Int) := ⟨HQAX.out.1.symm, HQAX.out.2.symm⟩
                        have g1 : ((ta : Int) == -1) = false := by simp <;> omega
                        have g2 : ((tb : Int) == -1) = false := by simp <;> omega
                        have g3 : ¬ (ta : Int) < (tb : Int) := by unfold le2 at h2; omega
                        by_cases ht : ta = tb
                        · subst ht
                          have g4 : ¬ (ba : Int) < (bb : Int) := by unfold le2 at h2; omega
                          clear h1 h2
                          go_wp2_with (first | (go_at_call 16; refine (HK.out _).mono ?_; rintro e w9 ⟨rfl, hb9⟩; have HB9 := Lib.hid (HBQ.out.trans (hb9.mono HBQ.out.size)); clear hb9))
                          go_ret
                          exact ⟨rfl, HB9.out⟩
                        · have g4 : ((ta : Int) == (tb : Int)) = false := by simp <;> omega
                          have g5 : ¬ (ta : Int) = (tb : Int) := by omega
                          clear h1 h2
                          go_wp2_with (first | (go_at_call 16; refine (HK.out _).mono ?_; rintro e w9 ⟨rfl, hb9⟩; have HB9 := Lib.hid (HBQ.out.trans (hb9.mono HBQ.out.size)); clear hb9))
                          go_ret
                          exact ⟨rfl, HB9.out⟩
                  | succ k =>
                    have hz : z = (k : Int) := by have := HZ.out; omega
                    subst hz
                    clear HZ
                    have hrw := HRWr.out.past HW.out.k.2
                    obtain ⟨pr, cr, hc0⟩ := hrw.slot (t := k) (by omega)
                    obtain ⟨nb, hnb⟩ : ∃ nb, nbAt ts k = nb := ⟨_, rfl⟩
                    rw [HRV.out k (by omega), hnb] at hc0
                    have hnb36 : nb ≤ 36 := by rw [← hnb]; exact (HL.out k (by omega)).2
                    have hw2 : IntKind.i64.wrap ((nb : Int) - 1) = (nb : Int) - 1 := wrap_id (by omega) (by omega)
                    have hki : (0 : Int) ≤ (k : Int) := by omega
                    have hkl : (k : Int) < (ts.length : Int) := by omega
                    have HF1 := Lib.hid (firstL_row HF.out)
                    rw [hnb] at HF1
                    have HNB := Lib.hid hnb
                    clear hrw hnb
                    go_wp2_with fail
                    clear hc0 hw2
                    go_loopw [21] (fun i21 w6 => ∃ (i : Nat) (y : Int) (r : Option (Nat × Nat)), i ≤ nb ∧ i21 = .int .i64 y ∧ Hid (y = (i : Int) - 1) ∧ Hid (FirstL (nbAt ts) ts.length (pressP rows) k i r) ∧ Hid (LookW [(b16 + 1, #[Value.int .i64 (-1), .int .i64 (-1)], (74 : TypeId)), (b16, #[Value.int .i64 (-1), .int .i64 (-1)], 74), (b14, #[Value.int .i64 qbx, .int .i64 qby], 74), (b13, #[Value.int .i64 qax, .int .i64 qay], 74)] (b16 + 1 + 1) v0 w6 r)) (fun i21 _ => (intOf i21 + 1).toNat)
                    case atStart => exact ⟨nb, _, r, Nat.le_refl _, rfl, Lib.hid rfl, HF1, HW⟩
                    case round =>
                      obtain ⟨i, y, r6, hi6, rfl, HY, HF6, HW6⟩ := hrel
                      clear HF HW HF1
                      cases i with
                      | zero =>
                        have hy : y = -1 := by have := HY.out; omega
                        subst hy
                        clear HY
                        have hw3 : IntKind.i64.wrap ((k : Int) - 1) = (k : Int) - 1 := wrap_id (by omega) (by omega)
                        go_wp2
                        go_roundw
                        case rel => exact ⟨k, _, r6, by omega, rfl, Lib.hid rfl, HF6, HW6⟩
                        case measure => simp [intOf] <;> omega
                      | succ i =>
                        have hy : y = (i : Int) := by have := HY.out; omega
                        subst hy
                        clear HY
                        obtain ⟨g', cap', hc1, hc2, _, _, _⟩ := (HRWr.out.past HW6.out.k.2).at (t := k) (b := i) (by omega) (by rw [HRV.out k (by omega), HNB.out]; omega)
                        rw [HRV.out k (by omega), HNB.out] at hc1
                        obtain ⟨x, hx⟩ : ∃ x, (loadAt rows k i).1 = x := ⟨_, rfl⟩
                        rw [hx] at hc2
                        have hii : (0 : Int) ≤ (i : Int) := by omega
                        have hil : (i : Int) < (nb : Int) := by omega
                        have hw3 : IntKind.i64.wrap ((i : Int) - 1) = (i : Int) - 1 := wrap_id (by omega) (by omega)
                        by_cases hx0 : 0 < x
                        · have hp : pressP rows k i = true := by unfold pressP; rw [hx]; simpa using hx0
                          have HF7 := Lib.hid (firstL_yes (nb := nbAt ts) (len := ts.length) hp (by omega) (by rw [HNB.out]; omega))
                          have HW7 := Lib.hid (HW6.out.set HNEL.out HSZ9.out k i)
                          have i0 := HW6.out.b.cell (i := 0) (v := .int .i64 (bT r6)) rfl
                          have i1 := HW6.out.b.cell (i := 1) (v := .int .i64 (bB r6)) rfl
                          have f0 := HW6.out.b.fr (i := 0)
                          have f1 := HW6.out.b.fr (i := 1)
                          have hxi : (0 : Int) < (x : Int) := by omega
                          clear hp hx
                          go_wp2
                          go_roundw
                          case rel => exact ⟨i, _, some (k, i), by omega, rfl, Lib.hid rfl, HF7, HW7⟩
                          case measure => simp [intOf] <;> omega
                        · have hp : pressP rows k i = false := by unfold pressP; rw [hx]; simpa using hx0
                          have HF7 := Lib.hid (firstL_no HF6.out hp)
                          have hxi : ¬ (0 : Int) < (x : Int) := by omega
                          clear hp hx
                          go_wp2
                          go_roundw
                          case rel => exact ⟨i, _, r6, by omega, rfl, Lib.hid rfl, HF7, HW6⟩
                          case measure => simp [intOf] <;> omega
        · have hnei : ((us.length : Int) != (ts.length : Int)) = true := by simp; omega
          have HBQ := HB
          clear hlen36
          go_wp2_with (first | (go_at_call 16; refine (HK.out _).mono ?_; rintro e w9 ⟨rfl, hb9⟩; have HB9 := Lib.hid (HBQ.out.trans (hb9.mono HBQ.out.size)); clear hb9))
          go_ret
          exact ⟨rfl, HB9.out⟩
end Go.Proofs.Ytopnlcjbklmicaa
