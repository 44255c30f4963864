import Derived.Test.YtopnlcjbklmicaaK26
import Derived.WalkKit
import Derived.WalkSpells
import Derived.WalkLawsBesides
import Derived.Deep.QuietTactic
import Derived.BigQuiet
import Derived.Lib.Hide
import Derived.WalkSmall
import Derived.Maps.OwnSet
import Derived.Maps.RangeWalk
import Derived.Deep.RegionWith
import Derived.Deep.RegionHeld3
import Derived.Deep.DrawnRows
import Derived.Deep.DeepCutAuto
import Derived.OneCell
import Derived.KernelRfl
import Derived.Laws.StructEq
import Derived.StillTailTactics
import Derived.Laws.Externs
import Derived.RangeFuncBox
import Derived.Outline
import Derived.RangeFuncNested
import Derived.RangeFuncBound
import Derived.RangeFuncCalls
import Derived.RangeFuncLeaves
import Derived.Shelf.RegionOpen
import Derived.OwnWalkIn
import Derived.TacticsInMore
import Derived.LoopNIn
import Derived.LoopIn
import Derived.Test.YtopnlcjbklmicaaProg
namespace Go.Proofs.Ytopnlcjbklmicaa
open Go.RowKit Go.Maps Go.Shelf
set_option linter.unusedVariables false
set_option linter.unusedSimpArgs false
/-- A store of bricks: how many are wet, dry, burning, fired, laid, broken, missing, and the space of each. -/
structure St where
  wet : Int
  dry : Int
  burn : Int
  fired : Int
  laid : Int
  brk : Int
  miss : Int
  space : Int
def St.vals (s : St) : List Value := [.int .i64 s.wet, .int .i64 s.dry, .int .i64 s.burn, .int .i64 s.fired, .int .i64 s.laid, .int .i64 s.brk, .int .i64 s.miss, .int .i64 s.space]
def St.zero : St := ⟨0, 0, 0, 0, 0, 0, 0, 0⟩
def flatS (l : List St) : List Value := (l.map St.vals).flatten
/-- No count is below 0, or greater than 10^9. -/
def St.Ok (s : St) : Prop := (0 ≤ s.wet ∧ s.wet ≤ 1000000000) ∧ (0 ≤ s.dry ∧ s.dry ≤ 1000000000) ∧ (0 ≤ s.burn ∧ s.burn ≤ 1000000000) ∧ (0 ≤ s.fired ∧ s.fired ≤ 1000000000) ∧ (0 ≤ s.laid ∧ s.laid ≤ 1000000000) ∧ (0 ≤ s.brk ∧ s.brk ≤ 1000000000) ∧ (0 ≤ s.miss ∧ s.miss ≤ 1000000000)
def St.all (s : St) : Int := s.wet + s.dry + s.burn + s.fired + s.laid + s.brk
theorem moulded_any (s : St) (hs : s.Ok) (w : World) : Calls Try.prog 84 #[.agg s.vals.toArray] w fun e w' => e = .returned (.int .i64 s.all) ∧ w' = w.alloc (.cells s.vals.toArray 133) := by
  obtain ⟨a, b, c, d, e, f, g, h⟩ := s
  obtain ⟨h1, h2, h3, h4, h5, h6, h7⟩ := hs
  dsimp only [St.vals, St.all] at *
  have w1 : IntKind.i64.wrap (a + b) = a + b := wrap_id (by omega) (by omega)
  have w2 : IntKind.i64.wrap (a + b + c) = a + b + c := wrap_id (by omega) (by omega)
  have w3 : IntKind.i64.wrap (a + b + c + d) = a + b + c + d := wrap_id (by omega) (by omega)
  have w4 : IntKind.i64.wrap (a + b + c + d + e) = a + b + c + d + e := wrap_id (by omega) (by omega)
  have w5 : IntKind.i64.wrap (a + b + c + d + e + f) = a + b + c + d + e + f := wrap_id (by omega) (by omega)
  clear h1 h2 h3 h4 h5 h6 h7
  have B := Blk.new w #[.int .i64 a, .int .i64 b, .int .i64 c, .int .i64 d, .int .i64 e, .int .i64 f, .int .i64 g, .int .i64 h] 133
  have b0 := B.cell (i := 0) (v := .int .i64 a) rfl
  have b1 := B.cell (i := 1) (v := .int .i64 b) rfl
  have b2 := B.cell (i := 2) (v := .int .i64 c) rfl
  have b3 := B.cell (i := 3) (v := .int .i64 d) rfl
  have b4 := B.cell (i := 4) (v := .int .i64 e) rfl
  have b5 := B.cell (i := 5) (v := .int .i64 f) rfl
  clear B
  go_enter Try.func84, Try.ntmps84
  go_wp2
  go_ret
  exact ⟨rfl, rfl⟩
/-- What a change does with a store: the error, and the store. -/
def mouldF (n : Int) (s : St) : Int × St := if s.all + n > 1000000000 then (8, s) else (0, { s with wet := s.wet + n })
def dryF (n k : Int) (s : St) : Int × St := if inB k 0 n = true then (0, { s with wet := s.wet - n, dry := s.dry + (n - k), brk := s.brk + k }) else (2, s)
set_option maxHeartbeats 1000000 in
theorem mould1_any (s : St) (n : Int) (hs : s.Ok) (hn : 0 ≤ n ∧ n ≤ 1000000000) (sb nb : Nat) (w : World) (hb : Blk w sb s.vals.toArray 133) (hc : Blk w nb #[.int .i64 n] 3) :
    Calls Try.prog 83 #[.pointer (some ⟨sb, 0, none⟩), .pointer (some ⟨nb, 0, none⟩)] w fun e w' => e = .returned (.int .i64 (mouldF n s).1) ∧ Blk w' sb (mouldF n s).2.vals.toArray 133 ∧ But sb sb w w' := by
  have HM := Lib.hid fun w => moulded_any s hs w
  obtain ⟨m, hm⟩ : ∃ m, s.all = m := ⟨_, rfl⟩
  have hmr : 0 ≤ m ∧ m ≤ 6000000000 := by unfold St.all at hm; obtain ⟨h1, h2, h3, h4, h5, h6, h7⟩ := hs; omega
  have HF : Hid (mouldF n s = if m + n > 1000000000 then (8, s) else (0, { s with wet := s.wet + n })) := Lib.hid (by unfold mouldF; rw [hm])
  rw [hm] at HM
  obtain ⟨a, b, c, d, e, f, g, h⟩ := s
  obtain ⟨h1, _⟩ := hs
  dsimp only [St.vals] at *
  have wm : IntKind.i64.wrap (m + n) = m + n := wrap_id (by omega) (by omega)
  have wa : IntKind.i64.wrap (a + n) = a + n := wrap_id (by omega) (by omega)
  have B1 := (hb.alloc (.cells #[.int .i64 a, .int .i64 b, .int .i64 c, .int .i64 d, .int .i64 e, .int .i64 f, .int .i64 g, .int .i64 h] 133)).drew
  have C1 := (hc.alloc (.cells #[.int .i64 a, .int .i64 b, .int .i64 c, .int .i64 d, .int .i64 e, .int .i64 f, .int .i64 g, .int .i64 h] 133)).drew
  have c0 := hc.cell (i := 0) (v := .int .i64 n) rfl
  have b0 := hb.cell (i := 0) (v := .int .i64 a) rfl
  have b1 := hb.cell (i := 1) (v := .int .i64 b) rfl
  have b2 := hb.cell (i := 2) (v := .int .i64 c) rfl
  have b3 := hb.cell (i := 3) (v := .int .i64 d) rfl
  have b4 := hb.cell (i := 4) (v := .int .i64 e) rfl
  have b5 := hb.cell (i := 5) (v := .int .i64 f) rfl
  have b6 := hb.cell (i := 6) (v := .int .i64 g) rfl
  have b7 := hb.cell (i := 7) (v := .int .i64 h) rfl
  have HB1 := Lib.hid B1
  have HC1 := Lib.hid C1
  have HBT : Hid (But sb sb w (w.alloc (.cells #[.int .i64 a, .int .i64 b, .int .i64 c, .int .i64 d, .int .i64 e, .int .i64 f, .int .i64 g, .int .i64 h] 133)).drew) := Lib.hid ((But.refl sb sb w).past ((Below.refl _ _).alloc (Nat.le_refl _) _)).drew
  have HS0 := Lib.hid (And.intro b0 (And.intro b1 (And.intro b2 (And.intro b3 (And.intro b4 (And.intro b5 (And.intro b6 (And.intro b7 c0))))))))
  have HS1 := Lib.hid (And.intro (B1.cell (i := 0) (v := .int .i64 a) rfl) (And.intro (B1.cell (i := 1) (v := .int .i64 b) rfl) (And.intro (B1.cell (i := 2) (v := .int .i64 c) rfl) (And.intro (B1.cell (i := 3) (v := .int .i64 d) rfl) (And.intro (B1.cell (i := 4) (v := .int .i64 e) rfl) (And.intro (B1.cell (i := 5) (v := .int .i64 f) rfl) (And.intro (B1.cell (i := 6) (v := .int .i64 g) rfl) (And.intro (B1.cell (i := 7) (v := .int .i64 h) rfl) (C1.cell (i := 0) (v := .int .i64 n) rfl)))))))))
  clear B1 C1 hb hc hm h1 hmr
  go_enter Try.func83, Try.ntmps83
  go_wp2_with fail
  go_region_held3 (fun W => W.cell? ⟨sb, 0, none⟩ = some (.int .i64 a) ∧ W.cell? ⟨sb, 1, none⟩ = some (.int .i64 b) ∧ W.cell? ⟨sb, 2, none⟩ = some (.int .i64 c) ∧ W.cell? ⟨sb, 3, none⟩ = some (.int .i64 d) ∧ W.cell? ⟨sb, 4, none⟩ = some (.int .i64 e) ∧ W.cell? ⟨sb, 5, none⟩ = some (.int .i64 f) ∧ W.cell? ⟨sb, 6, none⟩ = some (.int .i64 g) ∧ W.cell? ⟨sb, 7, none⟩ = some (.int .i64 h) ∧ W.cell? ⟨nb, 0, none⟩ = some (.int .i64 n))
    (first | with_reducible exact HS0.out | exact HS0.out | with_reducible exact HS1.out | (go_keep; done))
    ((go_at_call 84; refine (HM.out _).mono ?_; rintro e w5 ⟨rfl, rfl⟩))
  all_goals
    rename_i hHeld
    clear hHeld HS0 HS1 b0 b1 b2 b3 b4 b5 b6 b7 c0 HM
    obtain ⟨W1, hW1⟩ : ∃ W1, (w.alloc (.cells #[.int .i64 a, .int .i64 b, .int .i64 c, .int .i64 d, .int .i64 e, .int .i64 f, .int .i64 g, .int .i64 h] 133)).drew = W1 := ⟨_, rfl⟩
    rw [hW1] at HB1 HC1 HBT ⊢
    clear hW1
    have b0 := HB1.out.cell (i := 0) (v := .int .i64 a) rfl
    have f0 := HB1.out.fr (i := 0)
    have c0 := HC1.out.cell (i := 0) (v := .int .i64 n) rfl
    obtain ⟨q, hq⟩ : ∃ q, decide (1000000000 < m + n) = q := ⟨_, rfl⟩
    rw [hq]
    cases q
    · have HV := Lib.hid (HF.out.trans (if_neg (of_decide_eq_false hq)))
      have HB2 := Lib.hid ((HB1.out.set 0 (by simp) (.int .i64 (a + n)) rfl).drew)
      have HBT2 := Lib.hid ((HBT.out.set (i := 0) sb (.inl rfl) (.int .i64 (a + n))).drew)
      clear hq HF
      go_wp2
      go_region
      all_goals
        go_wp2
        go_ret
        exact ⟨by rw [HV.out]; rfl, by rw [HV.out]; exact HB2.out, HBT2.out⟩
    · have HV := Lib.hid (HF.out.trans (if_pos (of_decide_eq_true hq)))
      clear hq HF
      go_wp2
      go_ret
      exact ⟨by rw [HV.out]; rfl, by rw [HV.out]; exact HB1.out, HBT.out⟩
end Go.Proofs.Ytopnlcjbklmicaa
