/-
  Contracts of the program's own functions (and their plain mathematics), on the way to the law: each for all arguments that its hypotheses let.
-/
import Derived.Test.YtedpafdfecofnaaGreatDoorF61
import Derived.Test.YtedpafdfecofnaaGreatDoorF11
import Derived.Deep.AppendLies
import Derived.WalkKit
import Derived.WalkSpells
import Derived.WalkLawsBesides
import Derived.Deep.QuietTactic
import Derived.BigQuiet
import Derived.Lib.Hide
import Derived.WalkSmall
import Derived.Maps.OwnSet
import Derived.Maps.RangeWalk
import Derived.Deep.RegionWith
import Derived.Deep.RegionHeld3
import Derived.Deep.DrawnRows
import Derived.Deep.DeepCutAuto
import Derived.OneCell
import Derived.KernelRfl
import Derived.Laws.StructEq
import Derived.StillTailTactics
import Derived.Laws.Externs
import Derived.RangeFuncBox
import Derived.Test.YtedpafdfecofnaaGreatDoorPlain
import Derived.Test.YtedpafdfecofnaaGreatDoorF46
set_option linter.unusedSimpArgs false
set_option linter.unusedVariables false

/-! ## D12 -/
namespace Go.Proofs.YtedpafdfecofnaaGreatDoor
open Go.RowKit Go.Maps Go.Shelf Go.Sort
def updT (u : Int × Int) (m : Int) (t : Int × Int) : Int × Int := if t.2 = u.2 then (t.1 - u.1 * m, t.2) else t
def hasR (r : Int) (O : List (Int × Int)) : Bool := O.any fun t => t.2 == r
def lessS (m : Int) (O : List (Int × Int)) (u : Int × Int) : List (Int × Int) := if hasR u.2 O = true then O.map (updT u m) else O ++ [(-(u.1 * m), u.2)]
def lessF (x : List (Int × Int)) (b : Int) (y : List (Int × Int)) (m : Int) : List (Int × Int) := y.foldl (lessS m) (x.map fun t => (t.1 * b, t.2))
theorem hasR_take (r : Int) (O : List (Int × Int)) (i : Nat) (h : i < O.length) : hasR r (O.take (i + 1)) = (hasR r (O.take i) || ((O[i]?.getD (0, 0)).2 == r)) := by
  unfold hasR
  rw [List.take_succ_eq_append_getElem h, List.any_append]
  simp [h]
theorem map_set {f : Int × Int → Int × Int} {O : List (Int × Int)} {i : Nat} (h : i < O.length) : ((O.take i).map f ++ O.drop i).set i (f (O[i]?.getD (0, 0))) = (O.take (i + 1)).map f ++ O.drop (i + 1) := by
  rw [List.set_append_right _ _ (by simp; omega), List.length_map, List.length_take, Nat.min_eq_left (Nat.le_of_lt h), Nat.sub_self, List.drop_eq_getElem_cons h, List.take_succ_eq_append_getElem h, List.map_append, List.append_assoc]
  simp only [List.set_cons_zero, List.map_cons, List.map_nil, List.cons_append, List.nil_append, List.getElem?_eq_getElem h, Option.getD_some]
theorem map_skip {f : Int × Int → Int × Int} {O : List (Int × Int)} {i : Nat} (h : i < O.length) (hf : f (O[i]?.getD (0, 0)) = O[i]?.getD (0, 0)) : (O.take i).map f ++ O.drop i = (O.take (i + 1)).map f ++ O.drop (i + 1) := by
  rw [List.drop_eq_getElem_cons h, List.take_succ_eq_append_getElem h, List.map_append, List.append_assoc]
  simp [h] at hf
  simp [hf]
theorem map_at {f : Int × Int → Int × Int} {O : List (Int × Int)} {i : Nat} (h : i < O.length) : ((O.take i).map f ++ O.drop i)[i]?.getD (0, 0) = O[i]?.getD (0, 0) := by
  rw [List.getElem?_append_right (by simp; omega)]
  simp [Nat.min_eq_left (Nat.le_of_lt h)]
theorem map_len {f : Int × Int → Int × Int} {O : List (Int × Int)} {i : Nat} (h : i ≤ O.length) : ((O.take i).map f ++ O.drop i).length = O.length := by simp; omega
theorem map_none {u : Int × Int} {m : Int} {O : List (Int × Int)} (h : hasR u.2 O = false) : O.map (updT u m) = O := by
  unfold hasR at h
  rw [List.any_eq_false] at h
  have e : ∀ t ∈ O, updT u m t = t := fun t ht => by
    have := h t ht
    unfold updT
    rw [if_neg (by simpa using this)]
  exact (List.map_congr_left e).trans (List.map_id' O)
theorem fold_take {β : Type} (f : β → Int × Int → β) (b : β) (l : List (Int × Int)) (k : Nat) (h : k < l.length) : (l.take (k + 1)).foldl f b = f ((l.take k).foldl f b) (l[k]?.getD (0, 0)) := by
  rw [List.take_succ_eq_append_getElem h, List.foldl_append]; simp [h]
/-- The coefficients stay within bounds. -/
def BdL (B : Int) (l : List (Int × Int)) : Prop := ∀ t ∈ l, -B ≤ t.1 ∧ t.1 ≤ B
theorem lessS_bd {B C m : Int} {O : List (Int × Int)} {u : Int × Int} (h : BdL B O) (hB : 0 ≤ B) (hu : -C ≤ u.1 * m ∧ u.1 * m ≤ C) : BdL (B + C) (lessS m O u) := by
  intro t ht
  unfold lessS at ht
  split at ht
  · obtain ⟨s, hs, rfl⟩ := List.mem_map.1 ht
    have := h s hs
    unfold updT
    split
    · dsimp only; omega
    · omega
  · rcases List.mem_append.1 ht with h1 | h1
    · have := h t h1; omega
    · rw [List.mem_singleton] at h1; subst h1; dsimp only; omega
theorem lessS_len (m : Int) (O : List (Int × Int)) (u : Int × Int) : (lessS m O u).length ≤ O.length + 1 := by
  unfold lessS
  split
  · simp
  · simp
set_option maxRecDepth 100000 in
set_option maxHeartbeats 16000000 in
/-- Less: the terms of one number times something less those of another one times something. -/
theorem less_terms (vx vy : Value) (x y : List (Int × Int)) (b m : Int) (w : World) (hx : TermsAt w vx x) (hy : TermsAt w vy y) (hlx : x.length ≤ 4) (hly : y.length ≤ 4)
    (hbx : Hid (∀ t ∈ x, -100000000000000000 ≤ t.1 * b ∧ t.1 * b ≤ 100000000000000000)) (hby : Hid (∀ u ∈ y, (-1000000000000000000 ≤ u.1 ∧ u.1 ≤ 1000000000000000000) ∧ -100000000000000000 ≤ u.1 * m ∧ u.1 * m ≤ 100000000000000000)) :
    Calls Tryz.prog 74 #[vx, .int .i64 b, vy, .int .i64 m] w fun e w' => ∃ v, e = .returned v ∧ OwnT w' w.heap.size v (lessF x b y m) ∧ Below w.heap.size w w' := by
  obtain ⟨i0, hi, hz0, hz1, hz2⟩ := info_parts info34
  obtain ⟨ax, cx, rfl, px⟩ := hx.placed
  obtain ⟨ay, cy, rfl, py⟩ := hy.placed
  have PX := Lib.hid px
  have PY := Lib.hid py
  clear hx hy px py
  go_enter Tryz.func74, Tryz.ntmps74
  go_wp2_with fail
  go_loopw [9, 10] (fun v i wr => ∃ k : Nat, k ≤ x.length ∧ i = .int .i64 k ∧ Hid (OwnT wr w.heap.size v ((x.take k).map fun t => (t.1 * b, t.2))) ∧ Hid (Below w.heap.size w wr)) (fun _ i _ => x.length - (intOf i).toNat)
  case atStart => exact ⟨0, Nat.zero_le _, rfl, Lib.hid (empty_own w), Lib.hid ((Below.refl _ _).alloc (Nat.le_refl _) _)⟩
  case round =>
    obtain ⟨k, hk, rfl, HO, HB⟩ := hrel
    by_cases hlt : k < x.length
    · obtain ⟨bb, off, rfl, hbl, hp1, hp2⟩ := PX.out k hlt
      have hbd := hbx.out (x[k]?.getD (0, 0)) (by simp [hlt])
      have hst : (x.take (k + 1)).map (fun t => (t.1 * b, t.2)) = (x.take k).map (fun t => (t.1 * b, t.2)) ++ [((x[k]?.getD (0, 0)).1 * b, (x[k]?.getD (0, 0)).2)] := by
        rw [List.take_succ_eq_append_getElem hlt, List.map_append]; simp [hlt]
      obtain ⟨c, r, hel⟩ : ∃ c r, x[k]?.getD (0, 0) = (c, r) := ⟨_, _, rfl⟩
      rw [hel] at hp1 hp2 hbd hst
      dsimp only at hp1 hp2 hbd hst
      have HST := Lib.hid hst
      have hw1 : IntKind.i64.wrap (c * b) = c * b := IntWalk.i64_in _ (by omega)
      have HN : Hid (((x.take k).map fun t => (t.1 * b, t.2)).length = k) := Lib.hid (by simp; omega)
      have i1 : (0 : Int) ≤ (k : Int) := by omega
      have i2 : (k : Int) < (x.length : Int) := by omega
      have KK : Hid (∀ w', Below w.heap.size w w' → w'.cell? ⟨bb, off + k * 2, none⟩ = some (.int .i64 c) ∧ w'.cell? ⟨bb, off + k * 2 + 1, none⟩ = some (.int .i64 r)) := Lib.hid fun w' h => ⟨(h.cell (p := ⟨bb, _, none⟩) hbl).trans hp1, (h.cell (p := ⟨bb, _, none⟩) hbl).trans hp2⟩
      clear hel hp1 hp2 hst
      obtain ⟨x0, x1⟩ := KK.out _ HB.out
      have C0 := Below.refl wr.heap.size wr
      have KB : Hid (∀ w', Below wr.heap.size wr w' → Below w.heap.size w w') := Lib.hid fun w' h => HB.out.trans (h.mono HB.out.size)
      obtain ⟨L9, hL9⟩ : ∃ L, (x.take k).map (fun t => (t.1 * b, t.2)) = L := ⟨_, rfl⟩
      rw [hL9] at HN HO HST
      have HOWN : Hid (∀ w', Below wr.heap.size wr w' → w'.ownsRow w.heap.size 34 2 u9 k (flatT L9)) := Lib.hid fun w' h => by have := HO.out.below h; unfold OwnT at this; rw [HN.out] at this; exact this
      have HLOW : Hid (∀ q, u9.ownBlock = some q → w.heap.size ≤ q) := Lib.hid (fun q hq => (HO.out.lt q hq).1)
      have HONE : Hid (∀ u ∈ [Value.int .i64 (c * b), Value.int .i64 r], u.oneCell' = true) := Lib.hid (by simp [Value.oneCell'])
      have HQ10 : Hid (k + 1 ≤ maxLen) := Lib.hid (by unfold maxLen; omega)
      have HQ11 : Hid ((k + 1) * 16 ≤ 140737488355328) := Lib.hid (by omega)
      clear hL9
      go_wp2_with fail
      go_region_held3 (fun w' => w'.cell? ⟨bb, off + k * 2, none⟩ = some (.int .i64 c) ∧ w'.cell? ⟨bb, off + k * 2 + 1, none⟩ = some (.int .i64 r))
        (first | exact KK.out _ (KB.out _ (by (first | exact C0 | exact C0.drew | exact C0.alloc (Nat.le_refl _) _ | exact (C0.drew).alloc (Nat.le_refl _) _ | exact (C0.alloc (Nat.le_refl _) _).drew | exact ((C0.drew).alloc (Nat.le_refl _) _).drew))) | exact KK.out _ BG | exact KK.out _ BG.drew)
        ((refine step_append_lies _ (by rfl) _ _ _ (by rfl) w.heap.size 34 i0 (.agg #[.int .i64 0, .int .i64 0]) 2 16 und22 hi hz0 hz1 hz2 (by rfl) (by decide) u9 k (flatT L9) (by rfl) (HOWN.out _ (by (first | exact C0 | exact C0.drew | exact C0.alloc (Nat.le_refl _) _ | exact (C0.drew).alloc (Nat.le_refl _) _ | exact (C0.alloc (Nat.le_refl _) _).drew | exact ((C0.drew).alloc (Nat.le_refl _) _).drew))) ⟨wr.heap.size, 0, none⟩ 1 1 [Value.int .i64 (c * b), Value.int .i64 r] (by rfl) (by rfl) (fun j u h => cell_two_new _ _ _ _ j u h) HONE.out (by decide) HQ10.out HQ11.out (Below.size (KB.out _ (by (first | exact C0 | exact C0.drew | exact C0.alloc (Nat.le_refl _) _ | exact (C0.drew).alloc (Nat.le_refl _) _ | exact (C0.alloc (Nat.le_refl _) _).drew | exact ((C0.drew).alloc (Nat.le_refl _) _).drew)))) (wr.heap.size + 1) (by simp) ?_; intro g8 cap8 w8 hown8 hgrow8 hat8 hlt8; have BG := Below.grown (KB.out _ (by (first | exact C0 | exact C0.drew | exact C0.alloc (Nat.le_refl _) _ | exact (C0.drew).alloc (Nat.le_refl _) _ | exact (C0.alloc (Nat.le_refl _) _).drew | exact ((C0.drew).alloc (Nat.le_refl _) _).drew))) hgrow8 (Below.size (KB.out _ (by (first | exact C0 | exact C0.drew | exact C0.alloc (Nat.le_refl _) _ | exact (C0.drew).alloc (Nat.le_refl _) _ | exact (C0.alloc (Nat.le_refl _) _).drew | exact ((C0.drew).alloc (Nat.le_refl _) _).drew)))) HLOW.out; have HOWN9 := Lib.hid hown8; have HBG := Lib.hid BG; clear hown8 hgrow8 hat8))
      go_wp2
      go_roundw
      case rel => exact ⟨k + 1, by omega, by go_num, Lib.hid (by rw [HST.out]; unfold OwnT; rw [List.length_append, HN.out, flatT_snoc]; exact HOWN9.out), HBG⟩
      case measure => simp only [intOf]; omega
    · have HO1 : Hid (OwnT wr w.heap.size u9 (x.map fun t => (t.1 * b, t.2))) := Lib.hid (by have := HO.out; rwa [List.take_of_length_le (by omega)] at this)
      clear HO
      go_wp2_with fail
      go_loopw [9, 11, 12, 13] (fun v j _ _ wr => ∃ (k : Nat) (O : List (Int × Int)), k ≤ y.length ∧ j = .int .i64 (k : Nat) ∧ O.length ≤ 4 + k ∧ Hid (O = (y.take k).foldl (lessS m) (x.map fun t => (t.1 * b, t.2))) ∧ Hid (BdL (100000000000000000 * (1 + (k : Int))) O) ∧ Hid (OwnT wr w.heap.size v O) ∧ Hid (Below w.heap.size w wr)) (fun _ j _ _ _ => y.length - (intOf j).toNat)
      case atStart => exact ⟨0, x.map fun t => (t.1 * b, t.2), Nat.zero_le _, rfl, by simpa using hlx, Lib.hid rfl, Lib.hid (fun t ht => by
        obtain ⟨s, hs, rfl⟩ := List.mem_map.1 ht
        have := hbx.out s hs
        dsimp only; omega), HO1, HB⟩
      case round =>
        clear HO1 HB
        obtain ⟨k, O, hk, rfl, hOl, HOV, HBD, HO, HB⟩ := hrel
        by_cases hlt : k < y.length
        rotate_left
        · have HF : Hid (O = lessF x b y m) := Lib.hid (by rw [HOV.out, List.take_of_length_le (by omega)]; rfl)
          clear HOV
          go_wp2
          go_ret
          exact ⟨_, rfl, by rw [← HF.out]; exact HO.out, HB.out⟩
        obtain ⟨bb, off, rfl, hbl, hp1, hp2⟩ := PY.out k hlt
        have hbd := hby.out (y[k]?.getD (0, 0)) (by simp [hlt])
        have hst := fold_take (lessS m) (x.map fun t => (t.1 * b, t.2)) y k hlt
        obtain ⟨c, r, hel⟩ : ∃ c r, y[k]?.getD (0, 0) = (c, r) := ⟨_, _, rfl⟩
        rw [hel] at hp1 hp2 hbd hst
        dsimp only at hp1 hp2 hbd
        have HST : Hid ((y.take (k + 1)).foldl (lessS m) (x.map fun t => (t.1 * b, t.2)) = lessS m O (c, r)) := Lib.hid (by rw [hst, ← HOV.out])
        obtain ⟨p, hp⟩ : ∃ p, c * m = p := ⟨_, rfl⟩
        rw [hp] at hbd
        have hw1 : IntKind.i64.wrap p = p := IntWalk.i64_in _ (by omega)
        have hw2 : IntKind.i64.wrap (-c) = -c := IntWalk.i64_in _ (by omega)
        have hw3 : -c * m = -p := by rw [Int.neg_mul, hp]
        have hw4 : IntKind.i64.wrap (-p) = -p := IntWalk.i64_in _ (by omega)
        have HBD2 : Hid (BdL (100000000000000000 * (1 + ((k + 1 : Nat) : Int))) (lessS m O (c, r))) := Lib.hid (by
          have := lessS_bd (C := 100000000000000000) (u := (c, r)) (m := m) HBD.out (by omega) (by dsimp only; rw [hp]; omega)
          intro t ht
          have := this t ht
          omega)
        have HLL : Hid ((lessS m O (c, r)).length ≤ 4 + (k + 1)) := Lib.hid (by have := lessS_len m O (c, r); omega)
        have HP := Lib.hid hp
        have KY : Hid (∀ w', Below w.heap.size w w' → w'.cell? ⟨bb, off + k * 2, none⟩ = some (.int .i64 c) ∧ w'.cell? ⟨bb, off + k * 2 + 1, none⟩ = some (.int .i64 r)) := Lib.hid fun w' h => ⟨(h.cell (p := ⟨bb, _, none⟩) hbl).trans hp1, (h.cell (p := ⟨bb, _, none⟩) hbl).trans hp2⟩
        have i1 : (0 : Int) ≤ (k : Int) := by omega
        have i2 : (k : Int) < (y.length : Int) := by omega
        obtain ⟨a9, c9, rfl, hsh⟩ := HO.out.shape
        have HSH := Lib.hid hsh
        have HI0 : Hid (OwnT wr w.heap.size (.slice a9 O.length c9) ((O.take 0).map (updT (c, r) m) ++ O.drop 0)) := Lib.hid (by simpa using HO.out)
        have HB1 := HB
        clear hel hst hp1 hp2 HOV hsh
        go_wp2_with fail
        go_loopw [12, 13] (fun s12 s13 wr => ∃ (i : Nat) (fd : Bool) (P : List (Int × Int)), s12 = .bool fd ∧ s13 = .int .i64 (i : Nat) ∧ i ≤ O.length ∧ P.length = O.length ∧ Hid (P = (O.take i).map (updT (c, r) m) ++ O.drop i) ∧ Hid (fd = hasR r (O.take i)) ∧ Hid (OwnT wr w.heap.size (.slice a9 O.length c9) P) ∧ Hid (Below w.heap.size w wr)) (fun _ s13 _ => O.length - (intOf s13).toNat)
        case atStart => exact ⟨0, false, _, rfl, rfl, Nat.zero_le _, by simp, Lib.hid rfl, Lib.hid rfl, HI0, HB1⟩
        case round =>
          clear HI0 HB1 HO HB
          obtain ⟨i, fd, P, rfl, rfl, hiO, hPl, HPV, HFD, HO, HB⟩ := hrel
          obtain ⟨y0, y1⟩ := KY.out _ HB.out
          have hbw : bb < wr.heap.size := Nat.lt_of_lt_of_le hbl HB.out.size
          by_cases hio : i < O.length
          · obtain ⟨g, rfl, hgb⟩ := HSH.out i hio
            have ho1 : OwnT wr w.heap.size (.slice (some ⟨g, 0, none⟩) P.length c9) P := by rw [hPl]; exact HO.out
            have e1 := (World.ownsRow.cellAt ho1 (i * 2) (by omega)).trans (flatT_get P i (by omega)).1
            have e2 := (World.ownsRow.cellAt ho1 (i * 2 + 1) (by omega)).trans (flatT_get P i (by omega)).2
            have hfz : wr.frozen? ⟨g, i * 2, none⟩ = false := World.ownsRow.frozenAt ho1 (i * 2)
            have hPi : P[i]?.getD (0, 0) = O[i]?.getD (0, 0) := by rw [HPV.out]; exact map_at hio
            have hmem : O[i]?.getD (0, 0) ∈ O := by simp [hio]
            have hcb := HBD.out _ hmem
            have hhr := hasR_take r O i hio
            obtain ⟨d, q, hel⟩ : ∃ d q, O[i]?.getD (0, 0) = (d, q) := ⟨_, _, rfl⟩
            have hms := map_set (f := updT (c, r) m) hio
            have hsk := map_skip (f := updT (c, r) m) hio
            rw [hPi, hel] at e1 e2
            rw [hel] at hcb hhr hms hsk
            dsimp only at e1 e2 hcb hhr
            have HO1 := Lib.hid ho1
            have j1 : (0 : Int) ≤ (i : Int) := by omega
            have j2 : (i : Int) < (O.length : Int) := by omega
            have hgs : g < wr.heap.size := (World.ownsRow.lt HO.out g rfl).2
            by_cases hqr : q = r
            · subst hqr
              have hw5 : IntKind.i64.wrap (d - p) = d - p := IntWalk.i64_in _ (by omega)
              have HP2 : Hid (P.set i (d - p, q) = (O.take (i + 1)).map (updT (c, q) m) ++ O.drop (i + 1)) := Lib.hid (by
                have e : updT (c, q) m (d, q) = (d - p, q) := by unfold updT; rw [if_pos rfl]; dsimp only; rw [HP.out]
                rw [HPV.out, ← hms, e])
              have HF2 : Hid (true = hasR q (O.take (i + 1))) := Lib.hid (by rw [hhr]; simp)
              have HO2 : Hid (∀ W : World, Below wr.heap.size wr W → OwnT (W.setCell ⟨g, i * 2, none⟩ (.int .i64 (d - p))) w.heap.size (.slice (some ⟨g, 0, none⟩) O.length c9) (P.set i (d - p, q))) := Lib.hid (fun W hW => by
                have := (HO1.out.below hW).store i (d - p) (by omega)
                rw [hPi, hel] at this
                have e : P.length = O.length := hPl
                rw [e] at this
                exact this)
              have hPl2 : (P.set i (d - p, q)).length = O.length := by rw [List.length_set]; exact hPl
              clear hmem hcb hhr hms hsk hel hPi ho1
              go_wp2
              go_quiet (fail)
              obtain ⟨w2, hw2'⟩ : ∃ W, wr.drewN nq = W := ⟨_, rfl⟩
              rw [hw2']
              have bq : Below wr.heap.size wr w2 := by rw [← hw2']; exact below_drewN (Below.refl _ _) _
              replace e1 := (bq.cell (p := ⟨g, _, none⟩) hgs).trans e1
              replace e2 := (bq.cell (p := ⟨g, _, none⟩) hgs).trans e2
              replace y0 := (bq.cell (p := ⟨bb, _, none⟩) hbw).trans y0
              replace y1 := (bq.cell (p := ⟨bb, _, none⟩) hbw).trans y1
              have f2 : w2.frozen? ⟨g, i * 2, none⟩ = false := World.ownsRow.frozenAt (HO1.out.below bq) (i * 2)
              have HO3 := Lib.hid (HO2.out w2 bq)
              have HB3 : Hid (Below w.heap.size w (w2.setCell ⟨g, i * 2, none⟩ (.int .i64 (d - p)))) := Lib.hid ((HB.out.trans (bq.mono HB.out.size)).setCell hgb _)
              have hg2 : g < w2.heap.size := by have := bq.size; omega
              clear hw2' bq hfz HO2
              go_wp2
              go_region
              all_goals
                go_wp2
                go_roundw
                case rel => exact ⟨i + 1, true, P.set i (d - p, q), rfl, by go_num, by omega, hPl2, HP2, HF2, Lib.hid (HO3.out.below ((Below.refl _ _).drew)), Lib.hid HB3.out.drew⟩
                case measure => simp only [intOf]; omega
            · have g0 : (q == r) = false := by simpa using hqr
              have HP2 : Hid (P = (O.take (i + 1)).map (updT (c, r) m) ++ O.drop (i + 1)) := Lib.hid (by
                rw [HPV.out]
                exact hsk (by unfold updT; rw [if_neg hqr]))
              have HF2 : Hid (fd = hasR r (O.take (i + 1))) := Lib.hid (by rw [hhr, ← HFD.out]; simp [hqr])
              clear hmem hcb hhr hms hsk hel hPi ho1
              go_wp2
              go_quiet (fail)
              go_wp2
              go_roundw
              case rel => exact ⟨i + 1, fd, P, rfl, by go_num, by omega, hPl, HP2, HF2, Lib.hid (HO.out.below (below_drewN (Below.refl _ _) _)), Lib.hid (below_drewN HB.out _)⟩
              case measure => simp only [intOf]; omega
          · have HFE : Hid (fd = hasR r O ∧ P = O.map (updT (c, r) m)) := Lib.hid (by
              have h1 := HFD.out
              have h2 := HPV.out
              rw [List.take_of_length_le (by omega)] at h1 h2
              rw [List.drop_of_length_le (by omega), List.append_nil] at h2
              exact ⟨h1, h2⟩)
            clear HPV HFD
            cases fd
            · have HPO : Hid (P = O ∧ lessS m O (c, r) = O ++ [(-p, r)]) := Lib.hid (by
                have h := HFE.out
                refine ⟨by rw [h.2]; exact map_none h.1.symm, ?_⟩
                unfold lessS
                rw [if_neg (by rw [← h.1]; decide)]
                dsimp only
                rw [HP.out])
              have HOO : Hid (OwnT wr w.heap.size (.slice a9 O.length c9) O) := Lib.hid (by have h := HO.out; rw [HPO.out.1] at h; exact h)
              have C0 := Below.refl wr.heap.size wr
              have KB : Hid (∀ w', Below wr.heap.size wr w' → Below w.heap.size w w') := Lib.hid fun w' h => HB.out.trans (h.mono HB.out.size)
              have HOWN : Hid (∀ w', Below wr.heap.size wr w' → w'.ownsRow w.heap.size 34 2 (.slice a9 O.length c9) O.length (flatT O)) := Lib.hid fun w' h => HOO.out.below h
              have HLOW : Hid (∀ q, (Value.slice a9 O.length c9).ownBlock = some q → w.heap.size ≤ q) := Lib.hid (fun q hq => (HOO.out.lt q hq).1)
              have HONE : Hid (∀ u ∈ [Value.int .i64 (-p), Value.int .i64 r], u.oneCell' = true) := Lib.hid (by simp [Value.oneCell'])
              have HQ10 : Hid (O.length + 1 ≤ maxLen) := Lib.hid (by unfold maxLen; omega)
              have HQ11 : Hid ((O.length + 1) * 16 ≤ 140737488355328) := Lib.hid (by omega)
              have hfd : decide ((i : Int) < (O.length : Int)) = false := decide_eq_false (by omega)
              go_wp2_with fail
              go_region_held3 (fun w' => w'.cell? ⟨bb, off + k * 2, none⟩ = some (.int .i64 c) ∧ w'.cell? ⟨bb, off + k * 2 + 1, none⟩ = some (.int .i64 r))
                (first | exact KY.out _ (KB.out _ (by (first | exact C0 | exact C0.drew | exact C0.alloc (Nat.le_refl _) _ | exact (C0.drew).alloc (Nat.le_refl _) _ | exact (C0.alloc (Nat.le_refl _) _).drew | exact ((C0.drew).alloc (Nat.le_refl _) _).drew))) | exact KY.out _ BG | exact KY.out _ BG.drew)
                ((refine step_append_lies _ (by rfl) _ _ _ (by rfl) w.heap.size 34 i0 (.agg #[.int .i64 0, .int .i64 0]) 2 16 und22 hi hz0 hz1 hz2 (by rfl) (by decide) (.slice a9 O.length c9) O.length (flatT O) (by rfl) (HOWN.out _ (by (first | exact C0 | exact C0.drew | exact C0.alloc (Nat.le_refl _) _ | exact (C0.drew).alloc (Nat.le_refl _) _ | exact (C0.alloc (Nat.le_refl _) _).drew | exact ((C0.drew).alloc (Nat.le_refl _) _).drew))) ⟨wr.heap.size, 0, none⟩ 1 1 [Value.int .i64 (-p), Value.int .i64 r] (by rfl) (by rfl) (fun j u h => cell_two_new _ _ _ _ j u h) HONE.out (by decide) HQ10.out HQ11.out (Below.size (KB.out _ (by (first | exact C0 | exact C0.drew | exact C0.alloc (Nat.le_refl _) _ | exact (C0.drew).alloc (Nat.le_refl _) _ | exact (C0.alloc (Nat.le_refl _) _).drew | exact ((C0.drew).alloc (Nat.le_refl _) _).drew)))) (wr.heap.size + 1) (by simp) ?_; intro g8 cap8 w8 hown8 hgrow8 hat8 hlt8; have BG := Below.grown (KB.out _ (by (first | exact C0 | exact C0.drew | exact C0.alloc (Nat.le_refl _) _ | exact (C0.drew).alloc (Nat.le_refl _) _ | exact (C0.alloc (Nat.le_refl _) _).drew | exact ((C0.drew).alloc (Nat.le_refl _) _).drew))) hgrow8 (Below.size (KB.out _ (by (first | exact C0 | exact C0.drew | exact C0.alloc (Nat.le_refl _) _ | exact (C0.drew).alloc (Nat.le_refl _) _ | exact (C0.alloc (Nat.le_refl _) _).drew | exact ((C0.drew).alloc (Nat.le_refl _) _).drew)))) HLOW.out; have HOWN9 := Lib.hid hown8; have HBG := Lib.hid BG; clear hown8 hgrow8 hat8))
              go_wp2
              go_roundw
              case rel => exact ⟨k + 1, lessS m O (c, r), by omega, by go_num, HLL.out, Lib.hid HST.out.symm, HBD2, Lib.hid (by rw [HPO.out.2]; unfold OwnT; rw [List.length_append, flatT_snoc]; exact HOWN9.out), HBG⟩
              case measure => simp only [intOf]; omega
            · have HPO : Hid (P = lessS m O (c, r)) := Lib.hid (by
                have h := HFE.out
                unfold lessS
                rw [if_pos h.1.symm, h.2])
              have hfd : decide ((i : Int) < (O.length : Int)) = false := decide_eq_false (by omega)
              go_wp2
              go_roundw
              case rel => exact ⟨k + 1, lessS m O (c, r), by omega, by go_num, HLL.out, Lib.hid HST.out.symm, HBD2, Lib.hid (by rw [← HPO.out]; first | exact HO.out | (rw [hPl]; exact HO.out)), HB⟩
              case measure => simp only [intOf]; omega
end Go.Proofs.YtedpafdfecofnaaGreatDoor

/-! ## D13 -/
namespace Go.Proofs.YtedpafdfecofnaaGreatDoor
open Go.RowKit Go.Maps Go.Shelf Go.Sort
theorem coef_cons1 (t : Int × Int) (l : List (Int × Int)) (r : Int) : coefOf (t :: l) r = (if t.2 = r then t.1 else 0) + coefOf l r := by
  rw [← List.singleton_append, coef_append]
  congr 1
  show (if t.2 = r then 0 + t.1 else 0) = _
  split <;> omega
/-- Roots each once. -/
def NdR (l : List (Int × Int)) : Prop := (l.map (·.2)).Nodup
theorem hasR_iff (r : Int) (O : List (Int × Int)) : hasR r O = true ↔ ∃ t ∈ O, t.2 = r := by
  unfold hasR
  rw [List.any_eq_true]
  constructor
  · rintro ⟨t, h1, h2⟩; exact ⟨t, h1, by simpa using h2⟩
  · rintro ⟨t, h1, h2⟩; exact ⟨t, h1, by simpa using h2⟩
theorem map_upd_roots (u : Int × Int) (m : Int) (O : List (Int × Int)) : (O.map (updT u m)).map (·.2) = O.map (·.2) := by
  rw [List.map_map]
  apply List.map_congr_left
  intro t _
  show (updT u m t).2 = t.2
  unfold updT; split <;> rfl
theorem coef_upd (u : Int × Int) (m : Int) (O : List (Int × Int)) (hn : NdR O) (hh : ∃ t ∈ O, t.2 = u.2) (r : Int) : coefOf (O.map (updT u m)) r = coefOf O r - (if u.2 = r then u.1 * m else 0) := by
  induction O with
  | nil => obtain ⟨t, ht, _⟩ := hh; cases ht
  | cons t O ih =>
    have hn' : NdR O := (List.nodup_cons.1 hn).2
    have hnt : ∀ s ∈ O, s.2 ≠ t.2 := fun s hs e => (List.nodup_cons.1 hn).1 (by show t.2 ∈ O.map (·.2); rw [← e]; exact List.mem_map_of_mem hs)
    rw [List.map_cons, coef_cons1, coef_cons1]
    by_cases h : t.2 = u.2
    · have hno : hasR u.2 O = false := by
        cases e : hasR u.2 O
        · rfl
        · obtain ⟨s, hs, e2⟩ := (hasR_iff _ _).1 e
          exact absurd (e2.trans h.symm) (hnt s hs)
      rw [map_none hno]
      unfold updT
      rw [if_pos h]
      dsimp only
      by_cases hr : u.2 = r
      · rw [if_pos (h.trans hr), if_pos (h.trans hr), if_pos hr]; omega
      · rw [if_neg (fun e => hr (h.symm.trans e)), if_neg (fun e => hr (h.symm.trans e)), if_neg hr]; omega
    · have hh' : ∃ s ∈ O, s.2 = u.2 := by
        obtain ⟨s, hs, e⟩ := hh
        rcases List.mem_cons.1 hs with rfl | hs
        · exact absurd e h
        · exact ⟨s, hs, e⟩
      rw [ih hn' hh']
      unfold updT
      rw [if_neg h]
      omega
theorem lessS_nd {m : Int} {O : List (Int × Int)} {u : Int × Int} (hn : NdR O) : NdR (lessS m O u) := by
  unfold lessS
  split
  · unfold NdR; rw [map_upd_roots]; exact hn
  · rename_i h
    unfold NdR
    rw [List.map_append, List.nodup_append]
    refine ⟨hn, by simp, ?_⟩
    intro a ha b hb e
    simp at hb
    subst hb
    subst e
    obtain ⟨t, ht, e2⟩ := List.mem_map.1 ha
    exact h ((hasR_iff _ _).2 ⟨t, ht, e2⟩)
theorem lessS_coef {m : Int} {O : List (Int × Int)} {u : Int × Int} (hn : NdR O) (r : Int) : coefOf (lessS m O u) r = coefOf O r - (if u.2 = r then u.1 * m else 0) := by
  unfold lessS
  split
  · rename_i h; exact coef_upd u m O hn ((hasR_iff _ _).1 h) r
  · rw [coef_append, coef_cons1]
    dsimp only
    have e : coefOf [] r = 0 := rfl
    rw [e]
    split <;> omega
theorem lessS_mem {m : Int} {O : List (Int × Int)} {u : Int × Int} {P : Int → Prop} (hO : ∀ t ∈ O, P t.2) (hu : P u.2) : ∀ t ∈ lessS m O u, P t.2 := by
  intro t ht
  unfold lessS at ht
  split at ht
  · obtain ⟨s, hs, rfl⟩ := List.mem_map.1 ht
    have : (updT u m s).2 = s.2 := by unfold updT; split <;> rfl
    rw [this]; exact hO s hs
  · rcases List.mem_append.1 ht with h | h
    · exact hO t h
    · rw [List.mem_singleton] at h; subst h; exact hu
theorem less_fold {m C : Int} (y : List (Int × Int)) : ∀ (O : List (Int × Int)) (B : Int) (P : Int → Prop), NdR O → 0 ≤ B → BdL B O → (∀ t ∈ O, P t.2) → (∀ u ∈ y, (-C ≤ u.1 * m ∧ u.1 * m ≤ C) ∧ P u.2) → 0 ≤ C →
    NdR (y.foldl (lessS m) O) ∧ (∀ r, coefOf (y.foldl (lessS m) O) r = coefOf O r - m * coefOf y r) ∧ BdL (B + C * y.length) (y.foldl (lessS m) O) ∧ (∀ t ∈ y.foldl (lessS m) O, P t.2) ∧ (y.foldl (lessS m) O).length ≤ O.length + y.length := by
  induction y with
  | nil =>
    intro O B P h1 h2 h3 h4 _ _
    refine ⟨h1, fun r => ?_, by simpa using h3, h4, by simp⟩
    have e : coefOf [] r = 0 := rfl
    rw [e]; simp
  | cons u y ih =>
    intro O B P h1 h2 h3 h4 h5 h6
    obtain ⟨hu, hp⟩ := h5 u (List.mem_cons_self ..)
    obtain ⟨i1, i2, i3, i4, i5⟩ := ih (lessS m O u) (B + C) P (lessS_nd h1) (by omega) (lessS_bd h3 h2 hu) (lessS_mem h4 hp) (fun v hv => h5 v (List.mem_cons_of_mem _ hv)) h6
    rw [List.foldl_cons]
    refine ⟨i1, fun r => ?_, ?_, i4, ?_⟩
    · rw [i2, lessS_coef h1, coef_cons1]
      split
      · rw [Int.mul_add, Int.mul_comm m u.1]; omega
      · rw [Int.mul_add]; omega
    · have e : B + C + C * (y.length : Int) = B + C * ((u :: y).length : Int) := by
        rw [List.length_cons, Int.natCast_succ, Int.mul_add]; omega
      rw [← e]; exact i3
    · have := lessS_len m O u
      simp; omega
/-- What Less gives: its coefficients, its roots, its bounds. -/
theorem less_spec {x y : List (Int × Int)} {b m B C : Int} {P : Int → Prop} (hB : 0 ≤ B) (hC : 0 ≤ C) (hn : NdR x) (hx : ∀ t ∈ x, (-B ≤ t.1 * b ∧ t.1 * b ≤ B) ∧ P t.2) (hy : ∀ u ∈ y, (-C ≤ u.1 * m ∧ u.1 * m ≤ C) ∧ P u.2) :
    NdR (lessF x b y m) ∧ (∀ r, coefOf (lessF x b y m) r = b * coefOf x r - m * coefOf y r) ∧ BdL (B + C * y.length) (lessF x b y m) ∧ (∀ t ∈ lessF x b y m, P t.2) ∧ (lessF x b y m).length ≤ x.length + y.length := by
  have e : (x.map fun t => (t.1 * b, t.2)) = mulS b x := by
    unfold mulS
    apply List.map_congr_left
    intro t _
    rw [Int.mul_comm]
  have h := less_fold (m := m) (C := C) y (x.map fun t => (t.1 * b, t.2)) B P (by
    unfold NdR
    rw [List.map_map]
    exact hn) hB (fun t ht => by
      obtain ⟨s, hs, rfl⟩ := List.mem_map.1 ht
      exact (hx s hs).1) (fun t ht => by
      obtain ⟨s, hs, rfl⟩ := List.mem_map.1 ht
      exact (hx s hs).2) hy hC
  obtain ⟨h1, h2, h3, h4, h5⟩ := h
  refine ⟨h1, fun r => ?_, h3, h4, by unfold lessF; simpa using h5⟩
  have := h2 r
  unfold lessF
  rw [this, e, coef_mulS]
theorem absS_bd {B : Int} (l : List (Int × Int)) (h : BdL B l) (hB : 0 ≤ B) : absS l ≤ B * l.length := by
  induction l with
  | nil => show (0 : Int) ≤ _; simp
  | cons t l ih =>
    have h1 := h t (List.mem_cons_self ..)
    have h2 := ih (fun s hs => h s (List.mem_cons_of_mem _ hs))
    rw [absS_one, List.length_cons, Int.natCast_succ, Int.mul_add]
    omega
def nz (l : List (Int × Int)) : List (Int × Int) := l.filter fun t => t.1 != 0
theorem nz_sums (D : Nat) (l : List (Int × Int)) : absS (nz l) = absS l ∧ SQ D (nz l) = SQ D l := by
  induction l with
  | nil => exact ⟨rfl, rfl⟩
  | cons t l ih =>
    unfold nz at ih ⊢
    rw [List.filter_cons]
    split
    · rw [absS_one, absS_one, SQ_cons, SQ_cons, ih.1, ih.2]; exact ⟨rfl, rfl⟩
    · rename_i h
      have h0 : t.1 = 0 := by simpa using h
      rw [absS_one, SQ_cons, ih.1, ih.2, h0]
      simp
/-- A sum of few different roots is 0 only if all of its parts are: what Sign asks. -/
theorem far_of {l : List (Int × Int)} (k T e : Nat) (hk : k ≤ 7) (hlen : l.length ≤ k + 1) (hn : NdR l) (hr : ∀ t ∈ l, Rt t.2 ∧ t.2 ≤ 1000) (hT : absS l ≤ (T : Int)) (h1 : 1001 * T ≤ 2 ^ e) (h2 : 8 + e * 2 ^ k ≤ 6656) :
    (∀ t ∈ l, t.1 = 0) ∨ absS l < (SQ 6656 l).natAbs := by
  obtain ⟨e1, e2⟩ := nz_sums 6656 l
  have hsub : ∀ t ∈ nz l, t ∈ l ∧ t.1 ≠ 0 := fun t ht => by
    have := List.mem_filter.1 ht
    exact ⟨this.1, by simpa using this.2⟩
  by_cases hne : nz l = []
  · left
    intro t ht
    apply Classical.byContradiction
    intro h
    have : t ∈ nz l := List.mem_filter.2 ⟨ht, by simpa using h⟩
    rw [hne] at this
    cases this
  · right
    have hq : Tw.sumQ (qD 6656) (natT (nz l)) = SQ 6656 (nz l) := by rw [sumQ_enc, ← SQ_enc]
    have hnn : ((nz l).map (·.2)).Nodup := by
      unfold NdR at hn
      exact (List.Sublist.map _ (List.filter_sublist (l := l))).nodup hn
    have h := roots_far 6656 k T (natT (nz l)) (by simpa [natT] using hne) (by
      have : (nz l).length ≤ l.length := List.length_filter_le _ _
      simp [natT]; omega) hk (fun t ht => by
      obtain ⟨u, hu, rfl⟩ := List.mem_map.1 ht
      have := hr u (hsub u hu).1
      exact ⟨sqfr_of this.1.1 this.1.2, by show u.2.toNat ≤ 1000; have := this.1.1; omega⟩) (natT_map (nz l) (fun t ht => (hr t (hsub t ht).1).1.1) hnn) (fun t ht => by
      obtain ⟨u, hu, rfl⟩ := List.mem_map.1 ht
      exact (hsub u hu).2) (by
      have : Tw.sumA (natT (nz l)) = absS (nz l) := rfl
      rw [this, e1]; exact hT) (num_up T e k 6656 h1 h2)
    rw [hq, e2] at h
    omega
end Go.Proofs.YtedpafdfecofnaaGreatDoor
