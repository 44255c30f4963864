import Derived.Test.YtopnlcjbklmicaaK37
import Derived.Laws.AppendOwnNone
import Derived.WalkKit
import Derived.WalkSpells
import Derived.WalkLawsBesides
import Derived.Deep.QuietTactic
import Derived.BigQuiet
import Derived.Lib.Hide
import Derived.WalkSmall
import Derived.Maps.OwnSet
import Derived.Maps.RangeWalk
import Derived.Deep.RegionWith
import Derived.Deep.RegionHeld3
import Derived.Deep.DrawnRows
import Derived.Deep.DeepCutAuto
import Derived.OneCell
import Derived.KernelRfl
import Derived.Laws.StructEq
import Derived.StillTailTactics
import Derived.Laws.Externs
import Derived.RangeFuncBox
import Derived.Outline
import Derived.RangeFuncNested
import Derived.RangeFuncBound
import Derived.RangeFuncCalls
import Derived.RangeFuncLeaves
import Derived.Shelf.RegionOpen
import Derived.OwnWalkIn
import Derived.TacticsInMore
import Derived.LoopNIn
import Derived.LoopIn
import Derived.Test.YtopnlcjbklmicaaProg
namespace Go.Proofs.Ytopnlcjbklmicaa
open Go.RowKit Go.Maps Go.Shelf
set_option linter.unusedVariables false
set_option linter.unusedSimpArgs false
def flatQ (l : List (Int × Int)) : List Value := l.flatMap fun p => [.int .i64 p.1, .int .i64 p.2]
theorem flatQ_cons (p : Int × Int) (l : List (Int × Int)) : flatQ (p :: l) = .int .i64 p.1 :: .int .i64 p.2 :: flatQ l := rfl
theorem flatQ_len (l : List (Int × Int)) : (flatQ l).length = l.length * 2 := by
  induction l with
  | nil => rfl
  | cons p l ih => rw [flatQ_cons, List.length_cons, List.length_cons, ih, List.length_cons]; omega
theorem flatQ_at : ∀ (l : List (Int × Int)) (i : Nat), i < l.length → (flatQ l)[i * 2]? = some (.int .i64 (l[i]?.getD (0, 0)).1) ∧ (flatQ l)[i * 2 + 1]? = some (.int .i64 (l[i]?.getD (0, 0)).2)
  | [], i, h => by simp at h
  | p :: l, 0, _ => ⟨rfl, rfl⟩
  | p :: l, i + 1, h => by
    have h2 := flatQ_at l i (by simpa using h)
    rw [flatQ_cons, show (i + 1) * 2 = i * 2 + 1 + 1 by omega, show i * 2 + 1 + 1 + 1 = i * 2 + 1 + 1 + 1 by rfl]
    simpa using h2
theorem addr_add (b off j : Nat) : (⟨b, off, none⟩ : Addr).add j = ⟨b, off + j, none⟩ := by
  unfold Addr.add
  by_cases h : j = 0
  · subst h; simp
  · simp [h]
theorem pairs_news {w : World} {b off : Nat} {l : List (Int × Int)} (h : PairsC w b off l) : ∀ j u, (flatQ l)[j]? = some u → w.cell? ((⟨b, off, none⟩ : Addr).add j) = some u := by
  intro j u hj
  rw [addr_add]
  have hlt : j < l.length * 2 := by rw [← flatQ_len]; exact (List.getElem?_eq_some_iff.1 hj).1
  have hi : j / 2 < l.length := by omega
  obtain ⟨a1, a2⟩ := flatQ_at l (j / 2) hi
  obtain ⟨c1, c2⟩ := h (j / 2) hi
  rcases Nat.mod_two_eq_zero_or_one j with e | e
  · have e2 : j = j / 2 * 2 := by omega
    rw [← e2] at a1 c1
    rw [a1] at hj
    rw [c1, ← Option.some.inj hj]
  · have e2 : j = j / 2 * 2 + 1 := by omega
    rw [← e2] at a2
    rw [show off + j / 2 * 2 + 1 = off + j by omega] at c2
    rw [a2] at hj
    rw [c2, ← Option.some.inj hj]
theorem flatQ_one (l : List (Int × Int)) : ∀ u ∈ flatQ l, u.oneCell' = true := by
  intro u hu
  obtain ⟨p, _, hp⟩ := List.mem_flatMap.1 hu
  simp at hp
  rcases hp with rfl | rfl <;> rfl
theorem own_pairs {w : World} {base : Nat} {T : TypeId} {v : Value} {l : List (Int × Int)} (h : w.ownsRow base T 2 v l.length (flatQ l)) (hl : l.length ≤ 1000000) : PairsAt w v l := by
  refine ⟨by omega, ?_⟩
  rcases h.2 with ⟨rfl, h0⟩ | ⟨g, cap, cur, rfl, _, hg, hcap, _, hcs, _⟩
  · exact .inl ⟨List.length_eq_zero_iff.1 h0, none, 0, rfl⟩
  · right
    refine ⟨g, 0, cap, rfl, hcap, (Array.getElem?_eq_some_iff.1 hg).1, fun i hi => ?_⟩
    obtain ⟨a1, a2⟩ := flatQ_at l i hi
    exact ⟨by rw [Nat.zero_add, h.cellAt (i * 2) (by omega), a1], by rw [Nat.zero_add, h.cellAt (i * 2 + 1) (by omega), a2]⟩
theorem undStages : Try.prog.underlying 36 = some (.slice 124) := by kernel_rfl
theorem infoStage : (Try.prog.info? 124).map (fun i => (i.zero, i.size, i.bytes)) = some (some (.agg #[.int .i64 0, .int .i64 0]), 2, 16) := by kernel_rfl
/-- A slice of pairs that can be copied. -/
def SrcAt (w : World) (v : Value) (l : List (Int × Int)) : Prop :=
  (v = .slice none 0 0 ∧ l = []) ∨ ∃ ad c, v = .slice (some ad) l.length c ∧ ∀ j u, (flatQ l)[j]? = some u → (ad.add j).block < w.heap.size ∧ w.cell? (ad.add j) = some u
theorem SrcAt.past {w w' : World} {v : Value} {l : List (Int × Int)} (h : SrcAt w v l) (hb : Below w.heap.size w w') : SrcAt w' v l := by
  rcases h with h | ⟨ad, c, hv, hn⟩
  · exact .inl h
  · exact .inr ⟨ad, c, hv, fun j u hj => ⟨Nat.lt_of_lt_of_le (hn j u hj).1 hb.size, (hb.cell (hn j u hj).1).trans (hn j u hj).2⟩⟩
theorem cell_block {w : World} {a : Addr} {v : Value} (h : w.cell? a = some v) : a.block < w.heap.size := by
  by_cases hb : a.block < w.heap.size
  · exact hb
  · rw [World.cell?, Array.getElem?_eq_none (by omega)] at h
    simp at h
theorem src_of {w : World} {b off c : Nat} {l : List (Int × Int)} (h : PairsC w b off l) : SrcAt w (.slice (some ⟨b, off, none⟩) l.length c) l :=
  .inr ⟨_, _, rfl, fun j u hj => ⟨cell_block (pairs_news h j u hj), pairs_news h j u hj⟩⟩
set_option maxHeartbeats 1000000 in
theorem stages_any (v : Value) (l : List (Int × Int)) (w : World) (h : SrcAt w v l) (hl : l.length ≤ 1000) :
    Calls Try.prog 20 #[v] w fun e w' => ∃ a c, e = .returned (.slice a l.length c) ∧ PairsAt w' (.slice a l.length c) l ∧ Below w.heap.size w w' := by
  obtain ⟨i0, hi, hz0, hz1, hz2⟩ := info_parts infoStage
  have HE := Lib.hid (World.ownsRow_lit (base := w.heap.size) (e := 124) (size := 2) w #[] 0 (Nat.le_refl _) (by simp) (by simp))
  have HB := Lib.hid ((Below.refl _ w).alloc (Nat.le_refl _) (.cells #[] 124))
  have HS := Lib.hid (h.past ((Below.refl _ w).alloc (Nat.le_refl _) (.cells #[] 124)))
  rcases h with ⟨rfl, rfl⟩ | ⟨ad, c, rfl, _⟩
  · clear HS
    go_enter Try.func20, Try.ntmps20
    go_wp2_with (first | (at_builtin; refine stopHere ?_))
    intro _
    refine wpList_append_own_none rfl _ _ 36 rfl w.heap.size 124 i0 2 undStages hi _ 0 [] rfl HE.out rfl ?_
    go_wp2
    go_ret
    exact ⟨_, _, rfl, own_pairs (T := 124) HE.out (by simp), HB.out⟩
  · rcases HS.out with ⟨h1, _⟩ | ⟨ad', c', h1, hn⟩
    · cases h1
    · obtain ⟨rfl, rfl⟩ : ad' = ad ∧ c' = c := by simp only [Value.slice.injEq, Option.some.injEq] at h1; exact ⟨h1.1.symm, h1.2.2.symm⟩
      have HN := Lib.hid fun j u hj => (hn j u hj).2
      clear hn HS h1
      go_enter Try.func20, Try.ntmps20
      go_wp2_with (first | (at_builtin; refine stopHere ?_))
      intro _
      refine wpList_append_own _ rfl _ _ 36 rfl w.heap.size 124 i0 (.agg #[.int .i64 0, .int .i64 0]) 2 16 undStages hi hz0 hz1 hz2 rfl (by decide) (.slice (some ⟨w.heap.size, 0, none⟩) 0 0) 0 [] rfl HE.out ad' l.length c' (flatQ l) rfl (flatQ_len l) HN.out (flatQ_one l) (by unfold maxLen; omega) (by omega) (by simp) ?_
      intro v' w3 hown hgrow _
      rw [Nat.zero_add, List.nil_append] at hown
      obtain ⟨p, c3, rfl⟩ := own_shape2 hown
      have HO := Lib.hid (own_pairs hown (by omega))
      have HW := Lib.hid (HB.out.grown hgrow HB.out.size (fun j hj => by simp [Value.ownBlock] at hj; omega))
      clear hown hgrow HN HE
      go_wp2
      go_ret
      exact ⟨_, _, rfl, HO.out, HW.out⟩
end Go.Proofs.Ytopnlcjbklmicaa
