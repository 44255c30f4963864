import Derived.Test.YtopnlcjbklmicaaK96
import Derived.WalkKit
import Derived.WalkSpells
import Derived.WalkLawsBesides
import Derived.Deep.QuietTactic
import Derived.BigQuiet
import Derived.Lib.Hide
import Derived.WalkSmall
import Derived.Maps.OwnSet
import Derived.Maps.RangeWalk
import Derived.Deep.RegionWith
import Derived.Deep.RegionHeld3
import Derived.Deep.DrawnRows
import Derived.Deep.DeepCutAuto
import Derived.OneCell
import Derived.KernelRfl
import Derived.Laws.StructEq
import Derived.StillTailTactics
import Derived.Laws.Externs
import Derived.RangeFuncBox
import Derived.Outline
import Derived.RangeFuncNested
import Derived.RangeFuncBound
import Derived.RangeFuncCalls
import Derived.RangeFuncLeaves
import Derived.Shelf.RegionOpen
import Derived.OwnWalkIn
import Derived.TacticsInMore
import Derived.LoopNIn
import Derived.LoopIn
import Derived.Test.YtopnlcjbklmicaaProg
namespace Go.Proofs.Ytopnlcjbklmicaa
open Go.RowKit Go.Maps Go.Shelf
set_option linter.unusedVariables false
set_option linter.unusedSimpArgs false
def YardOk (q : Int × Int × Int × Int) : Prop := (0 ≤ q.1 ∧ q.1 ≤ 255) ∧ (0 ≤ q.2.1 ∧ q.2.1 ≤ 255) ∧ (0 ≤ q.2.2.1 ∧ q.2.2.1 ≤ 255) ∧ (0 ≤ q.2.2.2 ∧ q.2.2.2 ≤ 255)
/-- A slice of what happens in a yard. -/
def YardsAt (w : World) (v : Value) (l : List (Int × Int × Int × Int)) : Prop :=
  (l = [] ∧ ∃ a cap, v = .slice a 0 cap) ∨ ∃ b off cap, v = .slice (some ⟨b, off, none⟩) l.length cap ∧ b < w.heap.size ∧ ∀ i, i < l.length →
    (w.cell? ⟨b, off + i * 4, none⟩ = some (.int .u8 (l[i]?.getD (0, 0, 0, 0)).1) ∧ w.cell? ⟨b, off + i * 4 + 1, none⟩ = some (.int .u8 (l[i]?.getD (0, 0, 0, 0)).2.1) ∧ w.cell? ⟨b, off + i * 4 + 2, none⟩ = some (.int .u8 (l[i]?.getD (0, 0, 0, 0)).2.2.1) ∧ w.cell? ⟨b, off + i * 4 + 3, none⟩ = some (.int .u8 (l[i]?.getD (0, 0, 0, 0)).2.2.2)) ∧ YardOk (l[i]?.getD (0, 0, 0, 0))
theorem YardsAt.placed {w : World} {v : Value} {l : List (Int × Int × Int × Int)} (h : YardsAt w v l) : ∃ a cap, v = .slice a l.length cap ∧ ∀ i, i < l.length → ∃ b off, a = some ⟨b, off, none⟩ ∧ b < w.heap.size ∧
    (w.cell? ⟨b, off + i * 4, none⟩ = some (.int .u8 (l[i]?.getD (0, 0, 0, 0)).1) ∧ w.cell? ⟨b, off + i * 4 + 1, none⟩ = some (.int .u8 (l[i]?.getD (0, 0, 0, 0)).2.1) ∧ w.cell? ⟨b, off + i * 4 + 2, none⟩ = some (.int .u8 (l[i]?.getD (0, 0, 0, 0)).2.2.1) ∧ w.cell? ⟨b, off + i * 4 + 3, none⟩ = some (.int .u8 (l[i]?.getD (0, 0, 0, 0)).2.2.2)) ∧ YardOk (l[i]?.getD (0, 0, 0, 0)) := by
  rcases h with ⟨rfl, a, cap, rfl⟩ | ⟨b, off, cap, rfl, hb, hc⟩
  · exact ⟨a, cap, rfl, fun i hi => by simp at hi⟩
  · exact ⟨_, cap, rfl, fun i hi => ⟨b, off, rfl, hb, hc i hi⟩⟩
/-- The counts that the law keeps: M moulded, P put, A laid, bu: whether the kiln burns. -/
structure CP (l : List St) (L : BatL) (bu : Bool) (M P A : List Int) : Prop where
  len : l.length = 2
  inv : BInv l L
  mlen : M.length = 2
  plen : P.length = 2
  alen : A.length = 2
  all : ∀ j : Nat, j < 2 → (l[j]?.getD St.zero).all = M[j]?.getD 0
  laid : ∀ j : Nat, j < 2 → (l[j]?.getD St.zero).laid = A[j]?.getD 0
  burns : bu = true ↔ L ≠ []
  put : ∀ k n, L = [(k, n)] → P[0]?.getD 0 + P[1]?.getD 0 = n
  one : L = [] ∨ ∃ k n, L = [(k, n)]
/-- What a call turns. -/
structure CS (k : Nat) (r er : Int) (l l' : List St) : Prop where
  brk : ∀ j : Nat, (l[j]?.getD St.zero).brk ≤ (l'[j]?.getD St.zero).brk
  err : er ≠ 0 → l' = l
  oth : r ≠ 3 → ∀ j : Nat, j ≠ k → l'[j]?.getD St.zero = l[j]?.getD St.zero
theorem CS.same {k : Nat} {r er : Int} {l : List St} : CS k r er l l := ⟨fun _ => by omega, fun _ => rfl, fun _ _ _ => rfl⟩
theorem set_int (M : List Int) (k j : Nat) (x : Int) (hk : k < M.length) : (M.set k x)[j]?.getD 0 = if j = k then x else M[j]?.getD 0 := by
  rw [List.getElem?_set]
  by_cases h : k = j
  · subst h; simp [hk]
  · rw [if_neg h, if_neg (Ne.symm h)]
theorem CS.set {k : Nat} {r : Int} {l : List St} {s : St} (hk : k < l.length) (h : (l[k]?.getD St.zero).brk ≤ s.brk) : CS k r 0 l (l.set k s) :=
  ⟨fun j => by rw [set_at l k j s hk]; split
               · next e => rw [e]; exact h
               · omega, fun h => absurd rfl h, fun _ j hj => by rw [set_at l k j s hk, if_neg hj]⟩
theorem cp_co {l : List St} {L : BatL} {bu : Bool} {M P A : List Int} (h : CP l L bu M P A) {k : Nat} (hk : k < 2) {r n dm dl : Int} {g : St → Int × St} (hd : inB n 0 1000000000 = true → Does g dm dl) {er : Int} {l' : List St} (he : coF l k n g = (er, l')) :
    CS k r er l l' ∧ (er ≠ 0 → CP l' L bu M P A) ∧ (er = 0 → CP l' L bu (M.set k (M[k]?.getD 0 + dm)) P (A.set k (A[k]?.getD 0 + dl))) := by
  have hkl : k < l.length := by rw [h.len]; exact hk
  have hi := h.inv.co (kind := (k : Int)) (n := n) hd
  have hlen := coF_len l k n g
  rw [he] at hi hlen
  rcases coF_cases (kind := (k : Int)) h.inv hd with ⟨h1, h2⟩ | ⟨h1, h2, h3, s', h4, h5, h6, h7, h8⟩
  · rw [he] at h1 h2
    subst h2
    exact ⟨CS.same, fun _ => h, fun h0 => absurd h0 h1⟩
  · rw [he] at h1 h4
    simp only [Int.toNat_natCast] at h4 h6 h7 h8
    dsimp only at h1 h4 hi hlen
    subst h1
    subst h4
    refine ⟨CS.set hkl h8, fun h0 => absurd rfl h0, fun _ => ⟨by rw [hlen]; exact h.len, hi, by simp [h.mlen], h.plen, by simp [h.alen], fun j hj => ?_, fun j hj => ?_, h.burns, h.put, h.one⟩⟩
    · rw [set_at l k j s' hkl, set_int M k j _ (by rw [h.mlen]; exact hk)]
      split
      · rw [h6, h.all k hk]
      · exact h.all j hj
    · rw [set_at l k j s' hkl, set_int A k j _ (by rw [h.alen]; exact hk)]
      split
      · rw [h7, h.laid k hk]
      · exact h.laid j hj
theorem set_same (M : List Int) (k : Nat) (hk : k < M.length) : M.set k (M[k]?.getD 0 + 0) = M := by
  apply List.ext_getElem?
  intro j
  rw [List.getElem?_set]
  by_cases h : k = j
  · subst h; simp [hk]
  · simp [h]
theorem cp_fire {l : List St} {L : BatL} {bu : Bool} {M P A : List Int} (h : CP l L bu M P A) {k : Nat} (hk : k < 2) {r n room er : Int} {l' : List St} {L' : BatL} (he : fireF room l L [((k : Int), n)] = (er, l', L')) :
    CS k r er l l' ∧ (er ≠ 0 → CP l' L' bu M P A) ∧ (er = 0 → bu = false ∧ CP l' L' true M (([0, 0] : List Int).set k n) A) := by
  have hkl : k < l.length := by rw [h.len]; exact hk
  have hi := fire_inv (room := room) (bs := [((k : Int), n)]) h.inv
  rw [he] at hi
  rcases fireF_one (room := room) (k := (k : Int)) (n := n) h.inv with ⟨h1, h2⟩ | ⟨h1, h2, h3, h4, s', h5, h6, h7, h8⟩
  · rw [he] at h1 h2
    simp only [Prod.mk.injEq] at h2
    obtain ⟨rfl, rfl⟩ := h2
    exact ⟨CS.same, fun _ => h, fun h0 => absurd h0 h1⟩
  · rw [he] at h1 h4 h5
    simp only [Int.toNat_natCast] at h5 h6 h7 h8
    dsimp only at h1 h4 h5 hi
    subst h1
    subst h4
    subst h5
    refine ⟨CS.set hkl (by omega), fun h0 => absurd rfl h0, fun _ => ⟨?_, ⟨by simp [h.len], hi, h.mlen, by simp, h.alen, fun j hj => ?_, fun j hj => ?_, by simp, fun k' n' e => ?_, .inr ⟨_, _, rfl⟩⟩⟩⟩
    · cases hb : bu
      · rfl
      · exact absurd h2 (h.burns.1 hb)
    · rw [set_at l k j s' hkl]
      split
      · next e => rw [h6, e]; exact h.all k hk
      · exact h.all j hj
    · rw [set_at l k j s' hkl]
      split
      · next e => rw [h7, e]; exact h.laid k hk
      · exact h.laid j hj
    · simp only [List.cons.injEq, Prod.mk.injEq, and_true] at e
      rw [set_int _ _ _ _ (by simpa using hk), set_int _ _ _ _ (by simpa using hk)]
      have : k = 0 ∨ k = 1 := by omega
      rcases this with rfl | rfl <;> simp [e.2]
theorem cp_draw {l : List St} {L : BatL} {bu : Bool} {M P A : List Int} (h : CP l L bu M P A) {k : Nat} {b er : Int} {l' : List St} {L' : BatL} (he : drawF l L [b] = (er, l', L')) :
    CS k 3 er l l' ∧ (er ≠ 0 → CP l' L' bu M P A) ∧ (er = 0 → bu = true ∧ b ≤ P[0]?.getD 0 + P[1]?.getD 0 ∧ CP l' L' false M P A) := by
  have hi := draw_inv (br := [b]) h.inv
  rw [he] at hi
  rcases drawF_one (b := b) h.inv with ⟨h1, h2⟩ | ⟨h1, h2, k', n', h3, h4, h5, h6, s', h7, h8, h9, h10⟩
  · rw [he] at h1 h2
    simp only [Prod.mk.injEq] at h2
    obtain ⟨rfl, rfl⟩ := h2
    exact ⟨CS.same, fun _ => h, fun h0 => absurd h0 h1⟩
  · rw [he] at h1 h2 h7
    dsimp only at h1 h2 h7 hi
    have hkn := kind_nat h4
    obtain ⟨kk, hkk⟩ : ∃ kk, k'.toNat = kk := ⟨_, rfl⟩
    rw [hkk] at hkn h7 h8 h9 h10
    have hkl := hkn.1
    subst h1
    subst h2
    subst h7
    refine ⟨⟨fun j => ?_, fun h0 => absurd rfl h0, fun h0 => absurd rfl h0⟩, fun h0 => absurd rfl h0, fun _ => ⟨?_, ?_, ⟨by simp [h.len], hi, h.mlen, h.plen, h.alen, fun j hj => ?_, fun j hj => ?_, by simp, fun _ _ e => (by cases e), .inl rfl⟩⟩⟩
    · rw [set_at l kk j s' hkl]; split
      · next e => rw [e]; exact h10
      · omega
    · exact h.burns.2 (by rw [h3]; simp)
    · rw [h.put _ _ h3]; exact h6
    · rw [set_at l kk j s' hkl]
      split
      · next e => rw [h8, e]; exact h.all kk (by rw [← h.len]; exact hkl)
      · exact h.all j hj
    · rw [set_at l kk j s' hkl]
      split
      · next e => rw [h9, e]; exact h.laid kk (by rw [← h.len]; exact hkl)
      · exact h.laid j hj
theorem cp_start : CP [mkSt 1, mkSt 3] [] false [0, 0] [0, 0] [0, 0] := by
  have hc : ∀ j, j < 2 → ∃ n, ([mkSt 1, mkSt 3][j]?.getD St.zero) = mkSt n ∧ (n = 1 ∨ n = 3) := fun j hj => by
    have : j = 0 ∨ j = 1 := by omega
    rcases this with rfl | rfl
    · exact ⟨1, rfl, .inl rfl⟩
    · exact ⟨3, rfl, .inr rfl⟩
  have h0 : ∀ j, j < 2 → ([0, 0] : List Int)[j]?.getD 0 = 0 := fun j hj => by
    have : j = 0 ∨ j = 1 := by omega
    rcases this with rfl | rfl <;> rfl
  refine ⟨rfl, ⟨fun i hi => ?_, fun i hi => ?_, by simp, fun p hp => by simp at hp, fun p hp => by simp at hp, fun i hi _ => ?_⟩, rfl, rfl, rfl, fun j hj => ?_, fun j hj => ?_, by simp, fun _ _ e => (by cases e), .inl rfl⟩
  · obtain ⟨n, h, _⟩ := hc i hi
    rw [h]; simp [St.Good, St.Ok, St.all, mkSt]
  · obtain ⟨n, h, h2⟩ := hc i hi
    rw [h]; simp only [mkSt]; omega
  · obtain ⟨n, h, _⟩ := hc i hi
    rw [h]; rfl
  · obtain ⟨n, h, _⟩ := hc j hj
    rw [h, h0 j hj]; rfl
  · obtain ⟨n, h, _⟩ := hc j hj
    rw [h, h0 j hj]; rfl
/-- What the law asks of the counts of a kind behind a call. -/
theorem cp_asks {l l' : List St} {L' : BatL} {bu : Bool} {M P A : List Int} {k : Nat} {r er : Int} (hs : CS k r er l l') (h : CP l' L' bu M P A) {j : Nat} (hj : j < 2) {a b c d e f g sp : Int} (hx : l'[j]?.getD St.zero = ⟨a, b, c, d, e, f, g, sp⟩) :
    ((0 ≤ a ∧ a ≤ 1000000000) ∧ (0 ≤ b ∧ b ≤ 1000000000) ∧ (0 ≤ c ∧ c ≤ 1000000000) ∧ (0 ≤ d ∧ d ≤ 1000000000) ∧ (0 ≤ e ∧ e ≤ 1000000000) ∧ (0 ≤ f ∧ f ≤ 1000000000) ∧ (0 ≤ g ∧ g ≤ 1000000000)) ∧ a + b + c + d + e + f = M[j]?.getD 0 ∧ (l[j]?.getD St.zero).brk ≤ f ∧ g ≤ f ∧ e = A[j]?.getD 0 ∧ (0 < c → bu = true) := by
  have hg := h.inv.good j (by rw [h.len]; exact hj)
  have ha := h.all j hj
  have hl := h.laid j hj
  have hb := hs.brk j
  rw [hx] at hg ha hl hb
  obtain ⟨g1, g2, g3⟩ := hg
  refine ⟨g1, ha, hb, g3, hl, fun hc => ?_⟩
  rcases h.one with h1 | ⟨k', n', h1⟩
  · have := h.inv.cold j (by rw [h.len]; exact hj) (fun p hp => by rw [h1] at hp; cases hp)
    rw [hx] at this
    dsimp only at this
    omega
  · exact h.burns.2 (by rw [h1]; simp)
end Go.Proofs.Ytopnlcjbklmicaa
