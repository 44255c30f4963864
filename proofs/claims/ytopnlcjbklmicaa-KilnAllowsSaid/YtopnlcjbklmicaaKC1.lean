import Derived.Test.YtopnlcjbklmicaaKC0
import Derived.Test.YtopnlcjbklmicaaK38
import Derived.Test.YtopnlcjbklmicaaRows
import Derived.WalkKit
import Derived.ProofKit
import Derived.OpenShut
import Derived.Deep.DeepHandedRow
import Derived.Deep.SlicePairs
import Derived.Lib.SmallJoins
import Derived.Stop.LaidErr
import Derived.MakeChecks
import Derived.Lay
namespace Go.Proofs.Ytopnlcjbklmicaa
open Go.ChangeMaps Go.MakeChecks Go.ChangeShapes Go.WideShapes Go.ChangeAt Go.RowKit Go.Deep Go.Joins
set_option linter.unusedVariables false
set_option linter.unusedSimpArgs false
section
variable {H : Type} {enc : TypeId × Value → H} {W : World}
theorem map_range_pair {f : Nat → Int × Int} {n i : Nat} (h : i < n) : ((List.range n).map f)[i]?.getD (0, 0) = f i := by simp [h]
set_option maxRecDepth 100000 in
/-- A slice of stages, opened. -/
theorem stages_open {n : Nat} {v : Value} {y : DataW H × List MemPlace} (hd : DataW.trod enc Try.prog W 0 (fun _ => true) true n 36 [v] = some y) (hw : (y.1.weights Try.prog 36).all (· ≤ reachBytes) = true) :
    ∃ l, PairsAt W v l ∧ SrcAt W v l := by
  rcases open_slice_pairs Try.underlying36 Try.underlying124 (by kernel_rfl) rfl rfl (by kernel_rfl) (by kernel_rfl) hd with ⟨hv, _⟩ | ⟨a, len, cap, m, k, V0, V1, D0, D1, P0, P1, hv, _, hle, _, hm, hy, hall⟩
  · obtain rfl : v = .slice none 0 0 := by simpa using hv
    exact ⟨[], ⟨by simp, .inl ⟨rfl, none, 0, rfl⟩⟩, .inl ⟨rfl, rfl⟩⟩
  · obtain rfl : v = .slice (some a) len cap := by simpa using hv
    simp only [if_true] at hm
    subst hm
    subst hy
    have hb : Try.prog.bytesOf 124 = 16 := by kernel_rfl
    have hwt : len + (m - len) ≤ 8796093022208 := by
      simp only [DataW.weights, Try.underlying36, List.all_cons, Bool.and_eq_true, decide_eq_true_eq, List.length_map, List.length_range, hb] at hw
      have := hw.1
      unfold reachBytes at this
      omega
    by_cases hl : len = 0
    · subst hl
      exact ⟨[], ⟨by simp, .inl ⟨rfl, some a, m, rfl⟩⟩, .inr ⟨a, m, rfl, fun j u hj => by simp [flatQ] at hj⟩⟩
    · obtain ⟨b, off, spot⟩ := a
      obtain ⟨h00, _⟩ := hall 0 (by omega)
      have hspot : spot = none := by simpa [Addr.add] using World.cell?_spot h00
      subst hspot
      have hblk : b < W.heap.size := cell_block h00
      have hC : PairsC W b off ((List.range len).map fun i => (intOf (V0 i), intOf (V1 i))) := by
        intro i hi
        have hi' : i < len := by simpa using hi
        obtain ⟨h0, h1, t0, t1⟩ := hall i (by omega)
        rw [map_range_pair hi']
        rw [add_plain] at h0
        refine ⟨?_, ?_⟩
        · rw [h0, ← int_of_trod t0]
        · have h1' : W.cell? ⟨b, off + (i * 2 + 1), none⟩ = some (V1 i) := by rw [← add_plain]; exact h1
          rw [show off + i * 2 + 1 = off + (i * 2 + 1) by omega, h1', ← int_of_trod t1]
      have hlen : ((List.range len).map fun i => (intOf (V0 i), intOf (V1 i))).length = len := by simp
      refine ⟨_, ⟨by rw [hlen]; omega, .inr ⟨b, off, m, by rw [hlen], by rw [hlen]; omega, hblk, hC⟩⟩, ?_⟩
      have := src_of (c := m) hC
      rwa [hlen] at this
end
end Go.Proofs.Ytopnlcjbklmicaa
