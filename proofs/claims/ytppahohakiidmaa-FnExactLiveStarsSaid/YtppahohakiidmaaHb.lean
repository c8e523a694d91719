/- There is a star chain of at most 9 steps for each number up to 100. -/
import Derived.Test.YtppahohakiidmaaHa
namespace Go.Proofs.Ytppahohakiidmaa
def shTab : List Nat := [0, 1, 2, 2, 3, 3, 4, 3, 4, 4, 5, 4, 5, 5, 5, 4, 5, 5, 6, 5, 6, 6, 6, 5, 6, 6, 6, 6, 7, 6, 7, 5, 6, 6, 7, 6, 7, 7, 7, 6, 7, 7, 7, 7, 7, 7, 8, 6, 7, 7, 7, 7, 8, 7, 8, 7, 8, 8, 8, 7, 8, 8, 8, 6, 7, 7, 8, 7, 8, 8, 9, 7, 8, 8, 8, 8, 8, 8, 9, 7, 8, 8, 8, 8, 8, 8, 9, 8, 9, 8, 9, 8, 9, 9, 9, 7, 8, 8, 8, 8]
theorem short_tab : (List.range 100).all (fun i => !(shS (i + 1) (shTab.getD i 0) 1 [1]).isEmpty) = true := by decide +kernel
theorem short_ex {n : Nat} (h1 : 1 ≤ n) (h2 : n ≤ 100) : ∃ k, k ≤ 9 ∧ shS n k 1 [1] ≠ [] := by
  have h := List.all_eq_true.1 short_tab (n - 1) (List.mem_range.2 (by omega))
  rw [show n - 1 + 1 = n by omega] at h
  refine ⟨shTab.getD (n - 1) 0, ?_, fun e => by rw [e] at h; exact absurd h (by simp)⟩
  have hk : ∀ i, i < 100 → shTab.getD i 0 ≤ 9 := by decide
  exact hk _ (by omega)
end Go.Proofs.Ytppahohakiidmaa
