/- The steps of a chain, by the model. -/
import Derived.Test.YtbbjgcagkmlngabQc
namespace Go.Proofs.Ytbbjgcagkmlngab
open Go.RowKit

/-- The last element of an own row of steps. -/
theorem OwS.last {w : World} {B : Nat} {A : Option Addr} {c q : Nat} {P : List (Int × Int)} (h : OwS w B (.slice A (q + 1) c) P) (hq : P.length = q + 1) :
    ∃ g x y, A = some ⟨g, 0, none⟩ ∧ B ≤ g ∧ g < w.heap.size ∧ w.cell? ⟨g, q * 2, none⟩ = some (.int .i64 x) ∧ w.cell? ⟨g, q * 2 + 1, none⟩ = some (.int .i64 y) ∧ P.getLastD (0, 0) = (x, y) := by
  unfold OwS at h
  rw [hq] at h
  obtain ⟨g, rfl, hB, hg, hc, _⟩ := own_at h (by omega)
  have hlt : q < P.length := by omega
  obtain ⟨f1, f2⟩ := fl_at hlt
  refine ⟨g, P[q].1, P[q].2, rfl, hB, hg, by rw [hc _ (by omega), f1], by rw [hc _ (by omega), f2], ?_⟩
  have hne : P ≠ [] := by intro h; rw [h] at hq; simp at hq
  rw [last_form hne]
  simp [hq]

end Go.Proofs.Ytbbjgcagkmlngab
