/- Whether a list is a chain, and its steps, by the model. -/
import Derived.Test.YtbbjgcagkmlngabQb
namespace Go.Proofs.Ytbbjgcagkmlngab
open Go.RowKit

theorem sumsB_one (l : List Int) : sumsB l 1 = true := rfl
theorem isEmpty_ne {α : Type} {l : List α} (h : l ≠ []) : l.isEmpty = false := by cases l with | nil => exact absurd rfl h | cons => rfl

end Go.Proofs.Ytbbjgcagkmlngab
