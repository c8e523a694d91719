/- Lists that are answered if they are chains; copies of lists. -/
import Derived.Test.YtbbjgcagkmlngabQg
import Derived.Test.YtbbjgcagkmlngabQj
import Derived.Test.YtbbjgcagkmlngabQn0
namespace Go.Proofs.Ytbbjgcagkmlngab
open Go.RowKit

/-- A list that is answered if b. -/
def selL (b : Bool) (l : List Int) : List Int := if b then l else []
theorem selL_true {b : Bool} {l : List Int} (h : b = true) : selL b l = l := by unfold selL; rw [if_pos h]
theorem selL_false {b : Bool} {l : List Int} (h : b = false) : selL b l = [] := by unfold selL; rw [h]; rfl
theorem selL_le {b : Bool} {l : List Int} (h : b = true → chG l = true) : (selL b l).length ≤ 1000 := by
  cases b with
  | false => simp [selL]
  | true => have := (chG_chn (h rfl)).most; rw [selL_true rfl]; omega
theorem and_chG {b : Bool} {l : List Int} (h : (b && chG l) = true) : chG l = true := by simp only [Bool.and_eq_true] at h; exact h.2

end Go.Proofs.Ytbbjgcagkmlngab
