/- What is in both of two chains. -/
import Derived.Test.YtlkieebmfmiafaaQn
namespace Go.Proofs.Ytlkieebmfmiafaa
open Go.RowKit

theorem hasI_mem (l : List Int) (n : Int) : hasI l n = decide (n ∈ l) := by unfold hasI; exact List.contains_eq_mem n l
def metK (a b : List Int) (k : Nat) : List Int := (a.take k).filter fun n => hasI b n
def met (a b : List Int) : List Int := a.filter fun n => hasI b n
theorem metK_end (a b : List Int) : metK a b a.length = met a b := by unfold metK met; rw [List.take_length]
theorem metK_hit {a b : List Int} {k : Nat} (hk : k < a.length) (h : hasI b (a.getD k 0) = true) : metK a b (k + 1) = metK a b k ++ [a.getD k 0] := by
  unfold metK
  rw [take_succ_getD hk, List.filter_append]
  simp only [List.filter_cons, List.filter_nil, h]
  rfl
theorem metK_miss {a b : List Int} {k : Nat} (hk : k < a.length) (h : hasI b (a.getD k 0) = false) : metK a b (k + 1) = metK a b k := by
  unfold metK
  rw [take_succ_getD hk, List.filter_append]
  simp only [List.filter_cons, List.filter_nil, h]
  simp
theorem metK_le (a b : List Int) (k : Nat) : (metK a b k).length ≤ k := by
  unfold metK
  exact Nat.le_trans (List.length_filter_le _ _) (by simp; omega)
theorem met_le (a b : List Int) : (met a b).length ≤ a.length := List.length_filter_le _ _
def meG (a b : List Int) : Bool := (chG a && chG b) && chG (met a b)

end Go.Proofs.Ytlkieebmfmiafaa
