/- The program's values of a plan: what is there, products. -/
import Derived.Test.YtbohakifjmdoiabDoorIa
namespace Go.Proofs.YtbohakifjmdoiabDoor
open Go.RowKit

def hasB (x : Int) (n : Nat) : Bool := decide (0 ≤ x) && decide (x < n)
def hasAllB (l : List Int) (n : Nat) : Bool := l.all fun x => hasB x n

theorem hasAllB_take {l : List Int} {n k : Nat} (hk : k < l.length) : hasAllB (l.take (k + 1)) n = (hasAllB (l.take k) n && hasB l[k] n) := by
  unfold hasAllB
  rw [List.take_succ_eq_append_getElem hk, List.all_append]
  simp
theorem hasAllB_miss {l : List Int} {n k : Nat} (hk : k < l.length) (h : hasB l[k] n = false) : hasAllB l n = false := by
  unfold hasAllB
  rw [List.all_eq_false]
  exact ⟨_, List.getElem_mem hk, by simp [h]⟩

/-- The product of two values, if a step may have it. -/
def mulI (rows : List (List Int)) (a b : Int) : Option (List Int) :=
  if decide (a ≤ b) && (hasB a rows.length && hasB b rows.length) then
    let r := List.zipWith (· + ·) (rows.getD a.toNat []) (rows.getD b.toNat [])
    if allB r 0 1000000 then some r else none
  else none
end Go.Proofs.YtbohakifjmdoiabDoor
