/- One product of the program. -/
import Derived.Test.YtbohakifjmdoiabDoorIb
namespace Go.Proofs.YtbohakifjmdoiabDoor
open Go.RowKit

theorem six_form {l : List Int} (h : l.length = 6) : ∃ a0 a1 a2 a3 a4 a5, l = [a0, a1, a2, a3, a4, a5] := by
  match l, h with
  | [a0, a1, a2, a3, a4, a5], _ => exact ⟨a0, a1, a2, a3, a4, a5, rfl⟩

def pr (al bl : List Int) (k : Nat) : List Int := List.zipWith (· + ·) (al.take k) (bl.take k) ++ al.drop k

end Go.Proofs.YtbohakifjmdoiabDoor
