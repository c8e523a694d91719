/- Small lemmas of the laws over lists. -/
import Derived.Test.YtbohakifjmdoiabDoorMm
import Derived.Test.YtbohakifjmdoiabDoorLb
namespace Go.Proofs.YtbohakifjmdoiabDoor
open Go.ChangeShapes Go.WideShapes Go.ChangeAt Go.RowKit Go.Deep Go.Joins
theorem OwI.cap {w : World} {B c n : Nat} {A : Option Addr} {l : List Int} (h : OwI w B (.slice A n c) l) : l.length ≤ c := by
  obtain ⟨A', c', e, hc⟩ := own_form h
  simp only [Value.slice.injEq] at e
  obtain ⟨_, _, rfl⟩ := e
  exact hc
/-- Two rows, the one made behind the other, lie apart. -/
theorem own_apart {w0 w : World} {B B' sz sz' n n' : Nat} {e e' : TypeId} {v v' : Value} {xs xs' : List Value} (h : w0.ownsRow B e sz v n xs) (h' : w.ownsRow B' e' sz' v' n' xs') (hB : w0.heap.size ≤ B') : v'.ownBlock = none ∨ v'.ownBlock ≠ v.ownBlock := by
  cases hv : v'.ownBlock with
  | none => exact .inl rfl
  | some k =>
    right
    intro hh
    have h1 := (own_block h' k hv).1
    have h2 := (own_block h k hh.symm).2
    omega
end Go.Proofs.YtbohakifjmdoiabDoor
