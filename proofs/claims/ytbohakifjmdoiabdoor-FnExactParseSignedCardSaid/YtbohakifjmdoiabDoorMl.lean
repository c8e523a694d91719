/- Small lemmas of the laws' walks. -/
import Derived.Test.YtbohakifjmdoiabDoorMk
namespace Go.Proofs.YtbohakifjmdoiabDoor
open Go.RowKit
theorem eqI_refl (l : List Int) : eqI l l = true := by simp [eqI]
theorem bDrewN {B : Nat} {w w' : World} (h : Below B w w') (n : Nat) : Below B w (w'.drewN n) := h.trans ⟨rfl, rfl, rfl, Nat.le_refl _, fun _ _ => rfl⟩
theorem own_rd_marks {w : World} {B c n : Nat} {A : Option Addr} {m : Int} (h : OwI w B (.slice A n c) (marksI m n)) : Rd w w.heap.size 1 A n ((marksI m n).map I) := by
  have h' : w.ownsRow _ _ _ _ _ _ := h
  rw [marksI_length] at h'
  exact Rd.of_own h'
end Go.Proofs.YtbohakifjmdoiabDoor
