/- Boxes of one cell behind rounds of a range over a function. -/
import Derived.Test.YtbohakifjmdoiabDoorBw
import Derived.Test.YtbohakifjmdoiabDoorMa
import Derived.RangeFuncNested
import Derived.RangeFuncBound
import Derived.RangeFuncCalls
import Derived.Shelf.RegionOpen
namespace Go.Proofs.YtbohakifjmdoiabDoor
open Go.RowKit Go.Shelf

theorem blk_own {W W' : World} {row : Option Nat} {x : Nat} {cs : Array Value} {t : TypeId} (h : W.heap[x]? = some (.cells cs t (0, 0))) (hg : W.grownBy W' row) (hr : ∀ r, row = some r → ∃ o : Obj, W.heap[r]? = some o ∧ o.isCells = false) :
    W'.heap[x]? = some (.cells cs t (0, 0)) :=
  (hg.block x (Array.getElem?_eq_some_iff.1 h).1 (fun e => by obtain ⟨o, ho, hc⟩ := hr x e.symm; rw [h] at ho; cases ho; cases hc)).trans h
theorem one_set {w w' : World} {g : Nat} {a u : Value} {t : TypeId} (hb : w.heap[g]? = some (.cells #[a] t (0, 0))) (h : w.setCell ⟨g, 0, none⟩ u = w') : w'.heap[g]? = some (.cells #[u] t (0, 0)) := by
  subst h
  rw [heap_setCell_same w g 0 _ t u hb]
  rfl
theorem one_cell {w : World} {g : Nat} {v : Value} {t : TypeId} (hb : w.heap[g]? = some (.cells #[v] t (0, 0))) : w.cell? ⟨g, 0, none⟩ = some v ∧ w.frozen? ⟨g, 0, none⟩ = false :=
  ⟨by rw [cell_of_row w g 0 _ _ (0, 0) hb]; rfl, frozen_of_row w g 0 _ _ hb⟩
theorem set_other {w : World} {g h : Nat} {u : Value} {k : Nat} (hne : h ≠ g) : (w.setCell ⟨g, k, none⟩ u).heap[h]? = w.heap[h]? := by
  exact heap_setCell_other w ⟨g, k, none⟩ h u hne

end Go.Proofs.YtbohakifjmdoiabDoor
