/- A plan with only some steps, in an order: the model's. -/
import Derived.Test.YtbbfbccemonihaaKa
namespace Go.Proofs.Ytbbfbccemonihaa
open Go.RowKit

/-- Three stores into a plan's box. -/
theorem own_set3 {w : World} {g B sz n : Nat} {t e : TypeId} {v : Value} {xs : List Value} {cs : Array Value} (h : w.ownsRow B e sz v n xs) (hg : w.heap[g]? = some (.cells cs t (0, 0))) (ht : t ≠ e) (a b c : Value) :
    (((w.setCell ⟨g, 0, none⟩ a).setCell ⟨g, 1, none⟩ b).setCell ⟨g, 2, none⟩ c).ownsRow B e sz v n xs := by
  have h1 := own_set (o := 0) h hg ht a
  have k1 := heap_setCell_same w g 0 _ t a hg
  have h2 := own_set (o := 1) h1 k1 ht b
  have k2 := heap_setCell_same _ g 1 _ t b k1
  exact own_set (o := 2) h2 k2 ht c

end Go.Proofs.Ytbbfbccemonihaa
