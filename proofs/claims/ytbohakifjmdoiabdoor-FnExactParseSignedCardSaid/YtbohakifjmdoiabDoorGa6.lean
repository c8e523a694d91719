/- Small lemmas of the laws made by gen_any. -/
import Derived.Test.YtbohakifjmdoiabDoorQl
namespace Go.Proofs.YtbohakifjmdoiabDoor
open Go.RowKit
theorem own_win_lo {lo hi B sz n : Nat} {e : TypeId} {w w' : World} {v : Value} {xs : List Value} (ho : w.ownsRow B e sz v n xs) (h : Win lo hi w w') (hb : ∀ k, v.ownBlock = some k → k < lo) : w'.ownsRow B e sz v n xs := by
  refine ⟨ho.1, ?_⟩
  rcases ho.2 with h0 | ⟨g, cap, cur, hv, hB, hg, r⟩
  · exact .inl h0
  · refine .inr ⟨g, cap, cur, hv, hB, ?_, r⟩
    rw [h.1.block g (hb g (by rw [hv]; rfl))]
    exact hg
theorem bx2 {w w1 : World} {a b : Value} {t : TypeId} (h : w.alloc (.cells #[a, b] t) = w1) :
    w1.cell? ⟨w.heap.size, 0, none⟩ = some a ∧ w1.cell? ⟨w.heap.size, 1, none⟩ = some b ∧ w1.heap.size = w.heap.size + 1 ∧ Below w.heap.size w w1 := by
  subst h
  refine ⟨?_, ?_, by simp, (Below.refl _ _).alloc (Nat.le_refl _) _⟩ <;> (rw [World.cell?_alloc_at _ _ _ _ rfl]; rfl)
theorem bx3 {w w1 : World} {a b c : Value} {t : TypeId} (h : w.alloc (.cells #[a, b, c] t) = w1) :
    w1.cell? ⟨w.heap.size, 0, none⟩ = some a ∧ w1.cell? ⟨w.heap.size, 1, none⟩ = some b ∧ w1.cell? ⟨w.heap.size, 2, none⟩ = some c ∧ w1.heap.size = w.heap.size + 1 ∧ Below w.heap.size w w1 := box3 h
theorem bx4 {w w1 : World} {a b c d : Value} {t : TypeId} (h : w.alloc (.cells #[a, b, c, d] t) = w1) :
    w1.cell? ⟨w.heap.size, 0, none⟩ = some a ∧ w1.cell? ⟨w.heap.size, 1, none⟩ = some b ∧ w1.cell? ⟨w.heap.size, 2, none⟩ = some c ∧ w1.cell? ⟨w.heap.size, 3, none⟩ = some d ∧ w1.heap.size = w.heap.size + 1 ∧ Below w.heap.size w w1 := by
  subst h
  refine ⟨?_, ?_, ?_, ?_, by simp, (Below.refl _ _).alloc (Nat.le_refl _) _⟩ <;> (rw [World.cell?_alloc_at _ _ _ _ rfl]; rfl)
end Go.Proofs.YtbohakifjmdoiabDoor
