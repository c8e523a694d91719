/- Six exponents in an array. -/
import Derived.Test.YtbbfbccemonihaaAp
namespace Go.Proofs.Ytbbfbccemonihaa
open Go.RowKit
theorem six_pad {N : Nat} {E : List (List Int)} (hE : OkR N E) (h6 : N ≤ 6) : Six (E.map (pad N)) := by
  intro r hr
  obtain ⟨r0, h0, rfl⟩ := List.mem_map.1 hr
  have := (hE r0 h0).1
  simp [pad]
  omega
theorem box4b {w w1 : World} {a b c d : Value} {t : TypeId} (h : w.alloc (.cells #[a, b, c, d] t) = w1) :
    w1.cell? ⟨w.heap.size, 0, none⟩ = some a ∧ w1.cell? ⟨w.heap.size, 1, none⟩ = some b ∧ w1.cell? ⟨w.heap.size, 2, none⟩ = some c ∧ w1.cell? ⟨w.heap.size, 3, none⟩ = some d ∧ w1.heap.size = w.heap.size + 1 ∧ Below w.heap.size w w1 := by
  subst h
  refine ⟨?_, ?_, ?_, ?_, by simp, (Below.refl _ _).alloc (Nat.le_refl _) _⟩ <;> (rw [World.cell?_alloc_at _ _ _ _ rfl]; rfl)
end Go.Proofs.Ytbbfbccemonihaa
