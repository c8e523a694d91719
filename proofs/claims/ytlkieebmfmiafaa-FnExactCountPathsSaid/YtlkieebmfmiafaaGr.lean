/- A new row with room: the library's slices.Grow at the nil slice. -/
import Derived.Test.YtlkieebmfmiafaaBase2
import Derived.Lib.AppendZeros
import Derived.Lib.AppendZerosOnto
namespace Go.Proofs.Ytlkieebmfmiafaa
open Go.RowKit

set_option maxRecDepth 100000 in
set_option maxHeartbeats 1000000 in
theorem growS_any (n : Nat) (w : World) (hn : n ≤ 1000000) :
    Calls Try.prog 137 #[.slice none 0 0, .int .i64 n] w fun e w' => ∃ A c, e = .returned (.slice A 0 c) ∧ w'.ownsRow w.heap.size 94 2 (.slice A 0 c) 0 [] ∧ Below w.heap.size w w' := by
  by_cases h0 : n = 0
  · subst h0
    go_enter Try.func137, Try.ntmps137
    go_wp2
    go_ret
    exact ⟨none, 0, rfl, World.ownsRow_nil _ _ _ _, Below.refl _ _⟩
  · obtain ⟨i0, hi, hz0, hz1, hz2⟩ := info_parts info_step
    have hap := fun W ty => Lib.run_append_nil_zeros (P := Try.prog) W 29 3 ty 94 i0 _ .i64 .i64 Try.underlying29 Try.underlying3 hi hz0 n (by omega) (by rw [hz1]; omega) (by omega) (by rw [hz2]; omega)
    have HAP := Lib.hid hap
    clear hap
    have hpos : (n : Int) > 0 := by omega
    have hneg : ¬ ((n : Int) < 0) := by omega
    go_enter Try.func137, Try.ntmps137
    go_wp2_with (at_builtin; refine Lib.wpList_append_run _ rfl _ _ _ _ rfl _ _ rfl rfl _ _ (HAP.out _ _) ?_)
    all_goals go_ret
    have hG := grownCap_ge w n 0 94
    have hM := grownCap_le_maxLen w n 0 94 (by unfold maxLen; omega)
    refine ⟨some ⟨w.heap.size, 0, none⟩, grownCap w n 0 94, rfl, ?_, ((Below.refl _ _).alloc (Nat.le_refl _) _).drew⟩
    exact World.ownsRow_made (base := w.heap.size) (size := 2) w _ _ (Nat.le_refl _) hM (by rw [Array.size_append, size_zeroCells, size_zeroCells]; simp; omega)
end Go.Proofs.Ytlkieebmfmiafaa
