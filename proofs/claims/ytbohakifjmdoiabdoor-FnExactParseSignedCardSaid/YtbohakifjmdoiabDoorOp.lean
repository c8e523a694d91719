/- A plan that came in, opened; the frame of a proof of a law over plans. -/
import Derived.Test.YtbohakifjmdoiabDoorRows
import Derived.Test.YtbohakifjmdoiabDoorBase2
import Derived.ProofKit
import Derived.OpenShut
import Derived.Carry
import Derived.Deep.Slices
import Derived.Lib.SmallJoins
namespace Go.Proofs.YtbohakifjmdoiabDoor
open Go.ChangeShapes Go.WideShapes Go.ChangeAt Go.RowKit Go.Deep Go.Joins

theorem spot_none {w : World} {a : Addr} {v : Value} (h : w.cell? a = some v) : a.spot = none := by
  unfold World.cell? at h
  split at h
  · split at h
    · cases h
    · rename_i hs; simpa using hs
  · cases h
theorem addr_form {w : World} {a : Addr} {v : Value} (h : w.cell? a = some v) : a = ⟨a.block, a.off, none⟩ := by
  have := spot_none h
  cases a
  simp_all
theorem add_form (b off j : Nat) : (⟨b, off, none⟩ : Addr).add j = ⟨b, off + j, none⟩ := by
  unfold Addr.add
  split <;> simp_all

section
variable {H : Type} {enc : TypeId × Value → H} {W : World} {base : Nat} {spare : Nat → Bool} {held : Bool}

set_option maxRecDepth 100000 in
/-- A slice of integers that came in. -/
theorem open_ints_rd {fuel : Nat} {x0 : Value} {x : DataW H × List MemPlace} (h : DataW.trod enc Tryd.prog W base spare held fuel 22 [x0] = some x) :
    ∃ (A : Option Addr) (c : Nat) (l : List Int), x0 = .slice A l.length c ∧ l.length ≤ maxLen ∧ Rd W W.heap.size 1 A l.length (l.map I) := by
  rcases open_ints Tryd.underlying22 Tryd.underlying3 (by kernel_rfl) h with ⟨hcs, _⟩ | ⟨a, len, cap, zs, hcs, _, hl, hm, hz, _, hc, _⟩
  · simp only [List.cons.injEq, and_true] at hcs
    exact ⟨none, 0, [], hcs, by simp [maxLen], Rd.nil _ _ _ _⟩
  · simp only [List.cons.injEq, and_true] at hcs
    have hlen : (zs.take len).length = len := by
      rw [List.length_take]
      split at hz <;> omega
    refine ⟨some a, cap, zs.take len, by rw [hlen]; exact hcs, by omega, ?_⟩
    rw [hlen]
    refine ⟨by rw [List.length_map, hlen]; omega, fun hn => ?_⟩
    have hzl : len ≤ zs.length := by split at hz <;> omega
    have h0 := hc 0 (by omega)
    have e0 : a.add 0 = a := by unfold Addr.add; simp
    rw [e0] at h0
    refine ⟨a.block, a.off, by rw [← addr_form h0], World.block_lt_of_cell? _ _ h0, fun j hj => ?_⟩
    have hj' : j < len := by omega
    have h1 := hc j (by omega)
    rw [addr_form h0, add_form] at h1
    have hjz : j < zs.length := by omega
    rw [h1]
    simp [I, hj', hjz]

end

theorem own : ownKnob Tryd.prog.godebug = none := by kernel_rfl
theorem laidOut : laidOutB Tryd.prog = true := by kernel_rfl
end Go.Proofs.YtbohakifjmdoiabDoor
