/- What is known of a valid plan. -/
import Derived.Test.YtbohakifjmdoiabDoorEa
namespace Go.Proofs.YtbohakifjmdoiabDoor
open Go.RowKit

theorem good_facts {p : Pl} (h : good p = true) : ∃ N : Nat, p.n = N ∧ 1 ≤ N ∧ N ≤ 6 ∧ p.s.length ≤ 40 ∧ p.o.length ≤ 6 ∧ OkS N p.s ∧ (∀ x ∈ p.o, 0 ≤ x ∧ x < (N : Int) + p.s.length) ∧ expsB (exps N p.s) = true := by
  unfold good at h
  simp only [Bool.and_eq_true, decide_eq_true_eq] at h
  obtain ⟨h1, h2, h3, h4, h5, h6⟩ := h
  obtain ⟨n1, n2⟩ : 1 ≤ p.n ∧ p.n ≤ 6 := by simpa [inB] using h1
  obtain ⟨N, hN⟩ : ∃ N : Nat, p.n = N := ⟨p.n.toNat, by omega⟩
  have e : p.n.toNat = N := by omega
  rw [e] at h5
  rw [hN] at h4
  refine ⟨N, hN, by omega, by omega, h2, h3, okS_of_pre h4, ?_, h5⟩
  intro x hx
  unfold allB at h6
  rw [List.all_eq_true] at h6
  have := h6 x hx
  simp only [inB, Bool.and_eq_true, decide_eq_true_eq] at this
  omega
end Go.Proofs.YtbohakifjmdoiabDoor
