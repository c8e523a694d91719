/- RunResidues of the model. -/
import Derived.Test.YtbbfbccemonihabMoj
import Derived.Test.YtbbfbccemonihabMoh
namespace Go.Proofs.Ytbbfbccemonihab
open Go.RowKit

/-- Whether a plan may run on residues; the residues of the outputs. -/
def rrG (p : Pl) (m : Int) (l : List Int) : Bool := good p && (inB m 2 10000 && (decide ((l.length : Int) = p.n) && allB l 0 (m - 1)))
def rrV (p : Pl) (m : Int) (l : List Int) : List Int := if rrG p m l then outs 0 ((runG (inR m) (mulR m.toNat) 0 l p.s).getD []) p.o else []
theorem rr_bad {p : Pl} {m : Int} {l : List Int} (h : rrG p m l = false) : rrV p m l = [] := by unfold rrV; rw [h]; rfl
theorem rr_len (p : Pl) (m : Int) (l : List Int) : (rrV p m l).length ≤ 1000 := by
  unfold rrV
  split
  · rename_i h
    unfold rrG at h
    rw [Bool.and_eq_true] at h
    obtain ⟨_, _, _, _, _, ho, _⟩ := good_facts h.1
    rw [outs_len]
    omega
  · simp
/-- What is known where a plan may run on residues. -/
theorem rr_good {p : Pl} {m : Int} {l : List Int} (h : rrG p m l = true) : ∃ (M N : Nat) (V : List Int), m = (M : Int) ∧ p.n = (N : Int) ∧ 2 ≤ M ∧ M ≤ 10000 ∧ 1 ≤ N ∧ N ≤ 6 ∧ p.s.length ≤ 40 ∧ p.o.length ≤ 6 ∧ OkS N p.s ∧ l.length = N ∧ (∀ x ∈ l, inR (M : Int) x = true) ∧ runG (inR M) (mulR M) 0 l p.s = some V ∧ V.length = N + p.s.length ∧ (∀ x ∈ V, inR (M : Int) x = true) ∧ (∀ x ∈ p.o, 0 ≤ x ∧ x < V.length) ∧ rrV p m l = outs 0 V p.o := by
  have h0 := h
  unfold rrG at h
  simp only [Bool.and_eq_true, decide_eq_true_eq] at h
  obtain ⟨h1, h2, h3, h4⟩ := h
  obtain ⟨N, hN, n1, n6, s40, o6, hok, ho, _⟩ := good_facts h1
  have hm : 2 ≤ m ∧ m ≤ 10000 := by simpa [inB] using h2
  obtain ⟨M, rfl⟩ : ∃ M : Nat, m = M := ⟨m.toNat, by omega⟩
  have hl : l.length = N := by omega
  have hall : ∀ x ∈ l, inR (M : Int) x = true := by
    have := all_inR (m := (M : Int)) (l := l) (by omega)
    rw [h2, h4] at this
    exact List.all_eq_true.1 (this.trans rfl)
  obtain ⟨V, hV, hVl, hVa⟩ := runG_all (has := inR (M : Int)) (mul := mulR M) (z := (0 : Int)) (N := N) (fun a b ha hb => mulR_in ha hb) p.s l hl hall hok
  refine ⟨M, N, V, rfl, hN, by omega, by omega, n1, n6, s40, o6, hok, hl, hall, hV, hVl, hVa, ?_, ?_⟩
  · intro x hx
    have := ho x hx
    omega
  · unfold rrV
    rw [if_pos h0, show (M : Int).toNat = M by omega, hV]
    rfl

end Go.Proofs.Ytbbfbccemonihab
