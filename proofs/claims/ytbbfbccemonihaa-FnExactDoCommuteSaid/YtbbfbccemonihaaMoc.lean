/- Runs of plans over values of any kind, as data. -/
import Derived.Test.YtbbfbccemonihaaMob
import Derived.Test.YtbbfbccemonihaaSb
namespace Go.Proofs.Ytbbfbccemonihaa
open Go.RowKit

section
variable {α : Type}
/-- The product of a step. -/
def prd (mul : α → α → α) (z : α) (vs : List α) (s : Int × Int) : α := mul (vs.getD s.1.toNat z) (vs.getD s.2.toNat z)
/-- All values of a plan, or nothing if one is none. -/
def runG (has : α → Bool) (mul : α → α → α) (z : α) : List α → List (Int × Int) → Option (List α)
  | vs, [] => some vs
  | vs, s :: r => if has (prd mul z vs s) then runG has mul z (vs ++ [prd mul z vs s]) r else none
variable {has : α → Bool} {mul : α → α → α} {z : α}
theorem runG_good {vs : List α} {s : List (Int × Int)} {k : Nat} (hk : k < s.length) (h : has (prd mul z vs s[k]) = true) : runG has mul z vs (s.drop k) = runG has mul z (vs ++ [prd mul z vs s[k]]) (s.drop (k + 1)) := by
  rw [List.drop_eq_getElem_cons hk, runG, if_pos h]
theorem runG_bad {vs : List α} {s : List (Int × Int)} {k : Nat} (hk : k < s.length) (h : has (prd mul z vs s[k]) = false) : runG has mul z vs (s.drop k) = none := by
  rw [List.drop_eq_getElem_cons hk, runG, h]; rfl
theorem runG_end {vs : List α} {s : List (Int × Int)} {k : Nat} (hk : s.length ≤ k) : runG has mul z vs (s.drop k) = some vs := by
  rw [List.drop_eq_nil_of_le hk, runG]
/-- Where all products are values, nothing fails. -/
theorem runG_all {N : Nat} (hm : ∀ a b, has a = true → has b = true → has (mul a b) = true) : ∀ (s : List (Int × Int)) (vs : List α), vs.length = N → (∀ x ∈ vs, has x = true) → (∀ i (h : i < s.length), 0 ≤ (s[i]).1 ∧ (s[i]).1 ≤ (s[i]).2 ∧ (s[i]).2 < N + i) →
    ∃ V, runG has mul z vs s = some V ∧ V.length = N + s.length ∧ ∀ x ∈ V, has x = true := by
  intro s
  induction s generalizing N with
  | nil => intro vs hl hv _; exact ⟨vs, rfl, by simpa using hl, hv⟩
  | cons q r ih =>
    intro vs hl hv hs
    obtain ⟨h0, h1, h2⟩ := hs 0 (by simp)
    simp only [List.getElem_cons_zero] at h0 h1 h2
    have hin : ∀ x : Int, 0 ≤ x → x < N → has (vs.getD x.toNat z) = true := fun x a b => by
      have hx : x.toNat < vs.length := by omega
      rw [List.getD_eq_getElem?_getD, List.getElem?_eq_getElem hx]
      exact hv _ (List.getElem_mem hx)
    have hp : has (prd mul z vs q) = true := hm _ _ (hin _ h0 (by omega)) (hin _ (by omega) (by omega))
    obtain ⟨V, e, hV, hh⟩ := ih (N := N + 1) (vs ++ [prd mul z vs q]) (by simp [hl]) (by
      intro x hx
      rcases List.mem_append.1 hx with hx | hx
      · exact hv x hx
      · rw [List.mem_singleton.1 hx]; exact hp) (by
      intro i hi
      have := hs (i + 1) (by simpa using hi)
      simp only [List.getElem_cons_succ] at this
      refine ⟨this.1, this.2.1, ?_⟩
      have := this.2.2
      push_cast at this ⊢
      omega)
    refine ⟨V, by rw [runG, if_pos hp]; exact e, by rw [hV]; simp; omega, hh⟩
theorem runG_len {N : Nat} : ∀ (s : List (Int × Int)) (vs V : List α), vs.length = N → runG has mul z vs s = some V → V.length = N + s.length := by
  intro s
  induction s generalizing N with
  | nil => intro vs V hl h; rw [runG] at h; cases h; simpa using hl
  | cons q r ih =>
    intro vs V hl h
    rw [runG] at h
    split at h
    · have := ih (N := N + 1) _ _ (by simp [hl]) h
      rw [this]; simp; omega
    · cases h
/-- The values of the outputs. -/
def outs (z : α) (V : List α) (o : List Int) : List α := o.map fun x => V.getD x.toNat z
theorem outs_len (z : α) (V : List α) (o : List Int) : (outs z V o).length = o.length := by simp [outs]
end

def mulR (m : Nat) (a b : Int) : Int := a * b % (m : Int)
def inR (m : Int) (x : Int) : Bool := inB m 2 10000 && inB x 0 (m - 1)
theorem inR_rng {m x : Int} (h : inR m x = true) : 2 ≤ m ∧ m ≤ 10000 ∧ 0 ≤ x ∧ x < m := by
  unfold inR inB at h
  simp only [Bool.and_eq_true, decide_eq_true_eq] at h
  omega
theorem mulR_in {m : Nat} {a b : Int} (ha : inR m a = true) (_ : inR m b = true) : inR m (mulR m a b) = true := by
  obtain ⟨h1, h2, _, _⟩ := inR_rng ha
  have h3 := Int.emod_nonneg (a * b) (b := (m : Int)) (by omega)
  have h4 := Int.emod_lt_of_pos (a * b) (b := (m : Int)) (by omega)
  unfold inR inB mulR
  simp only [Bool.and_eq_true, decide_eq_true_eq]
  omega
theorem mulR_nat (m a b : Nat) : mulR m (a : Int) (b : Int) = ((mulM m a b : Nat) : Int) := by unfold mulR mulM; push_cast; rfl
theorem pwL_nat (m : Nat) : ∀ (f e a b : Nat), pwr (mulR m) f e (a : Int) (b : Int) = ((pwr (mulM m) f e a b : Nat) : Int) := by
  intro f
  induction f with
  | zero => intro e a b; rfl
  | succ f ih =>
    intro e a b
    rcases Nat.eq_zero_or_pos e with rfl | h0
    · rfl
    · have h2 := Nat.mod_lt e (show 2 > 0 by omega)
      by_cases ho : e % 2 = 1
      · rw [pwL_odd _ _ _ _ _ ho, pwL_odd _ _ _ _ _ ho, mulR_nat, mulR_nat, ih]
      · rw [pwL_even _ _ _ _ _ h0 (by omega), pwL_even _ _ _ _ _ h0 (by omega), mulR_nat, ih]
/-- Products of powers: the first k. -/
def pmK (m : Nat) (es xs : List Int) : Nat → Nat
  | 0 => 1
  | k + 1 => pwr (mulM m) 20 (es.getD k 0).toNat (pmK m es xs k) (xs.getD k 0).toNat
theorem pwL_lt {m : Nat} (hm : 0 < m) : ∀ (f e p v : Nat), p < m → pwr (mulM m) f e p v < m := by
  intro f
  induction f with
  | zero => intro e p v h; exact h
  | succ f ih =>
    intro e p v h
    rw [pwr]
    split
    · exact h
    · refine ih _ _ _ ?_
      split
      · exact Nat.mod_lt _ hm
      · exact h
theorem pmK_lt {m : Nat} (hm : 2 ≤ m) (es xs : List Int) : ∀ k, pmK m es xs k < m := by
  intro k
  induction k with
  | zero => show 1 < m; omega
  | succ k ih => exact pwL_lt (by omega) _ _ _ _ ih
end Go.Proofs.Ytbbfbccemonihaa
