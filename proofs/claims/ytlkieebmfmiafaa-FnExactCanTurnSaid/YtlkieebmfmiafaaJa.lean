/- Uses of values as data: the outputs that a value is, the steps that use it, and how many they are. -/
import Derived.Test.YtlkieebmfmiafaaEa
namespace Go.Proofs.Ytlkieebmfmiafaa
open Go.RowKit

/-- On how many sides of a step a value stands. -/
def sid (st : Int × Int) (v : Int) : Nat := (if st.1 = v then 1 else 0) + (if st.2 = v then 1 else 0)
/-- The steps before step k that use a value, once for each use. -/
def usS (s : List (Int × Int)) (v : Int) : Nat → List Int
  | 0 => []
  | k + 1 => usS s v k ++ List.replicate (sid (s.getD k (0, 0)) v) (k : Int)
/-- The outputs before output k that a value is. -/
def usO (o : List Int) (v : Int) : Nat → List Int
  | 0 => []
  | k + 1 => usO o v k ++ (if o.getD k 0 = v then [(k : Int)] else [])
/-- How often a value is used by the first k steps and the first j outputs. -/
def usC (s : List (Int × Int)) (o : List Int) (k j : Nat) (v : Int) : Nat := (usS s v k).length + (usO o v j).length
def cL (s : List (Int × Int)) (o : List Int) (R k j : Nat) : List Int := (List.range R).map fun v : Nat => ((usC s o k j (v : Int) : Nat) : Int)

theorem sid_le (st : Int × Int) (v : Int) : sid st v ≤ 2 := by unfold sid; split <;> split <;> omega
theorem usS_le (s : List (Int × Int)) (v : Int) (k : Nat) : (usS s v k).length ≤ 2 * k := by
  induction k with
  | zero => simp [usS]
  | succ k ih => have := sid_le (s.getD k (0, 0)) v; simp only [usS, List.length_append, List.length_replicate]; omega
theorem usO_le (o : List Int) (v : Int) (k : Nat) : (usO o v k).length ≤ k := by
  induction k with
  | zero => simp [usO]
  | succ k ih => simp only [usO, List.length_append]; split <;> simp <;> omega
theorem usC_le (s : List (Int × Int)) (o : List Int) (k j : Nat) (v : Int) : usC s o k j v ≤ 2 * k + j := by
  have := usS_le s v k
  have := usO_le o v j
  unfold usC
  omega
theorem usS_in (s : List (Int × Int)) (v : Int) (k : Nat) : ∀ x ∈ usS s v k, 0 ≤ x ∧ x < (k : Int) := by
  induction k with
  | zero => intro x hx; simp [usS] at hx
  | succ k ih =>
    intro x hx
    rcases List.mem_append.1 hx with h | h
    · have := ih x h; omega
    · have := (List.mem_replicate.1 h).2; omega
theorem usO_in (o : List Int) (v : Int) (k : Nat) : ∀ x ∈ usO o v k, 0 ≤ x ∧ x < (k : Int) := by
  induction k with
  | zero => intro x hx; simp [usO] at hx
  | succ k ih =>
    intro x hx
    rcases List.mem_append.1 hx with h | h
    · have := ih x h; omega
    · split at h
      · have := List.mem_singleton.1 h; omega
      · simp at h
theorem usO_hit {o : List Int} {v : Int} {k : Nat} (h : o.getD k 0 = v) : usO o v (k + 1) = usO o v k ++ [(k : Int)] := by simp only [usO]; rw [if_pos h]
theorem usO_miss {o : List Int} {v : Int} {k : Nat} (h : ¬ o.getD k 0 = v) : usO o v (k + 1) = usO o v k := by simp only [usO]; rw [if_neg h, List.append_nil]
theorem cL_length (s : List (Int × Int)) (o : List Int) (R k j : Nat) : (cL s o R k j).length = R := by simp [cL]
theorem cL_at (s : List (Int × Int)) (o : List Int) {R a : Nat} (k j : Nat) (ha : a < R) : (cL s o R k j).getD a 0 = ((usC s o k j (a : Int) : Nat) : Int) := by simp [cL, ha]
theorem cL_zero (s : List (Int × Int)) (o : List Int) (R : Nat) : cL s o R 0 0 = List.replicate R 0 := by
  apply List.ext_getElem?
  intro j
  by_cases hj : j < R <;> simp [cL, hj, usC, usS, usO]
theorem usC_step {s : List (Int × Int)} (o : List Int) {k : Nat} (j : Nat) (v : Int) : usC s o (k + 1) j v = usC s o k j v + sid (s.getD k (0, 0)) v := by
  simp only [usC, usS, List.length_append, List.length_replicate]
  omega
theorem usC_out (s : List (Int × Int)) (o : List Int) (k j : Nat) (v : Int) : usC s o k (j + 1) v = usC s o k j v + (if o.getD j 0 = v then 1 else 0) := by
  simp only [usC, usO, List.length_append]
  split <;> simp <;> omega
theorem cL_mid {s : List (Int × Int)} (o : List Int) {R k a : Nat} (ha : a < R) :
    (cL s o R k 0).set a ((usC s o k 0 (a : Int) : Nat) + 1) = (List.range R).map fun v : Nat => (((usC s o k 0 (v : Int) + if v = a then 1 else 0 : Nat)) : Int) := by
  apply List.ext_getElem?
  intro j
  by_cases hj : j < R
  · by_cases hja : a = j
    · subst hja
      rw [List.getElem?_set_self (by rw [cL_length]; exact ha)]
      simp [ha]
    · rw [List.getElem?_set_ne hja]
      have : ¬ j = a := fun h => hja h.symm
      simp [cL, hj, this]
  · rw [List.getElem?_eq_none (by simp [cL]; omega), List.getElem?_eq_none (by simp; omega)]
/-- Behind a step: both sides are counted. -/
theorem cL_step {s : List (Int × Int)} (o : List Int) {R k a b : Nat} (ha : a < R) (hb : b < R) (hs : s.getD k (0, 0) = ((a : Int), (b : Int))) :
    ((cL s o R k 0).set a ((usC s o k 0 (a : Int) : Nat) + 1)).set b ((usC s o k 0 (b : Int) + (if b = a then 1 else 0) : Nat) + 1) = cL s o R (k + 1) 0 := by
  rw [cL_mid o ha]
  apply List.ext_getElem?
  intro j
  by_cases hj : j < R
  · have hst := usC_step (s := s) o (k := k) 0 (j : Int)
    rw [hs] at hst
    have e1 : (((a : Int), (b : Int)).1 = (j : Int)) = (j = a) := by apply propext; simp; omega
    have e2 : (((a : Int), (b : Int)).2 = (j : Int)) = (j = b) := by apply propext; simp; omega
    unfold sid at hst
    simp only [e1, e2] at hst
    by_cases hjb : b = j
    · subst hjb
      rw [List.getElem?_set_self (by simpa using hb)]
      simp only [cL, List.getElem?_map, List.getElem?_range hb, Option.map_some, hst]
      simp
      omega
    · rw [List.getElem?_set_ne hjb]
      have hjb' : ¬ j = b := fun h => hjb h.symm
      simp only [cL, List.getElem?_map, List.getElem?_range hj, Option.map_some, hst, if_neg hjb']
      simp
  · rw [List.getElem?_eq_none (by simp; omega), List.getElem?_eq_none (by simp [cL]; omega)]
theorem cL_mid_at {s : List (Int × Int)} (o : List Int) {R k a b : Nat} (ha : a < R) (hb : b < R) :
    ((cL s o R k 0).set a ((usC s o k 0 (a : Int) : Nat) + 1)).getD b 0 = ((usC s o k 0 (b : Int) + (if b = a then 1 else 0) : Nat) : Int) := by
  rw [cL_mid o ha]
  simp [hb]
/-- Behind an output. -/
theorem cL_out (s : List (Int × Int)) {o : List Int} {R j v : Nat} (k : Nat) (hv : v < R) (ho : o.getD j 0 = (v : Int)) :
    (cL s o R k j).set v ((usC s o k j (v : Int) : Nat) + 1) = cL s o R k (j + 1) := by
  apply List.ext_getElem?
  intro i
  by_cases hi : i < R
  · have hst := usC_out s o k j (i : Int)
    rw [ho] at hst
    by_cases hiv : v = i
    · subst hiv
      rw [List.getElem?_set_self (by rw [cL_length]; exact hv)]
      simp [cL, hi, hst]
    · rw [List.getElem?_set_ne hiv]
      have h1 : ¬ (v : Int) = (i : Int) := by omega
      rw [if_neg h1] at hst
      simp [cL, hi, hst]
  · rw [List.getElem?_eq_none (by rw [List.length_set, cL_length]; omega), List.getElem?_eq_none (by rw [cL_length]; omega)]

/-- How often each value of a plan is used. -/
def usL (p : Pl) : List Int := cL p.s p.o (p.n.toNat + p.s.length) p.s.length p.o.length
/-- A store into an own row of integers. -/
theorem OwI.set {w : World} {B g a R c : Nat} {l : List Int} (h : w.ownsRow B 3 1 (.slice (some ⟨g, 0, none⟩) R c) R (l.map I)) (x : Int) :
    (w.setCell ⟨g, a, none⟩ (.int .i64 x)).ownsRow B 3 1 (.slice (some ⟨g, 0, none⟩) R c) R ((l.set a x).map I) := by
  have h1 := (h.stored a (.int .i64 x)).1
  rw [List.map_set]
  exact h1
theorem OwI.cellD {w : World} {B g a R c : Nat} {l : List Int} (h : w.ownsRow B 3 1 (.slice (some ⟨g, 0, none⟩) R c) R (l.map I)) (ha : a < R) : w.cell? ⟨g, a, none⟩ = some (.int .i64 (l.getD a 0)) := by
  have hl : l.length = R := by have := h.1; simpa using this
  rw [h.cellAt _ (by omega)]
  simp [I, hl, ha]
end Go.Proofs.Ytlkieebmfmiafaa
