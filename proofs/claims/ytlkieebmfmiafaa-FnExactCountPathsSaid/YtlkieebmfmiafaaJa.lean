/- Uses of values as data: the outputs that a value is, the steps that use it, and how many they are. -/
import Derived.Test.YtlkieebmfmiafaaEa
namespace Go.Proofs.Ytlkieebmfmiafaa
open Go.RowKit

/-- On how many sides of a step a value stands. -/
def sid (st : Int × Int) (v : Int) : Nat := (if st.1 = v then 1 else 0) + (if st.2 = v then 1 else 0)
/-- The steps before step k that use a value, once for each use. -/
def usS (s : List (Int × Int)) (v : Int) : Nat → List Int
  | 0 => []
  | k + 1 => usS s v k ++ List.replicate (sid (s.getD k (0, 0)) v) (k : Int)
/-- The outputs before output k that a value is. -/
def usO (o : List Int) (v : Int) : Nat → List Int
  | 0 => []
  | k + 1 => usO o v k ++ (if o.getD k 0 = v then [(k : Int)] else [])
/-- How often a value is used by the first k steps and the first j outputs. -/
def usC (s : List (Int × Int)) (o : List Int) (k j : Nat) (v : Int) : Nat := (usS s v k).length + (usO o v j).length
def cL (s : List (Int × Int)) (o : List Int) (R k j : Nat) : List Int := (List.range R).map fun v : Nat => ((usC s o k j (v : Int) : Nat) : Int)

theorem sid_le (st : Int × Int) (v : Int) : sid st v ≤ 2 := by unfold sid; split <;> split <;> omega
theorem usS_le (s : List (Int × Int)) (v : Int) (k : Nat) : (usS s v k).length ≤ 2 * k := by
  induction k with
  | zero => simp [usS]
  | succ k ih => have := sid_le (s.getD k (0, 0)) v; simp only [usS, List.length_append, List.length_replicate]; omega
theorem usO_le (o : List Int) (v : Int) (k : Nat) : (usO o v k).length ≤ k := by
  induction k with
  | zero => simp [usO]
  | succ k ih => simp only [usO, List.length_append]; split <;> simp <;> omega
theorem usC_le (s : List (Int × Int)) (o : List Int) (k j : Nat) (v : Int) : usC s o k j v ≤ 2 * k + j := by
  have := usS_le s v k
  have := usO_le o v j
  unfold usC
  omega
theorem usS_in (s : List (Int × Int)) (v : Int) (k : Nat) : ∀ x ∈ usS s v k, 0 ≤ x ∧ x < (k : Int) := by
  induction k with
  | zero => intro x hx; simp [usS] at hx
  | succ k ih =>
    intro x hx
    rcases List.mem_append.1 hx with h | h
    · have := ih x h; omega
    · have := (List.mem_replicate.1 h).2; omega
theorem usO_in (o : List Int) (v : Int) (k : Nat) : ∀ x ∈ usO o v k, 0 ≤ x ∧ x < (k : Int) := by
  induction k with
  | zero => intro x hx; simp [usO] at hx
  | succ k ih =>
    intro x hx
    rcases List.mem_append.1 hx with h | h
    · have := ih x h; omega
    · split at h
      · have := List.mem_singleton.1 h; omega
      · simp at h
theorem usO_hit {o : List Int} {v : Int} {k : Nat} (h : o.getD k 0 = v) : usO o v (k + 1) = usO o v k ++ [(k : Int)] := by simp only [usO]; rw [if_pos h]
theorem usO_miss {o : List Int} {v : Int} {k : Nat} (h : ¬ o.getD k 0 = v) : usO o v (k + 1) = usO o v k := by simp only [usO]; rw [if_neg h, List.append_nil]
theorem cL_length (s : List (Int × Int)) (o : List Int) (R k j : Nat) : (cL s o R k j).length = R := by simp [cL]
theorem cL_at (s : List (Int × Int)) (o : List Int) {R a : Nat} (k j : Nat) (ha : a < R) : (cL s o R k j).getD a 0 = ((usC s o k j (a : Int) : Nat) : Int) := by simp [cL, ha]
theorem cL_zero (s : List (Int × Int)) (o : List Int) (R : Nat) : cL s o R 0 0 = List.replicate R 0 := by
  apply List.ext_getElem?
  intro j
  by_cases hj : j < R <;> simp [cL, hj, usC, usS, usO]
theorem usC_step {s : List (Int × Int)} (o : List Int) {k : Nat} (j : Nat) (v : Int) : usC s o (k + 1) j v = usC s o k j v + sid (s.getD k (0, 0)) v := by
  simp only [usC, usS, List.length_append, List.length_replicate]
  omega
theorem usC_out (s : List (Int × Int)) (o : List Int) (k j : Nat) (v : Int) : usC s o k (j + 1) v = usC s o k j v + (if o.getD j 0 = v then 1 else 0) := by
  simp only [usC, usO, List.length_append]
  split <;> simp <;> omega
theorem cL_mid {s : List (Int × Int)} (o : List Int) {R k a : Nat} (ha : a < R) :
    (cL s o R k 0).set a ((usC s o k 0 (a : Int) : Nat) + 1) = (List.range R).map fun v : Nat => (((usC s o k 0 (v : Int) + if v = a then 1 else 0 : Nat)) : Int) := by
  apply List.ext_getElem?
  intro j
  by_cases hj : j < R
  · by_cases hja : a = j
    · subst hja
      rw [List.getElem?_set_self (by rw [cL_length]; exact ha)]
      simp [ha]
    · rw [List.getElem?_set_ne hja]
      have : ¬ j = a := fun h => hja h.symm
      simp [cL, hj, this]
  · rw [List.getElem?_eq_none (by simp [cL]; omega), List.getElem?_eq_none (by simp; omega)]
/-- Behind a step: both sides are counted. -/
theorem cL_step {s : List (Int × Int)} (o : List Int) {R k a b : Nat} (ha : a < R) (hb : b < R) (hs : s.getD k (0, 0) = ((a : Int), (b : Int))) :
    ((cL s o R k 0).set a ((usC s o k 0 (a : Int) : Nat) + 1)).set b ((usC s o k 0 (b : Int) + (if b = a then 1 else 0) : Nat) + 1) = cL s o R (k + 1) 0 := by
  rw [cL_mid o ha]
  apply List.ext_getElem?
  intro j
  by_cases hj : j < R
  · have hst := usC_step (s := s) o (k := k) 0 (j : Int)
    rw [hs] at hst
    have e1 : (((a : Int), (b : Int)).1 = (j : Int)) = (j = a) := by apply propext; simp; omega
    have e2 : (((a : Int), (b : Int)).2 = (j : Int)) = (j = b) := by apply propext; simp; omega
    unfold sid at hst
    simp only [e1, e2] at hst
    by_cases hjb : b = j
    · subst hjb
      rw [List.getElem?_set_self (by simpa using hb)]
      simp only [cL, List.getElem?_map, List.getElem?_range hb, Option.map_some, hst]
      simp
      omega
    · rw [List.getElem?_set_ne hjb]
      have hjb' : ¬ j = b := fun h => hjb h.symm
      simp only [cL, List.getElem?_map, List.getElem?_range hj, Option.map_some, hst, if_neg hjb']
      simp
  · rw [List.getElem?_eq_none (by simp; omega), List.getElem?_eq_none (by simp [cL]; omega)]
theorem cL_mid_at {s : List (Int × Int)} (o : List Int) {R k a b : Nat} (ha : a < R) (hb : b < R) :
    ((cL s o R k 0).set a ((usC s o k 0 (a : Int) : Nat) + 1)).getD b 0 = ((usC s o k 0 (b : Int) + (if b = a then 1 else 0) : Nat) : Int) := by
  rw [cL_mid o ha]
  simp [hb]
/-- Behind an output. -/
theorem cL_out (s : List (Int × Int)) {o : List Int} {R j v : Nat} (k : Nat) (hv : v < R) (ho : o.getD j 0 = (v : Int)) :
    (cL s o R k j).set v ((usC s o k j (v : Int) : Nat) + 1) = cL s o R k (j + 1) := by
  apply List.ext_getElem?
  intro i
  by_cases hi : i < R
  · have hst := usC_out s o k j (i : Int)
    rw [ho] at hst
    by_cases hiv : v = i
    · subst hiv
      rw [List.getElem?_set_self (by rw [cL_length]; exact hv)]
      simp [cL, hi, hst]
    · rw [List.getElem?_set_ne hiv]
      have h1 : ¬ (v : Int) = (i : Int) := by omega
      rw [if_neg h1] at hst
      simp [cL, hi, hst]
  · rw [List.getElem?_eq_none (by rw [List.length_set, cL_length]; omega), List.getElem?_eq_none (by rw [cL_length]; omega)]

theorem mem_usO {o : List Int} {v x : Int} {k : Nat} : x ∈ usO o v k ↔ ∃ i : Nat, i < k ∧ x = (i : Int) ∧ o.getD i 0 = v := by
  induction k with
  | zero => simp [usO]
  | succ k ih =>
    simp only [usO]
    rw [List.mem_append, ih]
    constructor
    · rintro (⟨i, h1, h2, h3⟩ | h)
      · exact ⟨i, by omega, h2, h3⟩
      · split at h
        · rename_i h4; exact ⟨k, by omega, List.mem_singleton.1 h, h4⟩
        · simp at h
    · rintro ⟨i, h1, h2, h3⟩
      rcases Nat.lt_or_ge i k with h4 | h4
      · exact .inl ⟨i, h4, h2, h3⟩
      · have e : i = k := by omega
        subst e
        right
        rw [if_pos h3]
        exact List.mem_singleton.2 h2
theorem mem_usS {s : List (Int × Int)} {v x : Int} {k : Nat} : x ∈ usS s v k ↔ ∃ i : Nat, i < k ∧ x = (i : Int) ∧ ((s.getD i (0, 0)).1 = v ∨ (s.getD i (0, 0)).2 = v) := by
  have key : ∀ st : Int × Int, sid st v ≠ 0 ↔ (st.1 = v ∨ st.2 = v) := by
    intro st
    unfold sid
    by_cases h1 : st.1 = v <;> by_cases h2 : st.2 = v <;> simp [h1, h2]
  induction k with
  | zero => simp [usS]
  | succ k ih =>
    simp only [usS]
    rw [List.mem_append, List.mem_replicate, key]
    constructor
    · rintro (h | ⟨h1, h2⟩)
      · obtain ⟨i, h1, h2, h3⟩ := ih.1 h
        exact ⟨i, by omega, h2, h3⟩
      · exact ⟨k, by omega, h2, h1⟩
    · rintro ⟨i, h1, h2, h3⟩
      rcases Nat.lt_or_ge i k with h4 | h4
      · exact .inl (ih.2 ⟨i, h4, h2, h3⟩)
      · have e : i = k := by omega
        subst e
        exact .inr ⟨h3, h2⟩

/-- The box of uses is kept by an append to an own row of numbers. -/
theorem us_kept {w w3 : World} {B g n : Nat} {t : TypeId} {v : Value} {cs : Array Value} {xs : List Value} {o : Obj} (hb : w.heap[g]? = some (.cells cs t (0, 0))) (ho : w.ownsRow B 3 1 v n xs)
    (hg : (w.alloc o).grownBy w3 v.ownBlock) (ht : t ≠ 3 := by decide) : w3.heap[g]? = some (.cells cs t (0, 0)) := by
  have hgl : g < w.heap.size := (Array.getElem?_eq_some_iff.1 hb).1
  have hbA : (w.alloc o).heap[g]? = _ := (Below.heap_alloc w o g hgl).trans hb
  exact (hg.block g (by simp; omega) (own_ne_blk (World.ownsRow.alloc ho o) hbA ht)).trans hbA
theorem us_cells {w : World} {g : Nat} {a b : Value} {t : TypeId} (h : w.heap[g]? = some (.cells #[a, b] t (0, 0))) :
    w.cell? ⟨g, 0, none⟩ = some a ∧ w.cell? ⟨g, 1, none⟩ = some b ∧ w.frozen? ⟨g, 0, none⟩ = false ∧ w.frozen? ⟨g, 1, none⟩ = false := by
  refine ⟨?_, ?_, frozen_of_row w g 0 _ _ h, frozen_of_row w g 1 _ _ h⟩
  · rw [cell_of_row w g 0 _ _ (0, 0) h]; rfl
  · rw [cell_of_row w g 1 _ _ (0, 0) h]; rfl
theorem own_heap {w : World} {B sz n c g : Nat} {e : TypeId} {xs : List Value} (h : w.ownsRow B e sz (.slice (some ⟨g, 0, none⟩) n c) n xs) : ∃ cs, w.heap[g]? = some (.cells cs e (0, 0)) := by
  rcases h.2 with ⟨h0, _⟩ | ⟨g', cap, cur, hv, _, hg, _⟩
  · simp at h0
  · simp only [Value.slice.injEq, Option.some.injEq, Addr.mk.injEq] at hv
    obtain ⟨⟨rfl, _⟩, _⟩ := hv
    exact ⟨_, hg⟩
/-- How often each value of a plan is used. -/
def usL (p : Pl) : List Int := cL p.s p.o (p.n.toNat + p.s.length) p.s.length p.o.length
/-- A store into an own row of integers. -/
theorem OwI.set {w : World} {B g a R c : Nat} {l : List Int} (h : w.ownsRow B 3 1 (.slice (some ⟨g, 0, none⟩) R c) R (l.map I)) (x : Int) :
    (w.setCell ⟨g, a, none⟩ (.int .i64 x)).ownsRow B 3 1 (.slice (some ⟨g, 0, none⟩) R c) R ((l.set a x).map I) := by
  have h1 := (h.stored a (.int .i64 x)).1
  rw [List.map_set]
  exact h1
theorem OwI.cellD {w : World} {B g a R c : Nat} {l : List Int} (h : w.ownsRow B 3 1 (.slice (some ⟨g, 0, none⟩) R c) R (l.map I)) (ha : a < R) : w.cell? ⟨g, a, none⟩ = some (.int .i64 (l.getD a 0)) := by
  have hl : l.length = R := by have := h.1; simpa using this
  rw [h.cellAt _ (by omega)]
  simp [I, hl, ha]
end Go.Proofs.Ytlkieebmfmiafaa
