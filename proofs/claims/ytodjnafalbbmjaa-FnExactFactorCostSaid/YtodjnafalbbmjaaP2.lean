/- Joined: Qm Qa Qb Qc Qd Qe Mk Ml Op Mm Ql Qf Qg Bl Qj Qn. -/
import Derived.Test.YtodjnafalbbmjaaP0
import Derived.Test.YtodjnafalbbmjaaP1
import Derived.Test.YtodjnafalbbmjaaRows
import Derived.ProofKit
import Derived.OpenShut
import Derived.Carry
import Derived.Deep.Slices
import Derived.Lib.SmallJoins
import Derived.Shelf.Small.Bits
import Derived.Lib.BitFns
/- Chains as data: strictly rising lists, the sums of a number, the steps of a chain. -/
namespace Go.Proofs.Ytodjnafalbbmjaa

/-- Strictly rising. -/
def Asc (l : List Int) : Prop := ∀ i j, i < j → j < l.length → l.getD i 0 < l.getD j 0
/-- What a sum of the number k with the greater index j is: index i. -/
def prsI (l : List Int) (k j n : Nat) : List (Int × Int) := ((List.range n).filter fun i : Nat => l.getD i 0 + l.getD j 0 == l.getD k 0).map fun i : Nat => ((i : Int), (j : Int))
def prsJ (l : List Int) (k j : Nat) : List (Int × Int) := prsI l k j (j + 1)
def prs (l : List Int) (k m : Nat) : List (Int × Int) := (List.range m).flatMap (prsJ l k)

theorem prsI_zero (l : List Int) (k j : Nat) : prsI l k j 0 = [] := rfl
theorem prsI_hit {l : List Int} {k j n : Nat} (h : l.getD n 0 + l.getD j 0 = l.getD k 0) : prsI l k j (n + 1) = prsI l k j n ++ [((n : Int), (j : Int))] := by
  unfold prsI
  have e : (l.getD n 0 + l.getD j 0 == l.getD k 0) = true := by simpa only [beq_iff_eq] using h
  rw [List.range_succ, List.filter_append, List.map_append]
  simp only [List.filter_cons, List.filter_nil, e]
  rfl
theorem prsI_miss {l : List Int} {k j n : Nat} (h : ¬ l.getD n 0 + l.getD j 0 = l.getD k 0) : prsI l k j (n + 1) = prsI l k j n := by
  unfold prsI
  have e : (l.getD n 0 + l.getD j 0 == l.getD k 0) = false := by simpa only [beq_eq_false_iff_ne] using h
  rw [List.range_succ, List.filter_append, List.map_append]
  simp only [List.filter_cons, List.filter_nil, e]
  simp
theorem prs_zero (l : List Int) (k : Nat) : prs l k 0 = [] := rfl
theorem prs_succ (l : List Int) (k m : Nat) : prs l k (m + 1) = prs l k m ++ prsJ l k m := by
  unfold prs
  rw [List.range_succ, List.flatMap_append]
  simp
theorem prsI_le (l : List Int) (k j n : Nat) : (prsI l k j n).length ≤ n := by
  unfold prsI
  rw [List.length_map]
  exact Nat.le_trans (List.length_filter_le _ _) (by simp)

theorem take_succ_getD {l : List Int} {k : Nat} (hk : k < l.length) : l.take (k + 1) = l.take k ++ [l.getD k 0] := by
  rw [List.take_succ_eq_append_getElem hk]
  simp [hk]
theorem mem_take_getD {l : List Int} {k : Nat} {x : Int} (hk : k ≤ l.length) : x ∈ l.take k ↔ ∃ i, i < k ∧ l.getD i 0 = x := by
  rw [List.mem_iff_getElem]
  constructor
  · rintro ⟨i, hi, rfl⟩
    have h1 : i < k := by rw [List.length_take] at hi; omega
    refine ⟨i, h1, ?_⟩
    rw [List.getElem_take]
    simp [show i < l.length by omega]
  · rintro ⟨i, hi, rfl⟩
    refine ⟨i, by rw [List.length_take]; omega, ?_⟩
    rw [List.getElem_take]
    simp [show i < l.length by omega]
/-- In a strictly rising list the index of x is the number of lesser numbers. -/
theorem count_at {l : List Int} {x : Int} : ∀ m, m ≤ l.length →
    (∀ i, i < m → l.getD i 0 < x) → (l.take m).countP (fun y => decide (y < x)) = m := by
  intro m
  induction m with
  | zero => intro _ _; rfl
  | succ m ih =>
    intro hm h
    rw [take_succ_getD (by omega), List.countP_append, ih (by omega) (fun i hi => h i (by omega))]
    have e2 : decide (l.getD m 0 < x) = true := by simpa only [decide_eq_true_eq] using h m (by omega)
    simp only [List.countP_cons, List.countP_nil, e2]
    simp
theorem find_eq {l : List Int} (ha : Asc l) (x : Int) : ∀ m, m ≤ l.length →
    ((List.range m).filter fun i => l.getD i 0 == x) = if x ∈ l.take m then [(l.take m).countP (fun y => decide (y < x))] else [] := by
  intro m
  induction m with
  | zero => intro _; simp
  | succ m ih =>
    intro hm
    rw [List.range_succ, List.filter_append, ih (by omega), take_succ_getD (by omega)]
    by_cases hx : l.getD m 0 = x
    · have hnot : ¬ x ∈ l.take m := by
        rw [mem_take_getD (by omega)]
        rintro ⟨i, hi, he⟩
        have := ha i m hi (by omega)
        omega
      have hc : (l.take m).countP (fun y => decide (y < x)) = m := count_at m (by omega) fun i hi => by have := ha i m hi (by omega); omega
      rw [if_neg hnot, List.countP_append, hc]
      rw [if_pos (by rw [hx]; simp)]
      have e1 : (l.getD m 0 == x) = true := by simpa using hx
      have e2 : decide (l.getD m 0 < x) = false := by simp only [decide_eq_false_iff_not]; omega
      simp only [List.filter_cons, List.filter_nil, e1, List.countP_cons, List.countP_nil, e2]
      simp
    · by_cases hin : x ∈ l.take m
      · rw [if_pos hin, if_pos (List.mem_append_left _ hin), List.countP_append]
        obtain ⟨i, hi, he⟩ := (mem_take_getD (by omega)).1 hin
        have := ha i m hi (by omega)
        have h1 : ¬ l.getD m 0 < x := by omega
        have h2 : (l.getD m 0 == x) = false := by simpa using hx
        simp only [List.filter_cons, h2, List.countP_cons, List.countP_nil, h1, List.filter_nil]
        simp
      · have h2 : (l.getD m 0 == x) = false := by simpa using hx
        have hnot : ¬ x ∈ l.take m ++ [l.getD m 0] := by
          intro h
          rcases List.mem_append.1 h with h | h
          · exact hin h
          · exact hx (List.mem_singleton.1 h).symm
        rw [if_neg hin, if_neg hnot]
        simp only [List.filter_cons, h2, List.filter_nil]
        simp
theorem prsJ_eq {l : List Int} (ha : Asc l) (k j : Nat) (hj : j < l.length) :
    prsJ l k j = if l.getD k 0 - l.getD j 0 ∈ l.take (j + 1) then [((((l.take (j + 1)).countP (fun y => decide (y < l.getD k 0 - l.getD j 0)) : Nat) : Int), (j : Int))] else [] := by
  unfold prsJ prsI
  have e : (fun i : Nat => l.getD i 0 + l.getD j 0 == l.getD k 0) = fun i : Nat => l.getD i 0 == l.getD k 0 - l.getD j 0 := by
    funext i
    rw [Bool.eq_iff_iff]
    simp only [beq_iff_eq]
    omega
  rw [e, find_eq ha _ (j + 1) (by omega)]
  split <;> rfl
theorem prsJ_le {l : List Int} (ha : Asc l) (k j : Nat) (hj : j < l.length) : (prsJ l k j).length ≤ 1 := by
  rw [prsJ_eq ha k j hj]
  split <;> simp
theorem prs_le {l : List Int} (ha : Asc l) (k : Nat) : ∀ m, m ≤ l.length → (prs l k m).length ≤ m := by
  intro m
  induction m with
  | zero => intro _; simp [prs_zero]
  | succ m ih =>
    intro h
    rw [prs_succ, List.length_append]
    have := ih (by omega)
    have := prsJ_le ha k m (by omega)
    omega
/-- The parts of a sum: 0 ≤ A ≤ B < m. -/
theorem prs_mem {l : List Int} {k : Nat} : ∀ m, ∀ p ∈ prs l k m, ∃ i j : Nat, p = ((i : Int), (j : Int)) ∧ i ≤ j ∧ j < m ∧ l.getD i 0 + l.getD j 0 = l.getD k 0 := by
  intro m
  induction m with
  | zero => intro p hp; simp [prs_zero] at hp
  | succ m ih =>
    intro p hp
    rw [prs_succ] at hp
    rcases List.mem_append.1 hp with h | h
    · obtain ⟨i, j, e, h1, h2, h3⟩ := ih p h
      exact ⟨i, j, e, h1, by omega, h3⟩
    · unfold prsJ prsI at h
      simp only [List.mem_map, List.mem_filter, List.mem_range, beq_iff_eq] at h
      obtain ⟨i, ⟨hi, he⟩, rfl⟩ := h
      exact ⟨i, m, rfl, by omega, by omega, he⟩

/-- Rising, and within lo..hi, up to index k. -/
def risB (l : List Int) (lo hi : Int) (k : Nat) : Bool := (List.range k).all fun i => inB (l.getD i 0) lo hi && (decide (i = 0) || decide (l.getD (i - 1) 0 < l.getD i 0))
theorem risB_succ (l : List Int) (lo hi : Int) (k : Nat) : risB l lo hi (k + 1) = (risB l lo hi k && (inB (l.getD k 0) lo hi && (decide (k = 0) || decide (l.getD (k - 1) 0 < l.getD k 0)))) := by
  unfold risB
  rw [List.range_succ, List.all_append]
  simp
theorem risB_false {l : List Int} {lo hi : Int} {k : Nat} (n : Nat) (hk : k < n) (h : (inB (l.getD k 0) lo hi && (decide (k = 0) || decide (l.getD (k - 1) 0 < l.getD k 0))) = false) : risB l lo hi n = false := by
  unfold risB
  rw [List.all_eq_false]
  exact ⟨k, List.mem_range.2 hk, by rw [h]; simp⟩
theorem risB_asc {l : List Int} {lo hi : Int} : ∀ n, risB l lo hi n = true → n ≤ l.length → (∀ i, i < n → lo ≤ l.getD i 0 ∧ l.getD i 0 ≤ hi) ∧ ∀ i j, i < j → j < n → l.getD i 0 < l.getD j 0 := by
  intro n
  induction n with
  | zero => intro _ _; exact ⟨fun i h => absurd h (by omega), fun i j _ h => absurd h (by omega)⟩
  | succ n ih =>
    intro h hn
    rw [risB_succ] at h
    simp only [Bool.and_eq_true, Bool.or_eq_true, decide_eq_true_eq, inB] at h
    obtain ⟨h1, ⟨h2, h3⟩, h4⟩ := h
    obtain ⟨i1, i2⟩ := ih h1 (by omega)
    refine ⟨fun i hi => ?_, fun i j hij hj => ?_⟩
    · rcases Nat.lt_or_eq_of_le (Nat.le_of_lt_succ hi) with h | rfl
      · exact i1 i h
      · exact ⟨h2, h3⟩
    · rcases Nat.lt_or_eq_of_le (Nat.le_of_lt_succ hj) with h | rfl
      · exact i2 i j hij h
      · rcases h4 with h4 | h4
        · omega
        · rcases Nat.lt_or_eq_of_le (Nat.le_sub_one_of_lt hij) with h5 | rfl
          · have := i2 i (j - 1) h5 (by omega)
            omega
          · exact h4
/-- All of a chain but the sums. -/
def chB (l : List Int) : Bool := inB (l.length : Nat) 1 41 && (l.getD 0 0 == 1) && risB l 1 1000000 l.length
def sumsB (l : List Int) (k : Nat) : Bool := (List.range k).all fun i => decide (i = 0) || !(prs l i i).isEmpty
def chG (l : List Int) : Bool := chB l && sumsB l l.length
theorem sumsB_succ (l : List Int) (k : Nat) : sumsB l (k + 1) = (sumsB l k && (decide (k = 0) || !(prs l k k).isEmpty)) := by
  unfold sumsB
  rw [List.range_succ, List.all_append]
  simp
theorem sumsB_false {l : List Int} {k : Nat} (n : Nat) (hk : k < n) (h0 : k ≠ 0) (h : prs l k k = []) : sumsB l n = false := by
  unfold sumsB
  rw [List.all_eq_false]
  exact ⟨k, List.mem_range.2 hk, by simp [h, h0]⟩
/-- The last sum of each number from 1 to k - 1. -/
def stepsK (l : List Int) (k : Nat) : List (Int × Int) := (List.range (k - 1)).map fun i => (prs l (i + 1) (i + 1)).getLastD (0, 0)
theorem stepsK_succ (l : List Int) (k : Nat) (hk : 1 ≤ k) : stepsK l (k + 1) = stepsK l k ++ [(prs l k k).getLastD (0, 0)] := by
  unfold stepsK
  rw [show k + 1 - 1 = (k - 1) + 1 by omega, List.range_succ, List.map_append]
  simp [show k - 1 + 1 = k by omega]
theorem stepsK_length (l : List Int) (k : Nat) : (stepsK l k).length = k - 1 := by simp [stepsK]
theorem stepsK_one (l : List Int) : stepsK l 1 = [] := rfl

structure Chn (l : List Int) : Prop where
  pos : 1 ≤ l.length
  most : l.length ≤ 41
  one : l.getD 0 0 = 1
  rng : ∀ i, i < l.length → 1 ≤ l.getD i 0 ∧ l.getD i 0 ≤ 1000000
  asc : Asc l
theorem chn_of {l : List Int} (h : chB l = true) : Chn l := by
  unfold chB at h
  simp only [Bool.and_eq_true, inB, decide_eq_true_eq, beq_iff_eq] at h
  obtain ⟨⟨⟨h1, h2⟩, h3⟩, h4⟩ := h
  obtain ⟨h5, h6⟩ := risB_asc l.length h4 (Nat.le_refl _)
  exact ⟨by omega, by omega, h3, h5, h6⟩
theorem risB_of {l : List Int} {lo hi : Int} : ∀ n, (∀ i, i < n → lo ≤ l.getD i 0 ∧ l.getD i 0 ≤ hi) → (∀ i, i + 1 < n → l.getD i 0 < l.getD (i + 1) 0) → risB l lo hi n = true := by
  intro n
  induction n with
  | zero => intro _ _; rfl
  | succ n ih =>
    intro h1 h2
    rw [risB_succ, ih (fun i hi => h1 i (by omega)) (fun i hi => h2 i (by omega))]
    have := h1 n (by omega)
    simp only [Bool.true_and, Bool.and_eq_true, Bool.or_eq_true, decide_eq_true_eq, inB]
    refine ⟨this, ?_⟩
    rcases Nat.eq_zero_or_pos n with h | h
    · exact .inl h
    · right
      have := h2 (n - 1) (by omega)
      rwa [show n - 1 + 1 = n by omega] at this
theorem chn_chB {l : List Int} (h : Chn l) : chB l = true := by
  have h3 := h.one
  have h1 := h.pos
  have h2 := h.most
  unfold chB
  rw [risB_of l.length h.rng fun i hi => h.asc i (i + 1) (by omega) hi]
  simp only [Bool.and_true, Bool.and_eq_true, inB, decide_eq_true_eq, beq_iff_eq]
  exact ⟨⟨by omega, by omega⟩, h3⟩
theorem chG_chn {l : List Int} (h : chG l = true) : Chn l := chn_of (by unfold chG at h; simp only [Bool.and_eq_true] at h; exact h.1)
theorem chG_sums {l : List Int} (h : chG l = true) : ∀ k, 1 ≤ k → k < l.length → prs l k k ≠ [] := by
  intro k h1 h2 he
  unfold chG at h
  rw [sumsB_false l.length h2 (by omega) he] at h
  simp at h
theorem getLastD_snoc {α : Type} (l : List α) (a d : α) : (l ++ [a]).getLastD d = a := by simp
theorem last_form {l : List (Int × Int)} (h : l ≠ []) : l.getLastD (0, 0) = l[l.length - 1]'(by have := List.length_pos_iff.2 h; omega) := by
  rw [List.getLastD_eq_getLast?, List.getLast?_eq_getElem?]
  have := List.length_pos_iff.2 h
  simp [show l.length - 1 < l.length by omega]
end Go.Proofs.Ytodjnafalbbmjaa
/- The model's small functions of chains: rising lists, the sums of a number. -/
namespace Go.Proofs.Ytodjnafalbbmjaa
open Go.RowKit

/-- The cell of element k. -/
theorem Rd.intD {w : World} {B : Nat} {A : Option Addr} {l : List Int} (h : Rd w B 1 A l.length (l.map I)) {k : Nat} (hk : k < l.length) :
    ∃ b off, A = some ⟨b, off, none⟩ ∧ b < B ∧ w.cell? ⟨b, off + k, none⟩ = some (.int .i64 (l.getD k 0)) := by
  obtain ⟨b, off, e, hb, hc⟩ := h.int hk
  exact ⟨b, off, e, hb, by rw [hc]; simp [hk]⟩
/-- All cells of a list that is not empty. -/
theorem Rd.cells {w : World} {B : Nat} {A : Option Addr} {l : List Int} (h : Rd w B 1 A l.length (l.map I)) (h0 : 0 < l.length) :
    ∃ b off, A = some ⟨b, off, none⟩ ∧ b < B ∧ ∀ k, k < l.length → w.cell? ⟨b, off + k, none⟩ = some (.int .i64 (l.getD k 0)) := by
  obtain ⟨b, off, e, hb, hc⟩ := h.2 (by omega)
  refine ⟨b, off, e, hb, fun k hk => ?_⟩
  rw [hc k (by omega)]
  simp [I, hk]

end Go.Proofs.Ytodjnafalbbmjaa
/- The model's sums of a number of a list. -/
namespace Go.Proofs.Ytodjnafalbbmjaa
open Go.RowKit

theorem OwS.nil (w : World) (B : Nat) : OwS w B (.slice none 0 0) [] := World.ownsRow_nil _ _ _ _
theorem OwS.below {w w' : World} {B : Nat} {v : Value} {s : List (Int × Int)} (h : OwS w B v s) (hb : Below w.heap.size w w') : OwS w' B v s := own_below h hb
theorem OwS.base {w : World} {B B' : Nat} {v : Value} {s : List (Int × Int)} (h : OwS w B v s) (hB : B' ≤ B) : OwS w B' v s := own_base h hB
theorem OwS.rd {w : World} {B : Nat} {A : Option Addr} {c : Nat} {s : List (Int × Int)} (h : OwS w B (.slice A s.length c) s) : Rd w w.heap.size 2 A s.length (fl s) := Rd.of_own h

end Go.Proofs.Ytodjnafalbbmjaa
/- Whether a list is a chain, and its steps, by the model. -/
namespace Go.Proofs.Ytodjnafalbbmjaa
open Go.RowKit

theorem sumsB_one (l : List Int) : sumsB l 1 = true := rfl
theorem isEmpty_ne {α : Type} {l : List α} (h : l ≠ []) : l.isEmpty = false := by cases l with | nil => exact absurd rfl h | cons => rfl

end Go.Proofs.Ytodjnafalbbmjaa
/- The steps of a chain, by the model. -/
namespace Go.Proofs.Ytodjnafalbbmjaa
open Go.RowKit

/-- The last element of an own row of steps. -/
theorem OwS.last {w : World} {B : Nat} {A : Option Addr} {c q : Nat} {P : List (Int × Int)} (h : OwS w B (.slice A (q + 1) c) P) (hq : P.length = q + 1) :
    ∃ g x y, A = some ⟨g, 0, none⟩ ∧ B ≤ g ∧ g < w.heap.size ∧ w.cell? ⟨g, q * 2, none⟩ = some (.int .i64 x) ∧ w.cell? ⟨g, q * 2 + 1, none⟩ = some (.int .i64 y) ∧ P.getLastD (0, 0) = (x, y) := by
  unfold OwS at h
  rw [hq] at h
  obtain ⟨g, rfl, hB, hg, hc, _⟩ := own_at h (by omega)
  have hlt : q < P.length := by omega
  obtain ⟨f1, f2⟩ := fl_at hlt
  refine ⟨g, P[q].1, P[q].2, rfl, hB, hg, by rw [hc _ (by omega), f1], by rw [hc _ (by omega), f2], ?_⟩
  have hne : P ≠ [] := by intro h; rw [h] at hq; simp at hq
  rw [last_form hne]
  simp [hq]

end Go.Proofs.Ytodjnafalbbmjaa
/- The program's search in a rising list, and the sums of a number. -/
namespace Go.Proofs.Ytodjnafalbbmjaa
open Go.RowKit

/-- How many numbers of the list are less than x. -/
def cnt (l : List Int) (x : Int) : Nat := l.countP fun y => decide (y < x)
theorem cnt_at {l : List Int} {x : Int} {i : Nat} (hi : i ≤ l.length) (h1 : ∀ t, t < i → l.getD t 0 < x) (h2 : ∀ t, i ≤ t → t < l.length → x ≤ l.getD t 0) : cnt l x = i := by
  unfold cnt
  rw [← List.take_append_drop i l, List.countP_append, count_at i hi h1]
  have : (l.drop i).countP (fun y => decide (y < x)) = 0 := by
    rw [List.countP_eq_zero]
    intro y hy
    obtain ⟨j, hj, rfl⟩ := List.mem_iff_getElem.1 hy
    rw [List.length_drop] at hj
    have := h2 (i + j) (by omega) (by omega)
    rw [List.getElem_drop]
    simp only [decide_eq_true_eq]
    have e : l.getD (i + j) 0 = l[i + j]'(by omega) := by simp [show i + j < l.length by omega]
    omega
  omega
theorem mem_at {l : List Int} (ha : Asc l) {x : Int} {i : Nat} (hi : i ≤ l.length) (h1 : ∀ t, t < i → l.getD t 0 < x) (h2 : ∀ t, i ≤ t → t < l.length → x ≤ l.getD t 0) : decide (x ∈ l) = decide (i < l.length ∧ l.getD i 0 = x) := by
  rw [decide_eq_decide]
  have e := mem_take_getD (l := l) (k := l.length) (x := x) (Nat.le_refl _)
  rw [List.take_length] at e
  rw [e]
  constructor
  · rintro ⟨j, hj, rfl⟩
    rcases Nat.lt_trichotomy j i with h | rfl | h
    · have := h1 j h; omega
    · exact ⟨hj, rfl⟩
    · have := h2 i (Nat.le_refl _) (by omega)
      have := ha i j h hj
      omega
  · rintro ⟨h, rfl⟩
    exact ⟨i, h, rfl⟩
theorem asc_le {l : List Int} (ha : Asc l) {i j : Nat} (h : i ≤ j) (hj : j < l.length) : l.getD i 0 ≤ l.getD j 0 := by
  rcases Nat.lt_or_eq_of_le h with h | rfl
  · exact Int.le_of_lt (ha i j h hj)
  · exact Int.le_refl _

end Go.Proofs.Ytodjnafalbbmjaa
/- The laws' own helpers: marks. -/
namespace Go.Proofs.Ytodjnafalbbmjaa
open Go.RowKit

def marksI (k : Int) (n : Nat) : List Int := (List.range n).map fun i : Nat => k + (i : Int)
def marksS (k : Int) (n : Nat) : List (Int × Int) := (List.range n).map fun i : Nat => (k + 2 * (i : Int), k + 2 * (i : Int) + 1)
theorem marksI_length (k : Int) (n : Nat) : (marksI k n).length = n := by simp [marksI]
theorem marksS_length (k : Int) (n : Nat) : (marksS k n).length = n := by simp [marksS]
theorem marksI_succ (k : Int) (n : Nat) : marksI k (n + 1) = marksI k n ++ [k + (n : Int)] := by
  unfold marksI
  rw [List.range_succ, List.map_append]
  rfl
theorem marksS_succ (k : Int) (n : Nat) : marksS k (n + 1) = marksS k n ++ [(k + 2 * (n : Int), k + 2 * (n : Int) + 1)] := by
  unfold marksS
  rw [List.range_succ, List.map_append]
  rfl
/-- The first k of a list replaced. -/
def over {α : Type} (xs ys : List α) (k : Nat) : List α := xs.take k ++ ys.drop k
theorem over_set_int (l : List Int) (m : Int) (k : Nat) (hk : k < l.length) :
    (((marksI m k) ++ l.drop k).map I).set k (I (m + (k : Int))) = ((marksI m (k + 1)) ++ l.drop (k + 1)).map I := by
  rw [← List.map_set, List.set_append_right _ _ (by rw [marksI_length]; omega), marksI_length, Nat.sub_self, marksI_succ, List.drop_eq_getElem_cons hk, List.set_cons_zero]
  simp
theorem over_set_step (s : List (Int × Int)) (m : Int) (k : Nat) (hk : k < s.length) :
    ((fl ((marksS m k) ++ s.drop k)).set (k * 2) (I (m + 2 * (k : Int)))).set (k * 2 + 1) (I (m + 2 * (k : Int) + 1)) = fl ((marksS m (k + 1)) ++ s.drop (k + 1)) := by
  have e : ∀ a b : List (Int × Int), fl (a ++ b) = fl a ++ fl b := fun a b => by simp [fl]
  have hl : (fl (marksS m k)).length = k * 2 := by rw [fl_length, marksS_length]
  have e2 : fl (s.drop k) = I (s[k]).1 :: I (s[k]).2 :: fl (s.drop (k + 1)) := by rw [List.drop_eq_getElem_cons hk]; rfl
  rw [e, e2, List.set_append_right _ _ (by omega), hl, Nat.sub_self, List.set_cons_zero, List.set_append_right _ _ (by omega), hl, show k * 2 + 1 - k * 2 = 1 by omega, List.set_cons_succ, List.set_cons_zero, marksS_succ, e, e]
  simp [fl]

set_option maxHeartbeats 1000000 in
theorem markIntS_any (B : Nat) (A : Option Addr) (c : Nat) (l : List Int) (m : Int) (w : World) (hm : l.length ≤ 4000000) (hm0 : 0 ≤ m) (hm1 : m ≤ 100000000) (hown : OwI w B (.slice A l.length c) l) :
    Calls Try.prog 16 #[.slice A l.length c, .int .i64 m] w fun e w' => e = .returned (.int .i64 (m + (l.length : Int))) ∧ OwI w' B (.slice A l.length c) (marksI m l.length) ∧ w.grownBy w' (Value.slice A l.length c).ownBlock := by
  have HOWN := Lib.hid hown
  clear hown
  go_enter Try.func16, Try.ntmps16
  go_wp2
  go_loopw [1, 5] (fun kv iv wr => ∃ k : Nat, k ≤ l.length ∧ iv = .int .i64 k ∧ kv = .int .i64 (m + (k : Int)) ∧ OwI wr B (.slice A l.length c) (marksI m k ++ l.drop k) ∧ w.grownBy wr (Value.slice A l.length c).ownBlock) (fun _ i _ => l.length - (intOf i).toNat)
  case atStart => exact ⟨0, by omega, rfl, by simp, HOWN.out, World.grownBy.refl _ _⟩
  case round =>
    obtain ⟨k, hk, rfl, rfl, hown, hbel⟩ := hrel
    have hll : (marksI m k ++ l.drop k).length = l.length := by rw [List.length_append, marksI_length, List.length_drop]; omega
    by_cases hlt : k < l.length
    · have ho : wr.ownsRow B 3 1 (.slice A l.length c) l.length ((marksI m k ++ l.drop k).map I) := by
        have h : wr.ownsRow _ _ _ _ _ _ := hown
        rw [hll] at h
        exact h
      obtain ⟨g, rfl, hgB, hgs, hcs, hfs⟩ := own_at ho (by omega)
      have hc : wr.cell? ⟨g, k, none⟩ = some (.int .i64 ((marksI m k ++ l.drop k)[k]'(by rw [hll]; exact hlt))) := by
        rw [hcs _ (by omega)]
        have hlt' : k < (marksI m k ++ l.drop k).length := by rw [hll]; exact hlt
        simp only [List.getElem?_map, List.getElem?_eq_getElem hlt', Option.map_some, I]
      have hf := hfs k
      have HO := Lib.hid ho
      have HB := Lib.hid hbel
      generalize hval : (Value.int .i64 ((marksI m k ++ l.drop k)[k]'(by rw [hll]; exact hlt))) = cv at hc
      clear ho hown hbel hcs hfs hval
      go_wp2
      go_roundw
      case rel =>
        refine ⟨k + 1, by omega, by go_num, by go_num, ?_, grown_set HB.out _⟩
        have h := (HO.out.stored k (I (m + (k : Int)))).1
        rw [over_set_int l m k hlt] at h
        show World.ownsRow _ _ _ _ _ _ _
        rw [show (marksI m (k + 1) ++ l.drop (k + 1)).length = l.length by rw [List.length_append, marksI_length, List.length_drop]; omega]
        exact h
      case measure => simp [intOf]; omega
    · have hk' : k = l.length := by omega
      subst hk'
      rw [List.drop_length, List.append_nil] at hown
      go_wp2
      go_ret
      exact ⟨rfl, hown, hbel⟩

set_option maxHeartbeats 1000000 in
theorem heldIntS_any (B : Nat) (A : Option Addr) (c n : Nat) (m : Int) (w : World) (hm : n ≤ 4000000) (hm0 : 0 ≤ m) (hm1 : m ≤ 100000000) (hr : Rd w B 1 A n ((marksI m n).map I)) :
    Calls Try.prog 17 #[.slice A n c, .int .i64 m] w fun e w' => e = .returned (.int .i64 (m + (n : Int))) ∧ w = w' := by
  have hr2 : Rd w B 1 A (marksI m n).length ((marksI m n).map I) := by rw [marksI_length]; exact hr
  have H := Lib.hid hr2
  clear hr hr2
  go_enter Try.func17, Try.ntmps17
  go_wp2
  go_loopw [1, 5] (fun kv iv wr => ∃ k : Nat, k ≤ n ∧ iv = .int .i64 k ∧ kv = .int .i64 (m + (k : Int)) ∧ w = wr) (fun _ i _ => n - (intOf i).toNat)
  case atStart => exact ⟨0, by omega, rfl, by simp, rfl⟩
  case round =>
    obtain ⟨k, hk, rfl, rfl, rfl⟩ := hrel
    by_cases hlt : k < n
    · obtain ⟨b, off, rfl, hb, hcell⟩ := H.out.int (show k < (marksI m n).length by rw [marksI_length]; exact hlt)
      have e : (marksI m n)[k]'(by rw [marksI_length]; exact hlt) = m + (k : Int) := by simp [marksI]
      rw [e] at hcell
      have ik : (k : Int) < (n : Int) := by omega
      go_wp2
      go_roundw
      case rel => exact ⟨k + 1, by omega, by go_num, by go_num, trivial⟩
      case measure => simp [intOf]; omega
    · have hk' : k = n := by omega
      subst hk'
      go_wp2
      go_ret
      exact ⟨rfl, rfl⟩
set_option maxRecDepth 100000 in
set_option maxHeartbeats 1000000 in
theorem markStepS_any (B : Nat) (A : Option Addr) (c : Nat) (s : List (Int × Int)) (m : Int) (w : World) (hm : s.length ≤ 4000000) (hm0 : 0 ≤ m) (hm1 : m ≤ 100000000) (hown : OwS w B (.slice A s.length c) s) :
    Calls Try.prog 49 #[.slice A s.length c, .int .i64 m] w fun e w' => e = .returned (.int .i64 (m + 2 * (s.length : Int))) ∧ OwS w' B (.slice A s.length c) (marksS m s.length) ∧ w.grownBy w' (Value.slice A s.length c).ownBlock := by
  have HOWN := Lib.hid hown
  clear hown
  go_enter Try.func49, Try.ntmps49
  go_wp2
  go_loopw [1, 5] (fun kv iv wr => ∃ k : Nat, k ≤ s.length ∧ iv = .int .i64 k ∧ kv = .int .i64 (m + 2 * (k : Int)) ∧ OwS wr B (.slice A s.length c) (marksS m k ++ s.drop k) ∧ w.grownBy wr (Value.slice A s.length c).ownBlock) (fun _ i _ => s.length - (intOf i).toNat)
  case atStart => exact ⟨0, by omega, rfl, by simp, HOWN.out, World.grownBy.refl _ _⟩
  case round =>
    obtain ⟨k, hk, rfl, rfl, hown, hbel⟩ := hrel
    have hll : (marksS m k ++ s.drop k).length = s.length := by rw [List.length_append, marksS_length, List.length_drop]; omega
    by_cases hlt : k < s.length
    · have ho : wr.ownsRow B 68 2 (.slice A s.length c) s.length (fl (marksS m k ++ s.drop k)) := by
        have h : wr.ownsRow _ _ _ _ _ _ := hown
        rw [hll] at h
        exact h
      obtain ⟨g, rfl, hgB, hgs, hcs, hfs⟩ := own_at ho (by omega)
      have hlt' : k < (marksS m k ++ s.drop k).length := by rw [hll]; exact hlt
      obtain ⟨v0, hv0⟩ : ∃ v, wr.cell? ⟨g, k * 2, none⟩ = some (.int .i64 v) := ⟨_, by rw [hcs _ (by omega)]; exact (fl_at hlt').1⟩
      obtain ⟨v1, hv1⟩ : ∃ v, wr.cell? ⟨g, k * 2 + 1, none⟩ = some (.int .i64 v) := ⟨_, by rw [hcs _ (by omega)]; exact (fl_at hlt').2⟩
      have hf0 := hfs (k * 2)
      have ho1 := (ho.stored (k * 2) (I (m + 2 * (k : Int)))).1
      have hf1 := ho1.frozenAt (k * 2 + 1)
      have hv2 : (wr.setCell ⟨g, k * 2, none⟩ (I (m + 2 * (k : Int)))).cell? ⟨g, k * 2 + 1, none⟩ = some (.int .i64 v1) := by
        rw [ho1.cellAt _ (by omega), List.getElem?_set_ne (by omega), ← hcs _ (by omega)]
        exact hv1
      have HO := Lib.hid ho1
      have HB := Lib.hid hbel
      clear ho ho1 hown hbel hcs hfs
      go_wp2
      go_roundw
      case rel =>
        refine ⟨k + 1, by omega, by go_num, by go_num, ?_, grown_set (grown_set HB.out _) _⟩
        have h := (HO.out.stored (k * 2 + 1) (I (m + 2 * (k : Int) + 1))).1
        rw [over_set_step s m k hlt] at h
        show World.ownsRow _ _ _ _ _ _ _
        rw [show (marksS m (k + 1) ++ s.drop (k + 1)).length = s.length by rw [List.length_append, marksS_length, List.length_drop]; omega]
        exact h
      case measure => simp [intOf]; omega
    · have hk' : k = s.length := by omega
      subst hk'
      rw [List.drop_length, List.append_nil] at hown
      go_wp2
      go_ret
      exact ⟨rfl, hown, hbel⟩

set_option maxHeartbeats 1000000 in
theorem heldStepS_any (B : Nat) (A : Option Addr) (c n : Nat) (m : Int) (w : World) (hm : n ≤ 4000000) (hm0 : 0 ≤ m) (hm1 : m ≤ 100000000) (hr : Rd w B 2 A n (fl (marksS m n))) :
    Calls Try.prog 50 #[.slice A n c, .int .i64 m] w fun e w' => e = .returned (.int .i64 (m + 2 * (n : Int))) ∧ w = w' := by
  have hr2 : Rd w B 2 A (marksS m n).length (fl (marksS m n)) := by rw [marksS_length]; exact hr
  have H := Lib.hid hr2
  clear hr hr2
  go_enter Try.func50, Try.ntmps50
  go_wp2
  go_loopw [1, 5] (fun kv iv wr => ∃ k : Nat, k ≤ n ∧ iv = .int .i64 k ∧ kv = .int .i64 (m + 2 * (k : Int)) ∧ w = wr) (fun _ i _ => n - (intOf i).toNat)
  case atStart => exact ⟨0, by omega, rfl, by simp, rfl⟩
  case round =>
    obtain ⟨k, hk, rfl, rfl, rfl⟩ := hrel
    by_cases hlt : k < n
    · obtain ⟨b, off, rfl, hb, hc1, hc2⟩ := H.out.stp (show k < (marksS m n).length by rw [marksS_length]; exact hlt)
      have e : (marksS m n)[k]'(by rw [marksS_length]; exact hlt) = (m + 2 * (k : Int), m + 2 * (k : Int) + 1) := by simp [marksS]
      rw [e] at hc1 hc2
      have ik : (k : Int) < (n : Int) := by omega
      go_wp2
      go_roundw
      case rel => exact ⟨k + 1, by omega, by go_num, by go_num, trivial⟩
      case measure => simp [intOf]; omega
    · have hk' : k = n := by omega
      subst hk'
      go_wp2
      go_ret
      exact ⟨rfl, rfl⟩

/-- Only blocks from lo on and before hi may have changed. -/
def Win (lo hi : Nat) (w w' : World) : Prop := Below lo w w' ∧ ∀ k, hi ≤ k → k < w.heap.size → w'.heap[k]? = w.heap[k]?
theorem Win.refl (lo hi : Nat) (w : World) : Win lo hi w w := ⟨Below.refl _ _, fun _ _ _ => rfl⟩
theorem Win.trans {lo hi : Nat} {a b c : World} (h : Win lo hi a b) (h' : Win lo hi b c) : Win lo hi a c :=
  ⟨h.1.trans h'.1, fun k h1 h2 => (h'.2 k h1 (Nat.lt_of_lt_of_le h2 h.1.size)).trans (h.2 k h1 h2)⟩
theorem Win.of_below {lo hi : Nat} {w w' : World} (h : Below w.heap.size w w') (hl : lo ≤ w.heap.size) : Win lo hi w w' := ⟨h.mono hl, fun k _ hk => h.block k hk⟩
theorem Win.of_grown {lo hi : Nat} {w w' : World} {row : Option Nat} (h : w.grownBy w' row) (hl : lo ≤ w.heap.size) (h1 : ∀ k, row = some k → lo ≤ k ∧ k < hi) : Win lo hi w w' :=
  ⟨⟨h.os, h.tape, h.output, h.size, fun k hk => h.block k (by omega) (fun e => by have := h1 k e.symm; omega)⟩, fun k h2 hk => h.block k hk (fun e => by have := h1 k e.symm; omega)⟩
theorem Win.own {lo hi B sz n : Nat} {e : TypeId} {w w' : World} {v : Value} {xs : List Value} (h : Win lo hi w w') (ho : w.ownsRow B e sz v n xs) (hB : hi ≤ B) : w'.ownsRow B e sz v n xs := by
  refine ⟨ho.1, ?_⟩
  rcases ho.2 with h0 | ⟨g, cap, cur, hv, hb, hg, r⟩
  · exact .inl h0
  · exact .inr ⟨g, cap, cur, hv, hb, by rw [h.2 g (by omega) (Array.getElem?_eq_some_iff.1 hg).1]; exact hg, r⟩

set_option maxRecDepth 100000 in
set_option maxHeartbeats 1000000 in
theorem markPlan_any (B hi : Nat) (A1 A2 : Option Addr) (c1 c2 : Nat) (p : Pl) (m : Int) (w : World) (h1 : p.s.length ≤ 1048576) (h2 : p.o.length ≤ 1048576) (hm0 : 0 ≤ m) (hm1 : m ≤ 10) (hB : B ≤ w.heap.size) (hhi : hi ≤ w.heap.size) (hown : OwP w B A1 A2 c1 c2 p)
    (hb1 : ∀ k, (Value.slice A1 p.s.length c1).ownBlock = some k → k < hi) (hb2 : ∀ k, (Value.slice A2 p.o.length c2).ownBlock = some k → k < hi) :
    Calls Try.prog 23 #[.agg #[.int .i64 p.n, .slice A1 p.s.length c1, .slice A2 p.o.length c2], .int .i64 m] w fun e w' =>
      e = .returned (.int .i64 (m + 2 * (p.s.length : Int) + (p.o.length : Int))) ∧ OwS w' B (.slice A1 p.s.length c1) (marksS m p.s.length) ∧ OwI w' B (.slice A2 p.o.length c2) (marksI (m + 2 * (p.s.length : Int)) p.o.length) ∧ Win B hi w w' := by
  have HOWN := Lib.hid hown
  have H1 := Lib.hid hb1
  have H2 := Lib.hid hb2
  clear hown hb1 hb2
  go_enter Try.func23, Try.ntmps23
  go_wp2_with fail
  go_at_call 49
  generalize hw1 : World.alloc w _ = w1
  obtain ⟨x0, x1, x2, xs, xb⟩ := box3 hw1
  clear hw1
  have hown1 := HOWN.out.below xb
  refine (markStepS_any B A1 c1 p.s m w1 (by omega) hm0 (by omega) hown1.1).mono ?_
  rintro e w2 ⟨rfl, ho2, hg2⟩
  have hne := own_ne hown1.2 hown1.1 (by decide)
  have ho2i := World.ownsRow.kept hown1.2 hg2 hne
  have hw2 : Win B hi w1 w2 := Win.of_grown hg2 (by omega) (fun k hk => ⟨(own_block hown1.1 k hk).1, H1.out k hk⟩)
  have y2 : w2.cell? ⟨w.heap.size, 2, none⟩ = some (.slice A2 p.o.length c2) := (World.cell?_of_block (hw2.2 w.heap.size (by omega) (by omega))).trans x2
  have HW2 := Lib.hid ((Win.of_below xb hB).trans hw2)
  have HO2 := Lib.hid ho2
  have HI2 := Lib.hid ho2i
  have hs2 : w.heap.size + 1 ≤ w2.heap.size := by have := hg2.size; omega
  clear x0 x1 x2 xs xb hown1 ho2 hg2 hne ho2i hw2
  go_wp2_with fail
  go_at_call 16
  refine (markIntS_any B A2 c2 p.o (m + 2 * (p.s.length : Int)) w2 (by omega) (by omega) (by omega) HI2.out).mono ?_
  rintro e w3 ⟨rfl, ho3, hg3⟩
  have hne := own_ne HO2.out HI2.out (by decide)
  have ho3s := World.ownsRow.kept HO2.out hg3 hne
  have hw3 : Win B hi w2 w3 := Win.of_grown hg3 (by omega) (fun k hk => ⟨(own_block HI2.out k hk).1, H2.out k hk⟩)
  have HW3 := Lib.hid (HW2.out.trans hw3)
  have HO3 := Lib.hid ho3
  have HS3 := Lib.hid ho3s
  clear ho3 hg3 hne ho3s hw3
  go_wp2
  go_ret
  exact ⟨rfl, HS3.out, HO3.out, HW3.out⟩

set_option maxRecDepth 100000 in
set_option maxHeartbeats 1000000 in
theorem heldPlan_any (B : Nat) (A1 A2 : Option Addr) (c1 c2 n1 n2 : Nat) (z m : Int) (w : World) (h1 : n1 ≤ 1048576) (h2 : n2 ≤ 1048576) (hm0 : 0 ≤ m) (hm1 : m ≤ 10) (hB : B ≤ w.heap.size) (hr1 : Rd w B 2 A1 n1 (fl (marksS m n1))) (hr2 : Rd w B 1 A2 n2 ((marksI (m + 2 * (n1 : Int)) n2).map I)) :
    Calls Try.prog 24 #[.agg #[.int .i64 z, .slice A1 n1 c1, .slice A2 n2 c2], .int .i64 m] w fun e w' =>
      e = .returned (.int .i64 (m + 2 * (n1 : Int) + (n2 : Int))) ∧ Below w.heap.size w w' := by
  have H1 := Lib.hid hr1
  have H2 := Lib.hid hr2
  clear hr1 hr2
  have hn1 : ¬ (m + 2 * (n1 : Int) < 0) := by omega
  have hn2 : ¬ (m + 2 * (n1 : Int) + (n2 : Int) < 0) := by omega
  go_enter Try.func24, Try.ntmps24
  go_wp2_with fail
  go_at_call 50
  generalize hw1 : World.alloc w _ = w1
  obtain ⟨x0, x1, x2, xs, xb⟩ := box3 hw1
  clear hw1
  refine (heldStepS_any B A1 c1 n1 m w1 (by omega) hm0 (by omega) (H1.out.below' xb hB)).mono ?_
  rintro e w2 ⟨rfl, rfl⟩
  have XB := Lib.hid xb
  clear xb
  go_wp2_with fail
  go_at_call 17
  refine (heldIntS_any B A2 c2 n2 (m + 2 * (n1 : Int)) w1 (by omega) (by omega) (by omega) (H2.out.below' XB.out hB)).mono ?_
  rintro e w3 ⟨rfl, rfl⟩
  go_wp2
  go_ret
  exact ⟨rfl, XB.out⟩
end Go.Proofs.Ytodjnafalbbmjaa
/- Small lemmas of the laws' walks. -/
namespace Go.Proofs.Ytodjnafalbbmjaa
open Go.RowKit
theorem eqI_refl (l : List Int) : eqI l l = true := by simp [eqI]
theorem bDrewN {B : Nat} {w w' : World} (h : Below B w w') (n : Nat) : Below B w (w'.drewN n) := h.trans ⟨rfl, rfl, rfl, Nat.le_refl _, fun _ _ => rfl⟩
theorem own_rd_marks {w : World} {B c n : Nat} {A : Option Addr} {m : Int} (h : OwI w B (.slice A n c) (marksI m n)) : Rd w w.heap.size 1 A n ((marksI m n).map I) := by
  have h' : w.ownsRow _ _ _ _ _ _ := h
  rw [marksI_length] at h'
  exact Rd.of_own h'
end Go.Proofs.Ytodjnafalbbmjaa
/- A plan that came in, opened; the frame of a proof of a law over plans. -/
namespace Go.Proofs.Ytodjnafalbbmjaa
open Go.ChangeShapes Go.WideShapes Go.ChangeAt Go.RowKit Go.Deep Go.Joins

theorem spot_none {w : World} {a : Addr} {v : Value} (h : w.cell? a = some v) : a.spot = none := by
  unfold World.cell? at h
  split at h
  · split at h
    · cases h
    · rename_i hs; simpa using hs
  · cases h
theorem addr_form {w : World} {a : Addr} {v : Value} (h : w.cell? a = some v) : a = ⟨a.block, a.off, none⟩ := by
  have := spot_none h
  cases a
  simp_all
theorem add_form (b off j : Nat) : (⟨b, off, none⟩ : Addr).add j = ⟨b, off + j, none⟩ := by
  unfold Addr.add
  split <;> simp_all

section
variable {H : Type} {enc : TypeId × Value → H} {W : World} {base : Nat} {spare : Nat → Bool} {held : Bool}

set_option maxRecDepth 100000 in
/-- A slice of integers that came in. -/
theorem open_ints_rd {fuel : Nat} {x0 : Value} {x : DataW H × List MemPlace} (h : DataW.trod enc Try.prog W base spare held fuel 22 [x0] = some x) :
    ∃ (A : Option Addr) (c : Nat) (l : List Int), x0 = .slice A l.length c ∧ l.length ≤ maxLen ∧ Rd W W.heap.size 1 A l.length (l.map I) := by
  rcases open_ints Try.underlying22 Try.underlying3 (by kernel_rfl) h with ⟨hcs, _⟩ | ⟨a, len, cap, zs, hcs, _, hl, hm, hz, _, hc, _⟩
  · simp only [List.cons.injEq, and_true] at hcs
    exact ⟨none, 0, [], hcs, by simp [maxLen], Rd.nil _ _ _ _⟩
  · simp only [List.cons.injEq, and_true] at hcs
    have hlen : (zs.take len).length = len := by
      rw [List.length_take]
      split at hz <;> omega
    refine ⟨some a, cap, zs.take len, by rw [hlen]; exact hcs, by omega, ?_⟩
    rw [hlen]
    refine ⟨by rw [List.length_map, hlen]; omega, fun hn => ?_⟩
    have hzl : len ≤ zs.length := by split at hz <;> omega
    have h0 := hc 0 (by omega)
    have e0 : a.add 0 = a := by unfold Addr.add; simp
    rw [e0] at h0
    refine ⟨a.block, a.off, by rw [← addr_form h0], World.block_lt_of_cell? _ _ h0, fun j hj => ?_⟩
    have hj' : j < len := by omega
    have h1 := hc j (by omega)
    rw [addr_form h0, add_form] at h1
    have hjz : j < zs.length := by omega
    rw [h1]
    simp [I, hj', hjz]

end

theorem own : ownKnob Try.prog.godebug = none := by kernel_rfl
theorem laidOut : laidOutB Try.prog = true := by kernel_rfl
end Go.Proofs.Ytodjnafalbbmjaa
/- Small lemmas of the laws' walks, of plans that are answered. -/
namespace Go.Proofs.Ytodjnafalbbmjaa
open Go.ChangeShapes Go.WideShapes Go.ChangeAt Go.RowKit Go.Deep Go.Joins
theorem own_rd_marksS {w : World} {B c n : Nat} {A : Option Addr} {m : Int} (h : OwS w B (.slice A n c) (marksS m n)) : Rd w w.heap.size 2 A n (fl (marksS m n)) := by
  have h' : w.ownsRow _ _ _ _ _ _ := h
  rw [marksS_length] at h'
  exact Rd.of_own h'
set_option maxRecDepth 100000 in
theorem open_list {H : Type} {enc : TypeId × Value → H} {W : World} {base : Nat} {spare : Nat → Bool} {held : Bool} {v : Value} {d : DataW H} {p : List MemPlace} {b0 : Nat} {r : Reach} (hv : Value.okWide Try.prog W r b0 22 v) (h : DataW.Trod enc Try.prog W base spare held 22 v d p) :
    ∃ (A : Option Addr) (c : Nat) (l : List Int), v = .slice A l.length c ∧ l.length ≤ 9223372036854775807 ∧ Rd W W.heap.size 1 A l.length (l.map I) := by
  obtain ⟨A0, n0, c0, rfl⟩ := okWide_slice Try.underlying22 hv
  obtain ⟨fuel, hf⟩ := h
  obtain ⟨A, c, l, e, h1, h2⟩ := open_ints_rd hf
  exact ⟨A, c, l, e, by unfold maxLen at h1; exact h1, h2⟩
end Go.Proofs.Ytodjnafalbbmjaa
/- Small lemmas of the laws over lists. -/
namespace Go.Proofs.Ytodjnafalbbmjaa
open Go.ChangeShapes Go.WideShapes Go.ChangeAt Go.RowKit Go.Deep Go.Joins
theorem OwI.cap {w : World} {B c n : Nat} {A : Option Addr} {l : List Int} (h : OwI w B (.slice A n c) l) : l.length ≤ c := by
  obtain ⟨A', c', e, hc⟩ := own_form h
  simp only [Value.slice.injEq] at e
  obtain ⟨_, _, rfl⟩ := e
  exact hc
/-- Two rows, the one made behind the other, lie apart. -/
theorem own_apart {w0 w : World} {B B' sz sz' n n' : Nat} {e e' : TypeId} {v v' : Value} {xs xs' : List Value} (h : w0.ownsRow B e sz v n xs) (h' : w.ownsRow B' e' sz' v' n' xs') (hB : w0.heap.size ≤ B') : v'.ownBlock = none ∨ v'.ownBlock ≠ v.ownBlock := by
  cases hv : v'.ownBlock with
  | none => exact .inl rfl
  | some k =>
    right
    intro hh
    have h1 := (own_block h' k hv).1
    have h2 := (own_block h k hh.symm).2
    omega
end Go.Proofs.Ytodjnafalbbmjaa
/- The program's sums of a number. -/
namespace Go.Proofs.Ytodjnafalbbmjaa
open Go.RowKit

theorem Rd.take {w : World} {B : Nat} {A : Option Addr} {l : List Int} (h : Rd w B 1 A l.length (l.map I)) {n : Nat} (hn : n ≤ l.length) : Rd w B 1 A n ((l.take n).map I) := by
  refine ⟨by simp; omega, fun h0 => ?_⟩
  obtain ⟨b, off, e, hb, hc⟩ := h.2 (by omega)
  refine ⟨b, off, e, hb, fun j hj => ?_⟩
  rw [hc j (by omega), List.map_take, List.getElem?_take]
  simp [show j < n by omega]
theorem asc_take {l : List Int} (h : Asc l) (n : Nat) : Asc (l.take n) := by
  intro i j hij hj
  rw [List.length_take] at hj
  have e : ∀ t, t < n → t < l.length → (l.take n).getD t 0 = l.getD t 0 := fun t h1 h2 => by simp [h1, h2]
  rw [e i (by omega) (by omega), e j (by omega) (by omega)]
  exact h i j hij (by omega)

end Go.Proofs.Ytodjnafalbbmjaa
/- Whether a list is a chain, and its steps, by the program. -/
namespace Go.Proofs.Ytodjnafalbbmjaa
open Go.RowKit

/-- The steps that are answered: of no chain none. -/
def chS (l : List Int) : List (Int × Int) := if chG l then stepsK l l.length else []
theorem chS_true {l : List Int} (h : chG l = true) : chS l = stepsK l l.length := by unfold chS; rw [if_pos h]
theorem chS_false {l : List Int} (h : chG l = false) : chS l = [] := by unfold chS; rw [h]; rfl
theorem chS_le (l : List Int) : (chS l).length ≤ 1000 := by
  unfold chS
  split
  · rename_i h
    rw [stepsK_length]
    have := (chG_chn h).most
    omega
  · simp
theorem may_false {l : List Int} {k : Nat} (hk : k + 1 < l.length) (h : l.getD (k + 1) 0 ≤ l.getD k 0) : chB l = false := by
  unfold chB
  rw [risB_false (l := l) (lo := 1) (hi := 1000000) (k := k + 1) l.length hk (by
    rw [show k + 1 - 1 = k from rfl]
    have h1 : decide (l.getD k 0 < l.getD (k + 1) 0) = false := by rw [decide_eq_false_iff_not]; omega
    rw [h1]
    simp), Bool.and_false]
theorem may_end {l : List Int} (h1 : 1 ≤ l.length) (h2 : l.length ≤ 41) (h3 : l.getD 0 0 = 1) (h : ∀ i, i + 1 < l.length → l.getD i 0 < l.getD (i + 1) 0) : chB l = decide (l.getD (l.length - 1) 0 ≤ 1000000) := by
  have hup : ∀ j, j < l.length → ∀ i, i ≤ j → l.getD i 0 ≤ l.getD j 0 := by
    intro j
    induction j with
    | zero => intro _ i hi; rw [show i = 0 by omega]; exact Int.le_refl _
    | succ j ih =>
      intro hj i hi
      rcases Nat.lt_or_eq_of_le hi with hi | rfl
      · have := ih (by omega) i (by omega)
        have := h j hj
        omega
      · exact Int.le_refl _
  by_cases hle : l.getD (l.length - 1) 0 ≤ 1000000
  · rw [decide_eq_true hle]
    unfold chB
    rw [risB_of l.length (fun i hi => ⟨by have := hup i hi 0 (by omega); rw [h3] at this; exact this, by have := hup (l.length - 1) (by omega) i (by omega); omega⟩) h, h3]
    unfold inB
    rw [decide_eq_true (show (1 : Int) ≤ ((l.length : Nat) : Int) by omega), decide_eq_true (show ((l.length : Nat) : Int) ≤ 41 by omega)]
    rfl
  · rw [decide_eq_false hle]
    unfold chB
    rw [risB_false (l := l) (lo := 1) (hi := 1000000) (k := l.length - 1) l.length (by omega) (by
      unfold inB
      rw [decide_eq_false hle]
      simp), Bool.and_false]

end Go.Proofs.Ytodjnafalbbmjaa
/- The library's bit length, at this program. -/
namespace Go.Proofs.Ytodjnafalbbmjaa
open Go.Shelf
def bitsLays_ren : Go.Shelf.Ren := ⟨fun | 125 => 124 | 128 => 126 | 129 => 127 | n => n, fun | 46 => 140 | 3 => 3 | 51 => 99 | 53 => 143 | 4 => 4 | 5 => 5 | 9 => 9 | n => n, fun | n => n⟩
theorem bitsLays : Go.Proofs.Lays.n125 Try.prog bitsLays_ren := {
  mixed := by kernel_rfl
  f125 := Try.func124.trans (congrArg some (by kernel_rfl))
  f128 := Try.func126.trans (congrArg some (by kernel_rfl))
  f129 := Try.func127.trans (congrArg some (by kernel_rfl))
  t3 := Try.underlying3
  a3 := Try.isAgg3
  z3 := Try.sizeOf3
  v3 := Try.zeroValue3
  t4 := Try.underlying4
  a4 := Try.isAgg4
  z4 := Try.sizeOf4
  v4 := Try.zeroValue4
  t5 := Try.underlying5
  a5 := Try.isAgg5
  z5 := Try.sizeOf5
  v5 := Try.zeroValue5
  t9 := Try.underlying9
  a9 := Try.isAgg9
  z9 := Try.sizeOf9
  v9 := Try.zeroValue9
  t46 := Try.underlying140
  a46 := Try.isAgg140
  z46 := Try.sizeOf140
  v46 := Try.zeroValue140
  t51 := Try.underlying99
  a51 := Try.isAgg99
  z51 := Try.sizeOf99
  v51 := Try.zeroValue99
  t53 := Try.underlying143
  a53 := Try.isAgg143
  z53 := Try.sizeOf143
  v53 := Try.zeroValue143 }
theorem bitsLen_any (x : Int) (w : World) (h0 : 0 ≤ x) (h1 : x ≤ 18446744073709551615) :
    Calls Try.prog 124 #[.int .u64 x] w fun e w' => e = .returned (.int .i64 (Lib.bitLen x.toNat)) ∧ w' = w := Any.bits_Len bitsLays x w h0 h1
end Go.Proofs.Ytodjnafalbbmjaa
/- Bit lengths. -/
namespace Go.Proofs.Ytodjnafalbbmjaa
open Go.RowKit

def bl (n : Int) : Nat := Lib.bitLen n.toNat
theorem bl_more {n : Nat} {b : Nat} (hn : n ≤ 1000000) (h : 2 ^ b ≤ n) : b + 1 ≤ Lib.bitLen n := by
  rw [Lib.bitLen_shift b n h (by omega)]
  have h1 : n / 2 ^ b ≠ 0 := by
    have := Nat.div_pos h (Nat.two_pow_pos b)
    omega
  have h2 : n / 2 ^ b ≤ n := Nat.div_le_self _ _
  rw [Lib.bitLen_half (n / 2 ^ b) h1 (by omega)]
  omega
theorem bl_bd {n : Nat} (hn : n ≤ 1000000) : Lib.bitLen n ≤ 20 := Lib.bitLen_le n 20 (by omega) (by omega)

def isNum (n : Int) : Bool := inB n 1 1000000
def bitN (n : Int) : Int := if isNum n then (bl n : Int) else 0
theorem bitN_true {n : Int} (h : isNum n = true) : bitN n = bl n := by unfold bitN; rw [if_pos h]
theorem bitN_false {n : Int} (h : isNum n = false) : bitN n = 0 := by unfold bitN; rw [h]; rfl
theorem isNum_rng {n : Int} (h : isNum n = true) : 1 ≤ n ∧ n ≤ 1000000 := by
  unfold isNum inB at h
  simpa using h

theorem chNumber_any (n : Int) (w : World) : Calls Try.prog 39 #[.int .i64 n] w fun e w' => e = .returned (.bool (isNum n)) ∧ w = w' := by
  go_enter Try.func39, Try.ntmps39
  go_wp2_with (go_at_call 40; refine (l1In_any _ _ _ _).mono ?_; rintro e w' ⟨rfl, rfl⟩)
  go_ret
  exact ⟨rfl, rfl⟩
theorem isExponent_any (n : Int) (w : World) : Calls Try.prog 42 #[.int .i64 n] w fun e w' => e = .returned (.bool (isNum n)) ∧ w = w' := by
  by_cases h1 : 1 ≤ n <;> by_cases h2 : n ≤ 1000000
  all_goals
    go_enter Try.func42, Try.ntmps42
    go_wp2
    go_ret
    exact ⟨ret_bool (by simp [isNum, inB, h1, h2]), rfl⟩

end Go.Proofs.Ytodjnafalbbmjaa
/- Lists that are answered if they are chains; copies of lists. -/
namespace Go.Proofs.Ytodjnafalbbmjaa
open Go.RowKit

/-- A list that is answered if b. -/
def selL (b : Bool) (l : List Int) : List Int := if b then l else []
theorem selL_true {b : Bool} {l : List Int} (h : b = true) : selL b l = l := by unfold selL; rw [if_pos h]
theorem selL_false {b : Bool} {l : List Int} (h : b = false) : selL b l = [] := by unfold selL; rw [h]; rfl
theorem selL_le {b : Bool} {l : List Int} (h : b = true → chG l = true) : (selL b l).length ≤ 1000 := by
  cases b with
  | false => simp [selL]
  | true => have := (chG_chn (h rfl)).most; rw [selL_true rfl]; omega
theorem and_chG {b : Bool} {l : List Int} (h : (b && chG l) = true) : chG l = true := by simp only [Bool.and_eq_true] at h; exact h.2

theorem eq_nil_I (A : Option Addr) (n c : Nat) (W : World) : (binOp .eql 22 (.slice A n c) (.slice none 0 0)).run Try.prog W = .ok (.bool A.isNone) W := by
  simp only [binOp]
  simp [run_equal_slice_nil W 22 3 A n c Try.underlying22]
theorem Rd.addr {w : World} {B : Nat} {A : Option Addr} {l : List Int} (h : Rd w B 1 A l.length (l.map I)) (h0 : 0 < l.length) : ∃ a, A = some a := by
  obtain ⟨b, off, e, _⟩ := h.2 (by omega)
  exact ⟨_, e⟩
set_option maxRecDepth 100000 in
set_option maxHeartbeats 1000000 in
theorem cloneI_any (B : Nat) (A : Option Addr) (c : Nat) (l : List Int) (w : World) (hm : l.length ≤ 1000000) (h0 : 0 < l.length) (hB : B ≤ w.heap.size) (hr : Rd w B 1 A l.length (l.map I)) :
    Calls Try.prog 139 #[.slice A l.length c] w fun e w' => ∃ A' c', e = .returned (.slice A' l.length c') ∧ OwI w' w.heap.size (.slice A' l.length c') l ∧ Below w.heap.size w w' := by
  obtain ⟨ad, rfl⟩ := hr.addr h0
  have H := Lib.hid hr
  clear hr
  have hnil := fun W => eq_nil_I (some ad) l.length c W
  go_enter Try.func139, Try.ntmps139
  go_wp2_with (first
    | (at_builtin; refine list_step (fun K hK => ?_); refine step_appM Try.underlying22 info_int rfl (by omega) (by omega) rfl (.tmp 5) (.tmp 6) rfl w.heap.size 0 _ [] rfl (own_empty 1 (Nat.le_refl _)) _ l.length c (l.map I) rfl (H.out.alloc hB _) (ints_one l) (by omega) (by simp) ?_; intro A2 c2 w2 hown2 hg2 hbel2; go_simp; refine hK _ _ ?_; clear hK K))
  go_ret
  simp only [Nat.zero_add, List.nil_append] at hown2
  exact ⟨A2, c2, by simp, hown2, ((Below.refl _ _).alloc (Nat.le_refl _) _).trans hbel2⟩
end Go.Proofs.Ytodjnafalbbmjaa
