/- Joined: Qm Qa Qb Qc Qd Qe Qf Qg Uv Kb Kd Ta Tb Pa Gi Ci Rn Jc Jf Jg Jh Jz Pb Pc. -/
import Derived.Test.YtlkieebmfmiafabPF0
import Derived.Test.YtlkieebmfmiafabPF1
import Derived.Lib.AppendZeros
import Derived.Lib.AppendZerosOnto
import Derived.OrdersIn
import Derived.TacticsIn
import Derived.Shelf.RegionOpen
/- Chains as data: strictly rising lists, the sums of a number, the steps of a chain. -/
namespace Go.Proofs.Ytlkieebmfmiafab

/-- Strictly rising. -/
def Asc (l : List Int) : Prop := ∀ i j, i < j → j < l.length → l.getD i 0 < l.getD j 0
/-- What a sum of the number k with the greater index j is: index i. -/
def prsI (l : List Int) (k j n : Nat) : List (Int × Int) := ((List.range n).filter fun i : Nat => l.getD i 0 + l.getD j 0 == l.getD k 0).map fun i : Nat => ((i : Int), (j : Int))
def prsJ (l : List Int) (k j : Nat) : List (Int × Int) := prsI l k j (j + 1)
def prs (l : List Int) (k m : Nat) : List (Int × Int) := (List.range m).flatMap (prsJ l k)

theorem prsI_zero (l : List Int) (k j : Nat) : prsI l k j 0 = [] := rfl
theorem prsI_hit {l : List Int} {k j n : Nat} (h : l.getD n 0 + l.getD j 0 = l.getD k 0) : prsI l k j (n + 1) = prsI l k j n ++ [((n : Int), (j : Int))] := by
  unfold prsI
  have e : (l.getD n 0 + l.getD j 0 == l.getD k 0) = true := by simpa only [beq_iff_eq] using h
  rw [List.range_succ, List.filter_append, List.map_append]
  simp only [List.filter_cons, List.filter_nil, e]
  rfl
theorem prsI_miss {l : List Int} {k j n : Nat} (h : ¬ l.getD n 0 + l.getD j 0 = l.getD k 0) : prsI l k j (n + 1) = prsI l k j n := by
  unfold prsI
  have e : (l.getD n 0 + l.getD j 0 == l.getD k 0) = false := by simpa only [beq_eq_false_iff_ne] using h
  rw [List.range_succ, List.filter_append, List.map_append]
  simp only [List.filter_cons, List.filter_nil, e]
  simp
theorem prs_zero (l : List Int) (k : Nat) : prs l k 0 = [] := rfl
theorem prs_succ (l : List Int) (k m : Nat) : prs l k (m + 1) = prs l k m ++ prsJ l k m := by
  unfold prs
  rw [List.range_succ, List.flatMap_append]
  simp
theorem prsI_le (l : List Int) (k j n : Nat) : (prsI l k j n).length ≤ n := by
  unfold prsI
  rw [List.length_map]
  exact Nat.le_trans (List.length_filter_le _ _) (by simp)

theorem take_succ_getD {l : List Int} {k : Nat} (hk : k < l.length) : l.take (k + 1) = l.take k ++ [l.getD k 0] := by
  rw [List.take_succ_eq_append_getElem hk]
  simp [hk]
theorem mem_take_getD {l : List Int} {k : Nat} {x : Int} (hk : k ≤ l.length) : x ∈ l.take k ↔ ∃ i, i < k ∧ l.getD i 0 = x := by
  rw [List.mem_iff_getElem]
  constructor
  · rintro ⟨i, hi, rfl⟩
    have h1 : i < k := by rw [List.length_take] at hi; omega
    refine ⟨i, h1, ?_⟩
    rw [List.getElem_take]
    simp [show i < l.length by omega]
  · rintro ⟨i, hi, rfl⟩
    refine ⟨i, by rw [List.length_take]; omega, ?_⟩
    rw [List.getElem_take]
    simp [show i < l.length by omega]
/-- In a strictly rising list the index of x is the number of lesser numbers. -/
theorem count_at {l : List Int} {x : Int} : ∀ m, m ≤ l.length →
    (∀ i, i < m → l.getD i 0 < x) → (l.take m).countP (fun y => decide (y < x)) = m := by
  intro m
  induction m with
  | zero => intro _ _; rfl
  | succ m ih =>
    intro hm h
    rw [take_succ_getD (by omega), List.countP_append, ih (by omega) (fun i hi => h i (by omega))]
    have e2 : decide (l.getD m 0 < x) = true := by simpa only [decide_eq_true_eq] using h m (by omega)
    simp only [List.countP_cons, List.countP_nil, e2]
    simp
theorem find_eq {l : List Int} (ha : Asc l) (x : Int) : ∀ m, m ≤ l.length →
    ((List.range m).filter fun i => l.getD i 0 == x) = if x ∈ l.take m then [(l.take m).countP (fun y => decide (y < x))] else [] := by
  intro m
  induction m with
  | zero => intro _; simp
  | succ m ih =>
    intro hm
    rw [List.range_succ, List.filter_append, ih (by omega), take_succ_getD (by omega)]
    by_cases hx : l.getD m 0 = x
    · have hnot : ¬ x ∈ l.take m := by
        rw [mem_take_getD (by omega)]
        rintro ⟨i, hi, he⟩
        have := ha i m hi (by omega)
        omega
      have hc : (l.take m).countP (fun y => decide (y < x)) = m := count_at m (by omega) fun i hi => by have := ha i m hi (by omega); omega
      rw [if_neg hnot, List.countP_append, hc]
      rw [if_pos (by rw [hx]; simp)]
      have e1 : (l.getD m 0 == x) = true := by simpa using hx
      have e2 : decide (l.getD m 0 < x) = false := by simp only [decide_eq_false_iff_not]; omega
      simp only [List.filter_cons, List.filter_nil, e1, List.countP_cons, List.countP_nil, e2]
      simp
    · by_cases hin : x ∈ l.take m
      · rw [if_pos hin, if_pos (List.mem_append_left _ hin), List.countP_append]
        obtain ⟨i, hi, he⟩ := (mem_take_getD (by omega)).1 hin
        have := ha i m hi (by omega)
        have h1 : ¬ l.getD m 0 < x := by omega
        have h2 : (l.getD m 0 == x) = false := by simpa using hx
        simp only [List.filter_cons, h2, List.countP_cons, List.countP_nil, h1, List.filter_nil]
        simp
      · have h2 : (l.getD m 0 == x) = false := by simpa using hx
        have hnot : ¬ x ∈ l.take m ++ [l.getD m 0] := by
          intro h
          rcases List.mem_append.1 h with h | h
          · exact hin h
          · exact hx (List.mem_singleton.1 h).symm
        rw [if_neg hin, if_neg hnot]
        simp only [List.filter_cons, h2, List.filter_nil]
        simp
theorem prsJ_eq {l : List Int} (ha : Asc l) (k j : Nat) (hj : j < l.length) :
    prsJ l k j = if l.getD k 0 - l.getD j 0 ∈ l.take (j + 1) then [((((l.take (j + 1)).countP (fun y => decide (y < l.getD k 0 - l.getD j 0)) : Nat) : Int), (j : Int))] else [] := by
  unfold prsJ prsI
  have e : (fun i : Nat => l.getD i 0 + l.getD j 0 == l.getD k 0) = fun i : Nat => l.getD i 0 == l.getD k 0 - l.getD j 0 := by
    funext i
    rw [Bool.eq_iff_iff]
    simp only [beq_iff_eq]
    omega
  rw [e, find_eq ha _ (j + 1) (by omega)]
  split <;> rfl
theorem prsJ_le {l : List Int} (ha : Asc l) (k j : Nat) (hj : j < l.length) : (prsJ l k j).length ≤ 1 := by
  rw [prsJ_eq ha k j hj]
  split <;> simp
theorem prs_le {l : List Int} (ha : Asc l) (k : Nat) : ∀ m, m ≤ l.length → (prs l k m).length ≤ m := by
  intro m
  induction m with
  | zero => intro _; simp [prs_zero]
  | succ m ih =>
    intro h
    rw [prs_succ, List.length_append]
    have := ih (by omega)
    have := prsJ_le ha k m (by omega)
    omega
/-- The parts of a sum: 0 ≤ A ≤ B < m. -/
theorem prs_mem {l : List Int} {k : Nat} : ∀ m, ∀ p ∈ prs l k m, ∃ i j : Nat, p = ((i : Int), (j : Int)) ∧ i ≤ j ∧ j < m ∧ l.getD i 0 + l.getD j 0 = l.getD k 0 := by
  intro m
  induction m with
  | zero => intro p hp; simp [prs_zero] at hp
  | succ m ih =>
    intro p hp
    rw [prs_succ] at hp
    rcases List.mem_append.1 hp with h | h
    · obtain ⟨i, j, e, h1, h2, h3⟩ := ih p h
      exact ⟨i, j, e, h1, by omega, h3⟩
    · unfold prsJ prsI at h
      simp only [List.mem_map, List.mem_filter, List.mem_range, beq_iff_eq] at h
      obtain ⟨i, ⟨hi, he⟩, rfl⟩ := h
      exact ⟨i, m, rfl, by omega, by omega, he⟩

/-- Rising, and within lo..hi, up to index k. -/
def risB (l : List Int) (lo hi : Int) (k : Nat) : Bool := (List.range k).all fun i => inB (l.getD i 0) lo hi && (decide (i = 0) || decide (l.getD (i - 1) 0 < l.getD i 0))
theorem risB_succ (l : List Int) (lo hi : Int) (k : Nat) : risB l lo hi (k + 1) = (risB l lo hi k && (inB (l.getD k 0) lo hi && (decide (k = 0) || decide (l.getD (k - 1) 0 < l.getD k 0)))) := by
  unfold risB
  rw [List.range_succ, List.all_append]
  simp
theorem risB_false {l : List Int} {lo hi : Int} {k : Nat} (n : Nat) (hk : k < n) (h : (inB (l.getD k 0) lo hi && (decide (k = 0) || decide (l.getD (k - 1) 0 < l.getD k 0))) = false) : risB l lo hi n = false := by
  unfold risB
  rw [List.all_eq_false]
  exact ⟨k, List.mem_range.2 hk, by rw [h]; simp⟩
theorem risB_asc {l : List Int} {lo hi : Int} : ∀ n, risB l lo hi n = true → n ≤ l.length → (∀ i, i < n → lo ≤ l.getD i 0 ∧ l.getD i 0 ≤ hi) ∧ ∀ i j, i < j → j < n → l.getD i 0 < l.getD j 0 := by
  intro n
  induction n with
  | zero => intro _ _; exact ⟨fun i h => absurd h (by omega), fun i j _ h => absurd h (by omega)⟩
  | succ n ih =>
    intro h hn
    rw [risB_succ] at h
    simp only [Bool.and_eq_true, Bool.or_eq_true, decide_eq_true_eq, inB] at h
    obtain ⟨h1, ⟨h2, h3⟩, h4⟩ := h
    obtain ⟨i1, i2⟩ := ih h1 (by omega)
    refine ⟨fun i hi => ?_, fun i j hij hj => ?_⟩
    · rcases Nat.lt_or_eq_of_le (Nat.le_of_lt_succ hi) with h | rfl
      · exact i1 i h
      · exact ⟨h2, h3⟩
    · rcases Nat.lt_or_eq_of_le (Nat.le_of_lt_succ hj) with h | rfl
      · exact i2 i j hij h
      · rcases h4 with h4 | h4
        · omega
        · rcases Nat.lt_or_eq_of_le (Nat.le_sub_one_of_lt hij) with h5 | rfl
          · have := i2 i (j - 1) h5 (by omega)
            omega
          · exact h4
/-- All of a chain but the sums. -/
def chB (l : List Int) : Bool := inB (l.length : Nat) 1 41 && (l.getD 0 0 == 1) && risB l 1 1000000 l.length
def sumsB (l : List Int) (k : Nat) : Bool := (List.range k).all fun i => decide (i = 0) || !(prs l i i).isEmpty
def chG (l : List Int) : Bool := chB l && sumsB l l.length
theorem sumsB_succ (l : List Int) (k : Nat) : sumsB l (k + 1) = (sumsB l k && (decide (k = 0) || !(prs l k k).isEmpty)) := by
  unfold sumsB
  rw [List.range_succ, List.all_append]
  simp
theorem sumsB_false {l : List Int} {k : Nat} (n : Nat) (hk : k < n) (h0 : k ≠ 0) (h : prs l k k = []) : sumsB l n = false := by
  unfold sumsB
  rw [List.all_eq_false]
  exact ⟨k, List.mem_range.2 hk, by simp [h, h0]⟩
/-- The last sum of each number from 1 to k - 1. -/
def stepsK (l : List Int) (k : Nat) : List (Int × Int) := (List.range (k - 1)).map fun i => (prs l (i + 1) (i + 1)).getLastD (0, 0)
theorem stepsK_succ (l : List Int) (k : Nat) (hk : 1 ≤ k) : stepsK l (k + 1) = stepsK l k ++ [(prs l k k).getLastD (0, 0)] := by
  unfold stepsK
  rw [show k + 1 - 1 = (k - 1) + 1 by omega, List.range_succ, List.map_append]
  simp [show k - 1 + 1 = k by omega]
theorem stepsK_length (l : List Int) (k : Nat) : (stepsK l k).length = k - 1 := by simp [stepsK]
theorem stepsK_one (l : List Int) : stepsK l 1 = [] := rfl

structure Chn (l : List Int) : Prop where
  pos : 1 ≤ l.length
  most : l.length ≤ 41
  one : l.getD 0 0 = 1
  rng : ∀ i, i < l.length → 1 ≤ l.getD i 0 ∧ l.getD i 0 ≤ 1000000
  asc : Asc l
theorem chn_of {l : List Int} (h : chB l = true) : Chn l := by
  unfold chB at h
  simp only [Bool.and_eq_true, inB, decide_eq_true_eq, beq_iff_eq] at h
  obtain ⟨⟨⟨h1, h2⟩, h3⟩, h4⟩ := h
  obtain ⟨h5, h6⟩ := risB_asc l.length h4 (Nat.le_refl _)
  exact ⟨by omega, by omega, h3, h5, h6⟩
theorem risB_of {l : List Int} {lo hi : Int} : ∀ n, (∀ i, i < n → lo ≤ l.getD i 0 ∧ l.getD i 0 ≤ hi) → (∀ i, i + 1 < n → l.getD i 0 < l.getD (i + 1) 0) → risB l lo hi n = true := by
  intro n
  induction n with
  | zero => intro _ _; rfl
  | succ n ih =>
    intro h1 h2
    rw [risB_succ, ih (fun i hi => h1 i (by omega)) (fun i hi => h2 i (by omega))]
    have := h1 n (by omega)
    simp only [Bool.true_and, Bool.and_eq_true, Bool.or_eq_true, decide_eq_true_eq, inB]
    refine ⟨this, ?_⟩
    rcases Nat.eq_zero_or_pos n with h | h
    · exact .inl h
    · right
      have := h2 (n - 1) (by omega)
      rwa [show n - 1 + 1 = n by omega] at this
theorem chn_chB {l : List Int} (h : Chn l) : chB l = true := by
  have h3 := h.one
  have h1 := h.pos
  have h2 := h.most
  unfold chB
  rw [risB_of l.length h.rng fun i hi => h.asc i (i + 1) (by omega) hi]
  simp only [Bool.and_true, Bool.and_eq_true, inB, decide_eq_true_eq, beq_iff_eq]
  exact ⟨⟨by omega, by omega⟩, h3⟩
theorem chG_chn {l : List Int} (h : chG l = true) : Chn l := chn_of (by unfold chG at h; simp only [Bool.and_eq_true] at h; exact h.1)
theorem chG_sums {l : List Int} (h : chG l = true) : ∀ k, 1 ≤ k → k < l.length → prs l k k ≠ [] := by
  intro k h1 h2 he
  unfold chG at h
  rw [sumsB_false l.length h2 (by omega) he] at h
  simp at h
theorem getLastD_snoc {α : Type} (l : List α) (a d : α) : (l ++ [a]).getLastD d = a := by simp
theorem last_form {l : List (Int × Int)} (h : l ≠ []) : l.getLastD (0, 0) = l[l.length - 1]'(by have := List.length_pos_iff.2 h; omega) := by
  rw [List.getLastD_eq_getLast?, List.getLast?_eq_getElem?]
  have := List.length_pos_iff.2 h
  simp [show l.length - 1 < l.length by omega]
end Go.Proofs.Ytlkieebmfmiafab
/- The model's small functions of chains: rising lists, the sums of a number. -/
namespace Go.Proofs.Ytlkieebmfmiafab
open Go.RowKit

/-- The cell of element k. -/
theorem Rd.intD {w : World} {B : Nat} {A : Option Addr} {l : List Int} (h : Rd w B 1 A l.length (l.map I)) {k : Nat} (hk : k < l.length) :
    ∃ b off, A = some ⟨b, off, none⟩ ∧ b < B ∧ w.cell? ⟨b, off + k, none⟩ = some (.int .i64 (l.getD k 0)) := by
  obtain ⟨b, off, e, hb, hc⟩ := h.int hk
  exact ⟨b, off, e, hb, by rw [hc]; simp [hk]⟩
/-- All cells of a list that is not empty. -/
theorem Rd.cells {w : World} {B : Nat} {A : Option Addr} {l : List Int} (h : Rd w B 1 A l.length (l.map I)) (h0 : 0 < l.length) :
    ∃ b off, A = some ⟨b, off, none⟩ ∧ b < B ∧ ∀ k, k < l.length → w.cell? ⟨b, off + k, none⟩ = some (.int .i64 (l.getD k 0)) := by
  obtain ⟨b, off, e, hb, hc⟩ := h.2 (by omega)
  refine ⟨b, off, e, hb, fun k hk => ?_⟩
  rw [hc k (by omega)]
  simp [I, hk]

end Go.Proofs.Ytlkieebmfmiafab
/- The model's sums of a number of a list. -/
namespace Go.Proofs.Ytlkieebmfmiafab
open Go.RowKit

theorem OwS.nil (w : World) (B : Nat) : OwS w B (.slice none 0 0) [] := World.ownsRow_nil _ _ _ _
theorem OwS.below {w w' : World} {B : Nat} {v : Value} {s : List (Int × Int)} (h : OwS w B v s) (hb : Below w.heap.size w w') : OwS w' B v s := own_below h hb
theorem OwS.base {w : World} {B B' : Nat} {v : Value} {s : List (Int × Int)} (h : OwS w B v s) (hB : B' ≤ B) : OwS w B' v s := own_base h hB
theorem OwS.rd {w : World} {B : Nat} {A : Option Addr} {c : Nat} {s : List (Int × Int)} (h : OwS w B (.slice A s.length c) s) : Rd w w.heap.size 2 A s.length (fl s) := Rd.of_own h

end Go.Proofs.Ytlkieebmfmiafab
/- Whether a list is a chain, and its steps, by the model. -/
namespace Go.Proofs.Ytlkieebmfmiafab
open Go.RowKit

theorem sumsB_one (l : List Int) : sumsB l 1 = true := rfl
theorem isEmpty_ne {α : Type} {l : List α} (h : l ≠ []) : l.isEmpty = false := by cases l with | nil => exact absurd rfl h | cons => rfl

end Go.Proofs.Ytlkieebmfmiafab
/- The steps of a chain, by the model. -/
namespace Go.Proofs.Ytlkieebmfmiafab
open Go.RowKit

/-- The last element of an own row of steps. -/
theorem OwS.last {w : World} {B : Nat} {A : Option Addr} {c q : Nat} {P : List (Int × Int)} (h : OwS w B (.slice A (q + 1) c) P) (hq : P.length = q + 1) :
    ∃ g x y, A = some ⟨g, 0, none⟩ ∧ B ≤ g ∧ g < w.heap.size ∧ w.cell? ⟨g, q * 2, none⟩ = some (.int .i64 x) ∧ w.cell? ⟨g, q * 2 + 1, none⟩ = some (.int .i64 y) ∧ P.getLastD (0, 0) = (x, y) := by
  unfold OwS at h
  rw [hq] at h
  obtain ⟨g, rfl, hB, hg, hc, _⟩ := own_at h (by omega)
  have hlt : q < P.length := by omega
  obtain ⟨f1, f2⟩ := fl_at hlt
  refine ⟨g, P[q].1, P[q].2, rfl, hB, hg, by rw [hc _ (by omega), f1], by rw [hc _ (by omega), f2], ?_⟩
  have hne : P ≠ [] := by intro h; rw [h] at hq; simp at hq
  rw [last_form hne]
  simp [hq]

end Go.Proofs.Ytlkieebmfmiafab
/- The program's search in a rising list, and the sums of a number. -/
namespace Go.Proofs.Ytlkieebmfmiafab
open Go.RowKit

/-- How many numbers of the list are less than x. -/
def cnt (l : List Int) (x : Int) : Nat := l.countP fun y => decide (y < x)
theorem cnt_at {l : List Int} {x : Int} {i : Nat} (hi : i ≤ l.length) (h1 : ∀ t, t < i → l.getD t 0 < x) (h2 : ∀ t, i ≤ t → t < l.length → x ≤ l.getD t 0) : cnt l x = i := by
  unfold cnt
  rw [← List.take_append_drop i l, List.countP_append, count_at i hi h1]
  have : (l.drop i).countP (fun y => decide (y < x)) = 0 := by
    rw [List.countP_eq_zero]
    intro y hy
    obtain ⟨j, hj, rfl⟩ := List.mem_iff_getElem.1 hy
    rw [List.length_drop] at hj
    have := h2 (i + j) (by omega) (by omega)
    rw [List.getElem_drop]
    simp only [decide_eq_true_eq]
    have e : l.getD (i + j) 0 = l[i + j]'(by omega) := by simp [show i + j < l.length by omega]
    omega
  omega
theorem mem_at {l : List Int} (ha : Asc l) {x : Int} {i : Nat} (hi : i ≤ l.length) (h1 : ∀ t, t < i → l.getD t 0 < x) (h2 : ∀ t, i ≤ t → t < l.length → x ≤ l.getD t 0) : decide (x ∈ l) = decide (i < l.length ∧ l.getD i 0 = x) := by
  rw [decide_eq_decide]
  have e := mem_take_getD (l := l) (k := l.length) (x := x) (Nat.le_refl _)
  rw [List.take_length] at e
  rw [e]
  constructor
  · rintro ⟨j, hj, rfl⟩
    rcases Nat.lt_trichotomy j i with h | rfl | h
    · have := h1 j h; omega
    · exact ⟨hj, rfl⟩
    · have := h2 i (Nat.le_refl _) (by omega)
      have := ha i j h hj
      omega
  · rintro ⟨h, rfl⟩
    exact ⟨i, h, rfl⟩
theorem asc_le {l : List Int} (ha : Asc l) {i j : Nat} (h : i ≤ j) (hj : j < l.length) : l.getD i 0 ≤ l.getD j 0 := by
  rcases Nat.lt_or_eq_of_le h with h | rfl
  · exact Int.le_of_lt (ha i j h hj)
  · exact Int.le_refl _

end Go.Proofs.Ytlkieebmfmiafab
/- The program's sums of a number. -/
namespace Go.Proofs.Ytlkieebmfmiafab
open Go.RowKit

theorem Rd.take {w : World} {B : Nat} {A : Option Addr} {l : List Int} (h : Rd w B 1 A l.length (l.map I)) {n : Nat} (hn : n ≤ l.length) : Rd w B 1 A n ((l.take n).map I) := by
  refine ⟨by simp; omega, fun h0 => ?_⟩
  obtain ⟨b, off, e, hb, hc⟩ := h.2 (by omega)
  refine ⟨b, off, e, hb, fun j hj => ?_⟩
  rw [hc j (by omega), List.map_take, List.getElem?_take]
  simp [show j < n by omega]
theorem asc_take {l : List Int} (h : Asc l) (n : Nat) : Asc (l.take n) := by
  intro i j hij hj
  rw [List.length_take] at hj
  have e : ∀ t, t < n → t < l.length → (l.take n).getD t 0 = l.getD t 0 := fun t h1 h2 => by simp [h1, h2]
  rw [e i (by omega) (by omega), e j (by omega) (by omega)]
  exact h i j hij (by omega)

end Go.Proofs.Ytlkieebmfmiafab
/- Whether a list is a chain, and its steps, by the program. -/
namespace Go.Proofs.Ytlkieebmfmiafab
open Go.RowKit

/-- The steps that are answered: of no chain none. -/
def chS (l : List Int) : List (Int × Int) := if chG l then stepsK l l.length else []
theorem chS_true {l : List Int} (h : chG l = true) : chS l = stepsK l l.length := by unfold chS; rw [if_pos h]
theorem chS_false {l : List Int} (h : chG l = false) : chS l = [] := by unfold chS; rw [h]; rfl
theorem chS_le (l : List Int) : (chS l).length ≤ 1000 := by
  unfold chS
  split
  · rename_i h
    rw [stepsK_length]
    have := (chG_chn h).most
    omega
  · simp
theorem may_false {l : List Int} {k : Nat} (hk : k + 1 < l.length) (h : l.getD (k + 1) 0 ≤ l.getD k 0) : chB l = false := by
  unfold chB
  rw [risB_false (l := l) (lo := 1) (hi := 1000000) (k := k + 1) l.length hk (by
    rw [show k + 1 - 1 = k from rfl]
    have h1 : decide (l.getD k 0 < l.getD (k + 1) 0) = false := by rw [decide_eq_false_iff_not]; omega
    rw [h1]
    simp), Bool.and_false]
theorem may_end {l : List Int} (h1 : 1 ≤ l.length) (h2 : l.length ≤ 41) (h3 : l.getD 0 0 = 1) (h : ∀ i, i + 1 < l.length → l.getD i 0 < l.getD (i + 1) 0) : chB l = decide (l.getD (l.length - 1) 0 ≤ 1000000) := by
  have hup : ∀ j, j < l.length → ∀ i, i ≤ j → l.getD i 0 ≤ l.getD j 0 := by
    intro j
    induction j with
    | zero => intro _ i hi; rw [show i = 0 by omega]; exact Int.le_refl _
    | succ j ih =>
      intro hj i hi
      rcases Nat.lt_or_eq_of_le hi with hi | rfl
      · have := ih (by omega) i (by omega)
        have := h j hj
        omega
      · exact Int.le_refl _
  by_cases hle : l.getD (l.length - 1) 0 ≤ 1000000
  · rw [decide_eq_true hle]
    unfold chB
    rw [risB_of l.length (fun i hi => ⟨by have := hup i hi 0 (by omega); rw [h3] at this; exact this, by have := hup (l.length - 1) (by omega) i (by omega); omega⟩) h, h3]
    unfold inB
    rw [decide_eq_true (show (1 : Int) ≤ ((l.length : Nat) : Int) by omega), decide_eq_true (show ((l.length : Nat) : Int) ≤ 41 by omega)]
    rfl
  · rw [decide_eq_false hle]
    unfold chB
    rw [risB_false (l := l) (lo := 1) (hi := 1000000) (k := l.length - 1) l.length (by omega) (by
      unfold inB
      rw [decide_eq_false hle]
      simp), Bool.and_false]

/-- The last number of a list. -/
theorem endOf_any (B : Nat) (A : Option Addr) (c : Nat) (l : List Int) (w : World) (h1 : 1 ≤ l.length) (hl : l.length ≤ 1048576) (hr : Rd w B 1 A l.length (l.map I)) :
    Calls Try.prog 42 #[.slice A l.length c] w fun e w' => e = .returned (.int .i64 (l.getD (l.length - 1) 0)) ∧ w' = w := by
  obtain ⟨b, off, rfl, hbB, hc⟩ := hr.cells (by omega)
  have c1 := hc (l.length - 1) (by omega)
  obtain ⟨N, hN⟩ : ∃ N, l.length = N + 1 := ⟨l.length - 1, by omega⟩
  have hsub : IntKind.i64.wrap ((l.length : Int) - 1) = (N : Int) := by rw [IntWalk.i64_in _ (by omega)]; omega
  rw [show l.length - 1 = N by omega] at c1 ⊢
  have i1 : (N : Int) < (l.length : Int) := by omega
  obtain ⟨y, hy⟩ : ∃ y, l.getD N 0 = y := ⟨_, rfl⟩
  rw [hy] at c1 ⊢
  clear hc hr hy hN
  go_enter Try.func42, Try.ntmps42
  go_wp2
  go_ret
  exact ⟨rfl, rfl⟩

end Go.Proofs.Ytlkieebmfmiafab
/- UsedSteps and IsTrim, of the model and of the program. -/
namespace Go.Proofs.Ytlkieebmfmiafab
open Go.RowKit

def usdP (p : Pl) : List Int := if good p then usd p.n.toNat p.s p.o else []
def trimB (p : Pl) : Bool := good p && decide ((usdP p).length = p.s.length)
theorem usdP_len (p : Pl) : (usdP p).length ≤ 40 := by
  unfold usdP
  split
  · rename_i h
    obtain ⟨N, hN, _, _, h40, _⟩ := good_facts h
    have := us_len p.n.toNat p.s p.o p.s.length
    unfold usd
    omega
  · simp

theorem rows_len {p : Pl} {N : Nat} (hN : p.n = N) : ((exps p.n.toNat p.s).map (pad p.n.toNat)).length = N + p.s.length := by
  rw [List.length_map, exps_length]
  omega
theorem box5 {w w1 : World} {a b c d : Value} {t : TypeId} (h : w.alloc (.cells #[a, b, c, d] t) = w1) : w1.heap.size = w.heap.size + 1 ∧ Below w.heap.size w w1 := (box4 h).2.2.2.2

end Go.Proofs.Ytlkieebmfmiafab
/- A plan with only some steps, in an order: the model's. -/
namespace Go.Proofs.Ytlkieebmfmiafab
open Go.RowKit

/-- Three stores into a plan's box. -/
theorem own_set3 {w : World} {g B sz n : Nat} {t e : TypeId} {v : Value} {xs : List Value} {cs : Array Value} (h : w.ownsRow B e sz v n xs) (hg : w.heap[g]? = some (.cells cs t (0, 0))) (ht : t ≠ e) (a b c : Value) :
    (((w.setCell ⟨g, 0, none⟩ a).setCell ⟨g, 1, none⟩ b).setCell ⟨g, 2, none⟩ c).ownsRow B e sz v n xs := by
  have h1 := own_set (o := 0) h hg ht a
  have k1 := heap_setCell_same w g 0 _ t a hg
  have h2 := own_set (o := 1) h1 k1 ht b
  have k2 := heap_setCell_same _ g 1 _ t b k1
  exact own_set (o := 2) h2 k2 ht c

end Go.Proofs.Ytlkieebmfmiafab
/- A plan with only some steps, in an order: the program's. -/
namespace Go.Proofs.Ytlkieebmfmiafab
open Go.RowKit

def nmOk (N : Nat) (t : List Int) (v : Int) : Bool := decide (v < N) || hasI t (v - N)
def nmI (N : Nat) (t : List Int) (v : Int) : Int := if v < N then v else if hasI t (v - N) then N + plc t (v - N) 0 else -1
def nmT (N m : Nat) (t : List Int) : List Int := (List.range (N + m)).map fun v : Nat => nmI N t (v : Int)
theorem nmT_length (N m : Nat) (t : List Int) : (nmT N m t).length = N + m := by simp [nmT]
theorem nmT_at (N m : Nat) (t : List Int) {v : Nat} (hv : v < N + m) : (nmT N m t)[v]'(by rw [nmT_length]; exact hv) = nmI N t (v : Int) := by simp [nmT]
theorem nm_bad {N : Nat} {t : List Int} {v : Int} (h : nmOk N t v = false) : nmI N t v = -1 := by
  unfold nmOk at h
  rw [Bool.or_eq_false_iff, decide_eq_false_iff_not] at h
  unfold nmI
  rw [if_neg h.1, if_neg (by rw [h.2]; decide)]
theorem nm_good {N : Nat} {l : List Int} {k : Nat} {v : Int} (h : nmOk N (l.take k) v = true) : nmI N (l.take k) v = numI N l v := by
  unfold nmOk at h
  unfold nmI numI
  by_cases hv : v < N
  · rw [if_pos hv, if_pos hv]
  · have h2 : hasI (l.take k) (v - N) = true := by
      rw [Bool.or_eq_true, decide_eq_true_eq] at h
      rcases h with h | h
      · exact absurd h hv
      · exact h
    rw [if_neg hv, if_neg hv, if_pos h2]
    have e := plc_app (l.take k) (l.drop k) (v - N) 0
    rw [List.take_append_drop, h2] at e
    rw [e]
    rfl
theorem nm_nonneg {N : Nat} {l : List Int} {v : Int} (h0 : 0 ≤ v) {k : Nat} (h : nmOk N (l.take k) v = true) : 0 ≤ numI N l v := by
  rw [← nm_good h]
  unfold nmOk at h
  unfold nmI
  by_cases hv : v < N
  · rw [if_pos hv]; exact h0
  · have h2 : hasI (l.take k) (v - N) = true := by
      rw [Bool.or_eq_true, decide_eq_true_eq] at h
      rcases h with h | h
      · exact absurd h hv
      · exact h
    rw [if_neg hv, if_pos h2]
    have := plc_nonneg h2 0
    omega
theorem nm_set {N m n k : Nat} {t : List Int} (ht : hasI t (n : Int) = false) (hk : t.length = k) : (nmT N m t).set (N + n) ((N : Int) + (k : Int)) = nmT N m (t ++ [(n : Int)]) := by
  apply List.ext_getElem?
  intro j
  by_cases hj : j < N + m
  · rw [show (nmT N m (t ++ [(n : Int)]))[j]? = some (nmI N (t ++ [(n : Int)]) (j : Int)) by simp [nmT, hj]]
    by_cases hjn : N + n = j
    · subst hjn
      rw [List.getElem?_set_self (by rw [nmT_length]; exact hj)]
      unfold nmI
      have e1 : ((N + n : Nat) : Int) - (N : Int) = (n : Int) := by omega
      have e2 : hasI (t ++ [(n : Int)]) (n : Int) = true := by simp [hasI]
      rw [if_neg (by omega), e1, if_pos e2, plc_app, ht]
      simp [plc, hk]
    · rw [List.getElem?_set_ne hjn, show (nmT N m t)[j]? = some (nmI N t (j : Int)) by simp [nmT, hj]]
      unfold nmI
      by_cases hjN : (j : Int) < (N : Int)
      · rw [if_pos hjN, if_pos hjN]
      · have e2 : hasI (t ++ [(n : Int)]) ((j : Int) - (N : Int)) = hasI t ((j : Int) - (N : Int)) := by
          unfold hasI
          rw [Bool.eq_iff_iff]
          simp
          omega
        rw [if_neg hjN, if_neg hjN, e2]
        by_cases hh : hasI t ((j : Int) - (N : Int)) = true
        · rw [if_pos hh, if_pos hh, plc_app, if_pos hh]
        · rw [if_neg hh, if_neg hh]
  · rw [List.getElem?_eq_none (by rw [List.length_set, nmT_length]; omega), List.getElem?_eq_none (by rw [nmT_length]; omega)]
theorem nm_start (N m : Nat) : ups N ++ List.replicate m (-1 : Int) = nmT N m [] := by
  apply List.ext_getElem?
  intro j
  by_cases hj : j < N + m
  · rw [show (nmT N m [])[j]? = some (nmI N [] (j : Int)) by simp [nmT, hj]]
    by_cases hjN : j < N
    · rw [List.getElem?_append_left (by rw [ups_length]; exact hjN)]
      have : (j : Int) < (N : Int) := by omega
      simp [ups, hjN, nmI, this]
    · rw [List.getElem?_append_right (by rw [ups_length]; omega), ups_length, List.getElem?_replicate, if_pos (by omega)]
      have : ¬ (j : Int) < (N : Int) := by omega
      simp [nmI, this, hasI]
  · rw [List.getElem?_eq_none (by simp [ups_length]; omega), List.getElem?_eq_none (by rw [nmT_length]; omega)]

def stepAt (p : Pl) (l : List Int) (i : Nat) : Int × Int := p.s.getD (l.getD i 0).toNat (0, 0)
def kOk (N : Nat) (p : Pl) (l : List Int) (k : Nat) : Bool := (List.range k).all fun i => nmOk N (l.take i) (stepAt p l i).1 && nmOk N (l.take i) (stepAt p l i).2
theorem stepAt_eq {p : Pl} {l : List Int} {k n : Nat} (hk : k < l.length) (hn : l[k] = (n : Int)) (hns : n < p.s.length) : stepAt p l k = p.s[n] := by
  unfold stepAt
  have : l.getD k 0 = (n : Int) := by simp [hk, hn]
  rw [this]
  simp [hns]
theorem kOk_succ (N : Nat) (p : Pl) (l : List Int) (k : Nat) : kOk N p l (k + 1) = (kOk N p l k && (nmOk N (l.take k) (stepAt p l k).1 && nmOk N (l.take k) (stepAt p l k).2)) := by
  unfold kOk
  rw [List.range_succ, List.all_append]
  simp
theorem kOk_false {N : Nat} {p : Pl} {l : List Int} {k : Nat} (hk : k < l.length) (h : (nmOk N (l.take k) (stepAt p l k).1 && nmOk N (l.take k) (stepAt p l k).2) = false) : kOk N p l l.length = false := by
  unfold kOk
  rw [List.all_eq_false]
  exact ⟨k, by simpa using hk, by rw [h]; decide⟩
def KeepPost (p : Pl) (N : Nat) (l : List Int) (w : World) (e : Ending) (w' : World) : Prop :=
  Below w.heap.size w w' ∧ (if kOk N p l l.length = true then ∃ B1 B2 d1 d2, e = .returned (.tuple #[.agg #[.int .i64 (N : Int), .slice B1 l.length d1, .slice B2 p.o.length d2], .bool true]) ∧ OwS w' w.heap.size (.slice B1 l.length d1) (keepS p N l l.length) ∧ OwI w' w.heap.size (.slice B2 p.o.length d2) (keepO p N l p.o.length)
    else e = .returned (.tuple #[.agg #[.int .i64 0, .slice none 0 0, .slice none 0 0], .bool false]))
theorem keepPost_none {p : Pl} {N : Nat} {l : List Int} {w w' : World} (h : kOk N p l l.length = false) (hb : Below w.heap.size w w') : KeepPost p N l w (.returned (.tuple #[.agg #[.int .i64 0, .slice none 0 0, .slice none 0 0], .bool false])) w' :=
  ⟨hb, by rw [if_neg (by rw [h]; decide)]⟩
theorem has_take_nodup {l : List Int} (hnd : l.Nodup) {k : Nat} (hk : k < l.length) : hasI (l.take k) l[k] = false := by
  unfold hasI
  simp only [List.contains_eq_mem, decide_eq_false_iff_not]
  intro hmem
  obtain ⟨i, hi, he⟩ := List.mem_iff_getElem.1 hmem
  rw [List.getElem_take] at he
  have hik : i < k := by simp at hi; omega
  have := (List.nodup_iff_pairwise_ne.1 hnd)
  rw [List.pairwise_iff_getElem] at this
  exact this i k (by omega) hk hik he

/-- A store into a row of another type. -/
theorem own_store_other {w : World} {B B' sz sz' n n' g o c' : Nat} {e e' : TypeId} {v : Value} {xs xs' : List Value} (h : w.ownsRow B e sz v n xs) (h' : w.ownsRow B' e' sz' (.slice (some ⟨g, 0, none⟩) n' c') n' xs') (hne : e' ≠ e) (u : Value) :
    (w.setCell ⟨g, o, none⟩ u).ownsRow B e sz v n xs := by
  rcases h'.2 with ⟨hv, _⟩ | ⟨g', cap, cur, hv, _, hg', _⟩
  · injection hv with hv _ _
    cases hv
  · injection hv with hv _ _
    injection hv with hv
    injection hv with hv _ _
    subst hv
    exact own_set h hg' hne u

end Go.Proofs.Ytlkieebmfmiafab
/- Trimmed plans: used steps are kept with all that they need. -/
namespace Go.Proofs.Ytlkieebmfmiafab
open Go.RowKit

theorem need_mono {N : Nat} {s : List (Int × Int)} {o : List Int} {x : Int} {j : Nat} : ∀ d, hasI (needI N s o j) x = true → hasI (needI N s o (j + d)) x = true := by
  intro d
  induction d with
  | zero => intro h; exact h
  | succ d ih =>
    intro h
    have ih := ih h
    show hasI (needI N s o (j + d + 1)) x = true
    simp only [needI]
    split
    · rw [hasI_two, ih]; rfl
    · exact ih
theorem usd_mem {N : Nat} {s : List (Int × Int)} {o : List Int} {x : Int} : x ∈ usd N s o ↔ ∃ i : Nat, i < s.length ∧ finI N s o i = true ∧ x = i := by
  unfold usd usT
  simp only [List.mem_map, List.mem_filter, List.mem_range'_1]
  constructor
  · rintro ⟨i, ⟨h1, h2⟩, rfl⟩
    exact ⟨i, by omega, h2, rfl⟩
  · rintro ⟨i, h1, h2, rfl⟩
    exact ⟨i, ⟨by omega, h2⟩, rfl⟩
theorem usd_sorted (N : Nat) (s : List (Int × Int)) (o : List Int) : (usd N s o).Pairwise (· < ·) := by
  unfold usd usT
  rw [List.pairwise_map]
  refine List.Pairwise.filter _ ?_
  refine List.Pairwise.imp ?_ (List.pairwise_lt_range' (s := s.length - s.length) (n := s.length) (step := 1))
  intro a b h
  omega
theorem usd_nodup (N : Nat) (s : List (Int × Int)) (o : List Int) : (usd N s o).Nodup := by
  rw [List.nodup_iff_pairwise_ne]
  exact List.Pairwise.imp (fun h => by omega) (usd_sorted N s o)
theorem take_of_lt {l : List Int} (hs : l.Pairwise (· < ·)) {k : Nat} (hk : k < l.length) {x : Int} (hx : x ∈ l) (hlt : x < l[k]) : hasI (l.take k) x = true := by
  unfold hasI
  simp only [List.contains_eq_mem, decide_eq_true_eq]
  obtain ⟨i, hi, rfl⟩ := List.mem_iff_getElem.1 hx
  rw [List.pairwise_iff_getElem] at hs
  have hik : i < k := by
    rcases Nat.lt_or_ge i k with h | h
    · exact h
    · exfalso
      rcases Nat.lt_or_eq_of_le h with h | h
      · have := hs k i hk hi h; omega
      · subst h; omega
  exact List.mem_iff_getElem.2 ⟨i, by simp; omega, by rw [List.getElem_take]⟩
theorem fin_of_has {N : Nat} {s : List (Int × Int)} {o : List Int} {x : Int} {j : Nat} (hj : j ≤ s.length) (h : hasI (needI N s o j) x = true) {i : Nat} (hx : x = (N : Int) + (i : Int)) : finI N s o i = true := by
  unfold finI
  rw [← hx]
  have := need_mono (s.length - j) h
  rwa [show j + (s.length - j) = s.length by omega] at this
theorem usd_cover {N : Nat} {s : List (Int × Int)} {o : List Int} (hout : ∀ x ∈ o, 0 ≤ x ∧ x < (N : Int) + s.length) : ∀ x ∈ o, nmOk N (usd N s o) x = true := by
  intro x hx
  obtain ⟨h1, h2⟩ := hout x hx
  unfold nmOk
  rw [Bool.or_eq_true, decide_eq_true_eq]
  by_cases hv : x < N
  · exact .inl hv
  · right
    have h0 : hasI (needI N s o 0) x = true := by
      unfold hasI
      simp [needI, hx]
    have hf := fin_of_has (by omega) h0 (i := (x - N).toNat) (by omega)
    unfold hasI
    simp only [List.contains_eq_mem, decide_eq_true_eq]
    exact usd_mem.2 ⟨(x - N).toNat, by omega, hf, by omega⟩
theorem usd_ok {N : Nat} {p : Pl} (hs : OkS N p.s) : kOk N p (usd N p.s p.o) (usd N p.s p.o).length = true := by
  unfold kOk
  rw [List.all_eq_true]
  intro k hk
  have hk : k < (usd N p.s p.o).length := by simpa using hk
  obtain ⟨n, hn, hf, he⟩ := usd_mem.1 (List.getElem_mem hk)
  obtain ⟨s1, s2, s3⟩ := hs n hn
  rw [stepAt_eq hk he hn]
  have hj : p.s.length - 1 - n < p.s.length := by omega
  have hat := fin_at (o := p.o) hs hj (i := n) (by omega)
  rw [hf] at hat
  have hneed := need_hit (o := p.o) hn (j := p.s.length - 1 - n) (by omega) hat.symm
  have one : ∀ v : Int, 0 ≤ v → v < N + n → hasI (needI N p.s p.o (p.s.length - 1 - n + 1)) v = true → nmOk N ((usd N p.s p.o).take k) v = true := by
    intro v h0 hv hh
    unfold nmOk
    rw [Bool.or_eq_true, decide_eq_true_eq]
    by_cases hvN : v < N
    · exact .inl hvN
    · right
      have hf2 := fin_of_has (by omega) hh (i := (v - N).toNat) (by omega)
      have hm : (v - N) ∈ usd N p.s p.o := usd_mem.2 ⟨(v - N).toNat, by omega, hf2, by omega⟩
      exact take_of_lt (usd_sorted _ _ _) hk hm (by rw [he]; omega)
  rw [Bool.and_eq_true]
  exact ⟨one _ s1 (by omega) (by rw [hneed, hasI_two]; simp), one _ (by omega) (by omega) (by rw [hneed, hasI_two]; simp)⟩
end Go.Proofs.Ytlkieebmfmiafab
/- TrimPlan, of the model and of the program. -/
namespace Go.Proofs.Ytlkieebmfmiafab
open Go.RowKit

def zeroP : Pl := ⟨0, [], []⟩
def trimR (p : Pl) : Pl := if good p then ⟨p.n, keepS p p.n.toNat (usd p.n.toNat p.s p.o) (usd p.n.toNat p.s p.o).length, keepO p p.n.toNat (usd p.n.toNat p.s p.o) p.o.length⟩ else zeroP
theorem trimR_good {p : Pl} {N : Nat} (h : good p = true) (hN : p.n = N) : trimR p = ⟨p.n, keepS p N (usd N p.s p.o) (usd N p.s p.o).length, keepO p N (usd N p.s p.o) p.o.length⟩ := by
  have : p.n.toNat = N := by omega
  unfold trimR
  rw [if_pos h, this]
theorem trimR_bad {p : Pl} (h : good p = false) : trimR p = zeroP := by
  unfold trimR
  rw [if_neg (by rw [h]; decide)]
theorem trimR_len (p : Pl) : (trimR p).s.length ≤ 1000 ∧ (trimR p).o.length ≤ 1000 := by
  cases h : good p with
  | false => rw [trimR_bad h]; simp [zeroP]
  | true =>
    obtain ⟨N, hN, _, _, h40, ho6, _⟩ := good_facts h
    rw [trimR_good h hN]
    have := us_len N p.s p.o p.s.length
    simp only
    rw [keepS_len p N _ (Nat.le_refl _), keepO_len p N _ (Nat.le_refl _)]
    unfold usd
    omega
theorem usd_in {N : Nat} {s : List (Int × Int)} {o : List Int} : ∀ x ∈ usd N s o, 0 ≤ x ∧ x < (s.length : Int) := by
  intro x hx
  obtain ⟨i, h1, _, rfl⟩ := usd_mem.1 hx
  omega
/-- Boxes of a plan that came in and of a plan that is answered. -/
theorem boxes2 {w w2 : World} {a b c : Value} {t : TypeId} (h : (w.alloc (.cells #[a, b, c] t)).alloc (.cells #[.int .i64 0, .slice none 0 0, .slice none 0 0] 25) = w2) :
    w2.heap[w.heap.size]? = some (.cells #[a, b, c] t (0, 0)) ∧ w2.heap[w.heap.size + 1]? = some (.cells #[.int .i64 0, .slice none 0 0, .slice none 0 0] 25 (0, 0)) ∧ w2.heap.size = w.heap.size + 2 ∧ Below w.heap.size w w2 := by
  subst h
  refine ⟨?_, ?_, by simp, ((Below.refl _ _).alloc (Nat.le_refl _) _).alloc (by simp) _⟩
  · rw [Below.heap_alloc _ _ _ (by simp)]; exact heap_alloc_new w _
  · have := heap_alloc_new (w.alloc (.cells #[a, b, c] t)) (.cells #[.int .i64 0, .slice none 0 0, .slice none 0 0] 25)
    simpa using this
theorem cells3 {w : World} {g : Nat} {a b c : Value} {t : TypeId} (h : w.heap[g]? = some (.cells #[a, b, c] t (0, 0))) :
    w.cell? ⟨g, 0, none⟩ = some a ∧ w.cell? ⟨g, 1, none⟩ = some b ∧ w.cell? ⟨g, 2, none⟩ = some c ∧ w.frozen? ⟨g, 0, none⟩ = false ∧ w.frozen? ⟨g, 1, none⟩ = false ∧ w.frozen? ⟨g, 2, none⟩ = false := by
  refine ⟨?_, ?_, ?_, frozen_of_row w _ 0 _ _ h, frozen_of_row w _ 1 _ _ h, frozen_of_row w _ 2 _ _ h⟩
  · rw [cell_of_row w _ 0 _ _ (0, 0) h]; rfl
  · rw [cell_of_row w _ 1 _ _ (0, 0) h]; rfl
  · rw [cell_of_row w _ 2 _ _ (0, 0) h]; rfl
theorem OwP.zero (w : World) (B : Nat) : OwP w B none none 0 0 zeroP := ⟨World.ownsRow_nil _ _ _ _, World.ownsRow_nil _ _ _ _⟩

theorem owP_of3 {w : World} {g B n m : Nat} {B1 B2 : Option Addr} {d1 d2 : Nat} {s : List (Int × Int)} {o : List Int} {z : Int} {t : TypeId} {cs : Array Value} (h : OwS w B (.slice B1 n d1) s) (h' : OwI w B (.slice B2 m d2) o) (hg : w.heap[g]? = some (.cells cs t (0, 0)))
    (ht : t ≠ 78) (ht' : t ≠ 3) (hn : s.length = n) (hm : o.length = m) (a b c : Value) :
    OwP (((w.setCell ⟨g, 0, none⟩ a).setCell ⟨g, 1, none⟩ b).setCell ⟨g, 2, none⟩ c) B B1 B2 d1 d2 ⟨z, s, o⟩ := by
  subst hn
  subst hm
  exact ⟨own_set3 h hg ht a b c, own_set3 h' hg ht' a b c⟩

end Go.Proofs.Ytlkieebmfmiafab
/- PickOutputs: what both sides answer; the model's. -/
namespace Go.Proofs.Ytlkieebmfmiafab
open Go.RowKit

theorem boxes2b {w w2 : World} {a b c : Value} {t : TypeId} (h : (w.alloc (.cells #[a, b, c] t)).alloc (.cells #[.int .i64 0, .slice none 0 0, .slice none 0 0] 25) = w2) :
    w2.heap[w.heap.size]? = some (.cells #[a, b, c] t (0, 0)) ∧ w2.heap[w.heap.size + 1]? = some (.cells #[.int .i64 0, .slice none 0 0, .slice none 0 0] 25 (0, 0)) ∧ w2.heap.size = w.heap.size + 2 ∧ Below w.heap.size w w2 := by
  subst h
  refine ⟨?_, ?_, by simp, ((Below.refl _ _).alloc (Nat.le_refl _) _).alloc (by simp) _⟩
  · rw [Below.heap_alloc _ _ _ (by simp)]; exact heap_alloc_new w _
  · have := heap_alloc_new (w.alloc (.cells #[a, b, c] t)) (.cells #[.int .i64 0, .slice none 0 0, .slice none 0 0] 25)
    simpa using this
theorem cells3b {w : World} {g : Nat} {a b c : Value} {t : TypeId} (h : w.heap[g]? = some (.cells #[a, b, c] t (0, 0))) :
    w.cell? ⟨g, 0, none⟩ = some a ∧ w.cell? ⟨g, 1, none⟩ = some b ∧ w.cell? ⟨g, 2, none⟩ = some c ∧ w.frozen? ⟨g, 0, none⟩ = false ∧ w.frozen? ⟨g, 1, none⟩ = false ∧ w.frozen? ⟨g, 2, none⟩ = false := by
  refine ⟨?_, ?_, ?_, frozen_of_row w _ 0 _ _ h, frozen_of_row w _ 1 _ _ h, frozen_of_row w _ 2 _ _ h⟩
  · rw [cell_of_row w _ 0 _ _ (0, 0) h]; rfl
  · rw [cell_of_row w _ 1 _ _ (0, 0) h]; rfl
  · rw [cell_of_row w _ 2 _ _ (0, 0) h]; rfl
def selV (b : Bool) (x y : Value) : Value := if b then x else y
def zeroQ : Pl := ⟨0, [], []⟩
theorem OwP.zeroQ (w : World) (B : Nat) : OwP w B none none 0 0 zeroQ := ⟨World.ownsRow_nil _ _ _ _, World.ownsRow_nil _ _ _ _⟩

def pickO (p : Pl) (l : List Int) (k : Nat) : List Int := (l.take k).map fun i => p.o.getD i.toNat 0
def pickB (p : Pl) (l : List Int) : Bool := good p && (allB l 0 ((p.o.length : Int) - 1) && decide (l.length ≤ 6))
def pickR (p : Pl) (l : List Int) : Pl := if pickB p l then ⟨p.n, p.s, pickO p l l.length⟩ else zeroQ
theorem pickO_len (p : Pl) (l : List Int) {k : Nat} (hk : k ≤ l.length) : (pickO p l k).length = k := by simp [pickO]; omega
theorem pickO_succ {p : Pl} {l : List Int} {k v : Nat} (hk : k < l.length) (hv : l[k] = (v : Int)) (hvl : v < p.o.length) : pickO p l (k + 1) = pickO p l k ++ [p.o[v]] := by
  unfold pickO
  rw [List.take_succ_eq_append_getElem hk, List.map_append, hv]
  simp [hvl]
theorem pickR_len (p : Pl) (l : List Int) : (pickR p l).s.length ≤ 1000 ∧ (pickR p l).o.length ≤ 1000 := by
  unfold pickR
  split
  · rename_i h
    unfold pickB at h
    simp only [Bool.and_eq_true, decide_eq_true_eq] at h
    obtain ⟨_, _, _, _, h40, _⟩ := good_facts h.1
    simp only
    rw [pickO_len p l (Nat.le_refl _)]
    omega
  · simp [zeroQ]
theorem all_in {l : List Int} {m : Int} (h : allB l 0 m = true) : ∀ x ∈ l, 0 ≤ x ∧ x ≤ m := by
  intro x hx
  unfold allB at h
  rw [List.all_eq_true] at h
  have := h x hx
  simpa [inB] using this
/-- The plan with picked outputs is a plan, unless there are too many of them. -/
theorem good_pick {p : Pl} {l : List Int} (hg : good p = true) (ha : allB l 0 ((p.o.length : Int) - 1) = true) : good ⟨p.n, p.s, pickO p l l.length⟩ = decide (l.length ≤ 6) := by
  have hin := all_in ha
  have hlen := pickO_len p l (Nat.le_refl _)
  have ho : allB (pickO p l l.length) 0 (p.n + p.s.length - 1) = true := by
    unfold good at hg
    simp only [Bool.and_eq_true] at hg
    have hall := hg.2.2.2.2.2
    unfold allB at hall ⊢
    rw [List.all_eq_true] at hall ⊢
    intro x hx
    unfold pickO at hx
    rw [List.take_of_length_le (Nat.le_refl _)] at hx
    obtain ⟨i, hi, rfl⟩ := List.mem_map.1 hx
    obtain ⟨h0, h1⟩ := hin i hi
    have hlt : i.toNat < p.o.length := by omega
    have e : p.o.getD i.toNat 0 = p.o[i.toNat] := by simp [hlt]
    rw [e]
    exact hall _ (List.getElem_mem hlt)
  unfold good at hg ⊢
  simp only [Bool.and_eq_true] at hg
  obtain ⟨g1, g2, _, g4, g5, _⟩ := hg
  simp only [g1, g2, g4, g5, ho, hlen, Bool.true_and, Bool.and_true]

set_option maxRecDepth 100000 in
set_option maxHeartbeats 1000000 in
theorem plIf_any (B : Nat) (A1 A2 : Option Addr) (c1 c2 : Nat) (p : Pl) (w : World) (hB : B ≤ w.heap.size) (hls : p.s.length ≤ 2000000) (hlo : p.o.length ≤ 2000000) (hr : RdP w B A1 A2 p) :
    Calls Try.prog 54 #[.agg #[.int .i64 p.n, .slice A1 p.s.length c1, .slice A2 p.o.length c2]] w fun e w' =>
      e = .returned (.tuple #[selV (good p) (.agg #[.int .i64 p.n, .slice A1 p.s.length c1, .slice A2 p.o.length c2]) (.agg #[.int .i64 0, .slice none 0 0, .slice none 0 0]), .bool (good p)]) ∧ Below w.heap.size w w' := by
  have H := Lib.hid hr
  clear hr
  obtain ⟨gd, hgd⟩ : ∃ x, good p = x := ⟨_, rfl⟩
  have HG := Lib.hid hgd
  go_enter Try.func54, Try.ntmps54
  go_wp2_with fail
  go_at_call 55
  generalize hw1 : World.alloc (World.alloc w _) _ = w1
  obtain ⟨q0, q1, xs, xb⟩ := boxes2b hw1
  clear hw1
  have hC := plGood_any w.heap.size A1 A2 c1 c2 p w1 (by omega) hls hlo ((H.out.below' xb hB).more hB)
  rw [hgd] at hC
  refine hC.mono ?_
  rintro e w2 ⟨rfl, hb2⟩
  clear hC hgd
  obtain ⟨y0, y1, y2, _, _, _⟩ := cells3b ((hb2.block w.heap.size (by omega)).trans q0)
  obtain ⟨t0, t1, t2, g0, g1, g2⟩ := cells3b ((hb2.block (w.heap.size + 1) (by omega)).trans q1)
  have HB2 := Lib.hid (xb.trans (hb2.mono (show w.heap.size ≤ w1.heap.size by omega)))
  clear q0 q1 xs xb hb2
  cases gd with
  | false =>
    go_wp2
    refine bodyPost_ret (v := .tuple #[.agg #[.int .i64 0, .slice none 0 0, .slice none 0 0], .bool false]) (by simp [results, Try.results54, go_sem, t0, t1, t2]) rfl ⟨by rw [HG.out]; rfl, ?_⟩
    exact ((HB2.out.setCell (by simp) _).setCell (by simp) _).setCell (by simp) _
  | true =>
    go_wp2
    refine bodyPost_ret (v := .tuple #[.agg #[.int .i64 p.n, .slice A1 p.s.length c1, .slice A2 p.o.length c2], .bool true]) (by simp [results, Try.results54, go_sem, t0, t1, t2]) rfl ⟨by rw [HG.out]; rfl, ?_⟩
    exact ((HB2.out.setCell (by simp) _).setCell (by simp) _).setCell (by simp) _
end Go.Proofs.Ytlkieebmfmiafab
/- A new row with room: the library's slices.Grow at the nil slice. -/
namespace Go.Proofs.Ytlkieebmfmiafab
open Go.RowKit

set_option maxRecDepth 100000 in
set_option maxHeartbeats 1000000 in
theorem growI_any (n : Nat) (w : World) (hn : n ≤ 1000000) :
    Calls Try.prog 103 #[.slice none 0 0, .int .i64 n] w fun e w' => ∃ A c, e = .returned (.slice A 0 c) ∧ w'.ownsRow w.heap.size 3 1 (.slice A 0 c) 0 [] ∧ Below w.heap.size w w' := by
  by_cases h0 : n = 0
  · subst h0
    go_enter Try.func103, Try.ntmps103
    go_wp2
    go_ret
    exact ⟨none, 0, rfl, World.ownsRow_nil _ _ _ _, Below.refl _ _⟩
  · obtain ⟨i0, hi, hz0, hz1, hz2⟩ := info_parts info_int
    have hap := fun W ty => Lib.run_append_nil_zeros (P := Try.prog) W 22 3 ty 3 i0 _ .i64 .i64 Try.underlying22 Try.underlying3 hi hz0 n (by omega) (by rw [hz1]; omega) (by omega) (by rw [hz2]; omega)
    have HAP := Lib.hid hap
    clear hap
    have hpos : (n : Int) > 0 := by omega
    have hneg : ¬ ((n : Int) < 0) := by omega
    go_enter Try.func103, Try.ntmps103
    go_wp2_with (at_builtin; refine Lib.wpList_append_run _ rfl _ _ _ _ rfl _ _ rfl rfl _ _ (HAP.out _ _) ?_)
    all_goals go_ret
    have hG := grownCap_ge w n 0 3
    have hM := grownCap_le_maxLen w n 0 3 (by unfold maxLen; omega)
    refine ⟨some ⟨w.heap.size, 0, none⟩, grownCap w n 0 3, rfl, ?_, ((Below.refl _ _).alloc (Nat.le_refl _) _).drew⟩
    exact World.ownsRow_made (base := w.heap.size) (size := 1) w _ _ (Nat.le_refl _) hM (by rw [Array.size_append, size_zeroCells, size_zeroCells]; simp; omega)
end Go.Proofs.Ytlkieebmfmiafab
/- Two lists behind each other: the library's slices.Concat. -/
namespace Go.Proofs.Ytlkieebmfmiafab
open Go.RowKit

def catLI (a b : List Int) (k : Nat) : List Int := match k with | 0 => [] | 1 => a | _ => a ++ b

set_option maxRecDepth 100000 in
set_option maxHeartbeats 2000000 in
theorem concatI_any (B g : Nat) (A1 A2 : Option Addr) (k1 k2 c : Nat) (s1 s2 : List Int) (w : World) (hm1 : s1.length ≤ 10000) (hm2 : s2.length ≤ 10000) (hB : B ≤ w.heap.size)
    (hc1 : w.cell? ⟨g, 0, none⟩ = some (.slice A1 s1.length k1)) (hc2 : w.cell? ⟨g, 1, none⟩ = some (.slice A2 s2.length k2)) (hg : g < w.heap.size) (hr1 : Rd w B 1 A1 s1.length (s1.map I)) (hr2 : Rd w B 1 A2 s2.length (s2.map I)) :
    Calls Try.prog 93 #[.slice (some ⟨g, 0, none⟩) 2 c] w fun e w' => ∃ A' c', e = .returned (.slice A' (s1.length + s2.length) c') ∧ OwI w' w.heap.size (.slice A' (s1.length + s2.length) c') (s1 ++ s2) ∧ Below w.heap.size w w' := by
  have H1 := Lib.hid hr1
  have H2 := Lib.hid hr2
  clear hr1 hr2
  obtain ⟨a, ha⟩ : ∃ a, s1.length = a := ⟨_, rfl⟩
  obtain ⟨b, hb⟩ : ∃ b, s2.length = b := ⟨_, rfl⟩
  rw [ha] at hc1 hm1
  rw [hb] at hc2 hm2
  have HA := Lib.hid ha
  have HBL := Lib.hid hb
  rw [ha, hb]
  clear ha hb
  go_enter Try.func93, Try.ntmps93
  go_wp2
  go_loopw [3, 11] (fun s i wr => ∃ k : Nat, k ≤ 2 ∧ i = .int .i64 k ∧ s = .int .i64 ((catN a b k : Nat) : Int) ∧ w = wr) (fun _ i _ => 2 - (intOf i).toNat)
  case atStart => exact ⟨0, by omega, rfl, rfl, rfl⟩
  case round =>
    obtain ⟨k, hk, rfl, rfl, rfl⟩ := hrel
    obtain rfl | rfl | rfl : k = 0 ∨ k = 1 ∨ k = 2 := by omega
    · simp only [catN]
      go_wp2
      go_roundw
      case rel => exact ⟨1, by omega, by go_num, by first | rfl | (simp only [catN]; go_num), trivial⟩
      case measure => simp [intOf]
    · simp only [catN]
      go_wp2
      go_roundw
      case rel => exact ⟨2, by omega, by go_num, by first | rfl | (simp only [catN]; go_num), trivial⟩
      case measure => simp [intOf]
    · simp only [catN]
      go_wp2_with fail
      go_at_call 103
      refine (growI_any (a + b) w (by omega)).mono ?_
      rintro e w2 ⟨A0, c0, rfl, hown0, hb0⟩
      have OWN0 := Lib.hid hown0
      have HB0 := Lib.hid hb0
      clear hown0 hb0
      go_wp2
      go_loopw [6, 27] (fun v i wr => ∃ (k : Nat) (A : Option Addr) (q : Nat), k ≤ 2 ∧ i = .int .i64 k ∧ v = .slice A (catN a b k) q ∧ wr.ownsRow w.heap.size 3 1 (.slice A (catN a b k) q) (catN a b k) ((catLI s1 s2 k).map I) ∧ Below w.heap.size w wr) (fun _ i _ => 2 - (intOf i).toNat)
      case atStart => exact ⟨0, A0, c0, by omega, rfl, rfl, OWN0.out, HB0.out⟩
      case round =>
        obtain ⟨k, A, q, hk, rfl, rfl, hown, hbel⟩ := hrel
        have e1 := (hbel.cell (p := ⟨g, 0, none⟩) hg).trans hc1
        have e2 := (hbel.cell (p := ⟨g, 1, none⟩) hg).trans hc2
        have OWN := Lib.hid hown
        have BEL := Lib.hid hbel
        clear hown hbel
        obtain rfl | rfl | rfl : k = 0 ∨ k = 1 ∨ k = 2 := by omega
        · simp only [catN]
          go_wp2_with (first
            | (at_builtin; refine list_step (fun K hK => ?_); refine step_appM Try.underlying22 info_int rfl (by omega) (by omega) rfl (.tmp 31) (.tmp 32) rfl w.heap.size 0 _ _ rfl OWN.out _ a k1 (s1.map I) rfl (by have := H1.out.below (BEL.out.mono hB); rw [HA.out] at this; exact this) (ints_one s1) (by omega) BEL.out.size ?_; intro A2' c2' w2' hown2 hg2 hbel2; go_simp; refine hK _ _ ?_; clear hK K))
          go_roundw
          case rel =>
            have hown3 : w2'.ownsRow w.heap.size 3 1 (.slice A2' a c2') a (s1.map I) := by
              have h := hown2
              rw [Nat.zero_add] at h
              exact h
            exact ⟨1, A2', c2', by omega, by go_num, by first | rfl | simp [catN], hown3, BEL.out.trans hbel2⟩
          case measure => simp [intOf]
        · simp only [catN]
          go_wp2_with (first
            | (at_builtin; refine list_step (fun K hK => ?_); refine step_appM Try.underlying22 info_int rfl (by omega) (by omega) rfl (.tmp 31) (.tmp 32) rfl w.heap.size a _ _ rfl OWN.out _ b k2 (s2.map I) rfl (by have := H2.out.below (BEL.out.mono hB); rw [HBL.out] at this; exact this) (ints_one s2) (by omega) BEL.out.size ?_; intro A2' c2' w2' hown2 hg2 hbel2; go_simp; refine hK _ _ ?_; clear hK K))
          go_roundw
          case rel =>
            have hown3 : w2'.ownsRow w.heap.size 3 1 (.slice A2' (a + b) c2') (a + b) ((s1 ++ s2).map I) := by
              rw [List.map_append]
              exact hown2
            exact ⟨2, A2', c2', by omega, by go_num, by first | rfl | simp [catN], hown3, BEL.out.trans hbel2⟩
          case measure => simp [intOf]
        · simp only [catN]
          go_wp2
          go_ret
          refine ⟨A, q, rfl, ?_, BEL.out⟩
          have h := OWN.out
          show World.ownsRow _ _ _ _ _ _ _
          rw [List.length_append, HA.out, HBL.out]
          exact h
end Go.Proofs.Ytlkieebmfmiafab
/- A region that draws its order of evaluation, inside a fence (a round of a range over a function): the tree walk of Region, every operation inside the fence. -/
namespace Go.Proofs.Ytlkieebmfmiafab

def noDefer (ops : Array Oper) : Bool := ops.toList.all fun o => match o.op with | .defer _ => false | _ => true
theorem noDefer_spec {ops : Array Oper} (h : noDefer ops = true) (j : Nat) (o : Oper) (ho : ops[j]? = some o) : ∀ c, o.op ≠ .defer c := by
  intro c hc
  unfold noDefer at h
  rw [List.all_eq_true] at h
  have hm : o ∈ ops.toList := by
    rw [Array.mem_toList_iff]
    exact Array.mem_of_getElem? ho
  have := h o hm
  rw [hc] at this
  cases this

theorem sem_plain (F : Fence) (ρ : Operand → Value) (o : Oper) (h : ∀ c, o.op ≠ .defer c) : o.semAt F.round ρ = execOp ρ o := Oper.semAt_eq F.round ρ o h

section
variable {F : Fence} {n : Nat} {P : Program} {ops : Array Oper} {Q : Exit → Act → World → Prop} {S : World → Prop}

theorem yIn_wpOpIn {i : Nat} {o : Oper} {v : Value} {a : Act} (hF : ∀ f, F.fn f) (hdf : ∀ c, o.op ≠ .defer c) (hi : ops[i]? = some o) (hy : YieldsIf P ops S o v a)
    {K : Act → World → Prop} {w : World} (hS : S w) (h : K (a.put o.dst v) w) : wpOpIn F n P ops Q i K a w := by
  unfold Go.wpOpIn
  simp only [hi]
  rcases hy with ⟨hw, hv⟩ | ⟨hw, rfl⟩
  · simp only [hw, if_true, Oper.wpIn, sem_plain F _ o hdf, hv w hS, Oper.uponIn]; exact ⟨fun f _ => hF f, h⟩
  · simp only [hw, Bool.false_eq_true, if_false]; exact ⟨fun f _ => hF f, h⟩

theorem wpOpIn_putIf {j : Nat} {oi oj : Oper} {v : Value} (hF : ∀ f, F.fn f) (hdf : ∀ c, oj.op ≠ .defer c) (hj : ops[j]? = some oj) (hap : oi.apart ops oj = true)
    (hsi : ∀ cs b, oi.op ≠ .select cs b) (hsj : ∀ cs b, oj.op ≠ .select cs b)
    (hQ : ∀ c a w, Q (.panic c) (a.put oi.dst v) w → Q (.panic c) a w) {K : Act → World → Prop} {a : Act} {w : World}
    (hy : YieldsIf P ops S oi v a) (h : wpOpIn F n P ops Q j K (a.put oi.dst v) w) :
    wpOpIn F n P ops Q j (fun a' w' => YieldsIf P ops S oi v a' ∧ K (a'.put oi.dst v) w') a w := by
  obtain ⟨h1, h2, h3⟩ := Oper.apart_spec hap
  have keep : ∀ (a : Act), YieldsIf P ops S oi v a → ∀ u, YieldsIf P ops S oi v (a.put oj.dst u) := fun a hy u =>
    hy.of_same (execOp_put oi hsi a oj.dst u h3) (wanted_put oi a oj.dst u h3)
  have keepD : ∀ d, YieldsIf P ops S oi v { a with defers := d :: a.defers } := fun d => hy.of_same rfl rfl
  unfold wpOpIn at *
  simp only [hj] at *
  rw [wanted_put oj a oi.dst v h1] at h
  split
  · rename_i hw
    simp only [hw, if_true] at h
    unfold Oper.wpIn at *
    refine ⟨fun f _ => hF f, ?_⟩
    have h := h.2
    rw [sem_plain F _ oj hdf, execOp_put oj hsj a oi.dst v h1] at h
    rw [sem_plain F _ oj hdf]
    generalize (execOp a.eval oj).run P w = r at *
    cases r with
    | ok x w' =>
      cases x <;> simp only [Oper.uponIn] at h ⊢
      case value u => exact ⟨keep a hy u, by rw [← Act.put_comm a v u h2]; exact h⟩
      case skip => exact ⟨keep a hy _, by rw [← Act.put_comm a v undef h2]; exact h⟩
      case defer d =>
        refine ⟨keep _ (keepD d) _, ?_⟩
        rw [← Act.put_comm _ v undef h2, ← Act.put_defers]
        exact h
      case enter f args =>
        refine ⟨h.1, CallsIn.mono h.2 fun e w'' he => ?_⟩
        cases e with
        | returned u => exact ⟨keep a hy u, by rw [← Act.put_comm a v u h2]; exact he⟩
        | panicked c => exact hQ _ _ _ he
        | outgrown => exact he
      case row row args => exact ⟨h.1, RowsIn.mono h.2 fun u w'' he => ⟨keep a hy u, by rw [← Act.put_comm a v u h2]; exact he⟩⟩
      case round l f tmps assign body =>
        refine ⟨h.1, RoundIn.mono h.2 fun e w'' he => ?_⟩
        cases e with
        | returned u => exact ⟨keep a hy u, by rw [← Act.put_comm a v u h2]; exact he⟩
        | panicked c => exact hQ _ _ _ he
        | outgrown => exact he
    | halt x w' =>
      cases x <;> simp only [Oper.uponIn] at h ⊢
      case panic u => exact hQ _ _ _ h
  · rename_i hw
    simp only [hw] at h
    exact ⟨fun f _ => hF f, keep a hy _, by rw [← Act.put_comm a v undef h2]; exact h.2⟩
end

section
variable {F : Fence} {n : Nat} {P : Program} {ops : Array Oper} {Q : Exit → Act → World → Prop} {S : World → Prop} {LL SL : List Nat}

def wpAnyJ (F : Fence) (n : Nat) (P : Program) (ops : Array Oper) (Q : Exit → Act → World → Prop) (S : World → Prop) (LL SL : List Nat) : Nat → Array Bool → Act → World → Prop
  | 0, listed, a, w => Region.ready .any ops listed = [] ∧ Q .normal a w
  | fuel + 1, listed, a, w =>
    (Region.ready .any ops listed = [] → Q .normal a w) ∧
    ∀ i ∈ Region.ready .any ops listed, wpOpIn F n P ops Q i (fun a' w' => kp ops S LL SL i w w' ∧ wpAnyJ F n P ops Q S LL SL fuel (listed.setIfInBounds i true) a' w') a w

theorem wpAnyIn_of_J : ∀ (fuel : Nat) (listed : Array Bool) (a : Act) (w : World), wpAnyJ F n P ops Q S LL SL fuel listed a w → wpAnyIn F n P .any ops Q fuel listed a w
  | 0, _, _, _, h => h
  | fuel + 1, _, _, _, h => ⟨h.1, fun i hi => wpOpIn_mono (fun a' w' h' => wpAnyIn_of_J fuel _ a' w' h'.2) (h.2 i hi)⟩

theorem wpAnyJ_first {C : World → Prop} {i : Nat} {oi : Oper} {v : Value} (hi : ops[i]? = some oi) (hF : ∀ f, F.fn f) (hdf : ∀ (j : Nat) (o : Oper), ops[j]? = some o → ∀ c, o.op ≠ .defer c) (hsel : ∀ (j : Nat) (o : Oper) cs b, ops[j]? = some o → o.op ≠ .select cs b)
    (hQ : ∀ c a w, Q (.panic c) (a.put oi.dst v) w → Q (.panic c) a w) (hL : LL.contains i = true) (hC : (∀ x, C x) ∨ (i ∈ SL ∧ ∀ x, S x → C x)) :
    ∀ (fuel : Nat) (listed : Array Bool) (a : Act) (w : World), Closed ops listed →
      (∀ j oj, ops[j]? = some oj → j ≠ i → listed.getD j true = false → (∀ e ∈ oj.after, Region.binds .any e = true → e.on ≠ i) → oi.apart ops oj = true) →
      i ∈ Region.ready .any ops listed → YieldsIf P ops C oi v a → C w →
      wpAnyJ F n P ops Q S LL SL fuel (listed.setIfInBounds i true) (a.put oi.dst v) w → wpAnyJ F n P ops Q S LL SL (fuel + 1) listed a w := by
  have hkp : ∀ w, kp ops S LL SL i w w := fun w => by unfold kp; rw [if_pos hL]
  intro fuel
  induction fuel with
  | zero =>
    intro listed a w _ _ hr hy hw H
    refine ⟨fun h => (by rw [h] at hr; cases hr), fun j hj => ?_⟩
    by_cases hji : j = i
    · subst hji; exact yIn_wpOpIn hF (hdf _ oi hi) hi hy hw ⟨hkp w, H⟩
    · have := ready_mono hj hji
      rw [H.1] at this
      cases this
  | succ fuel ih =>
    intro listed a w hcl hfree hr hy hw H
    refine ⟨fun h => (by rw [h] at hr; cases hr), fun j hj => ?_⟩
    by_cases hji : j = i
    · subst hji; exact yIn_wpOpIn hF (hdf _ oi hi) hi hy hw ⟨hkp w, H⟩
    · have h1 := H.2 j (ready_mono hj hji)
      obtain ⟨hjun, oj, hoj, hall⟩ := mem_ready.1 hj
      have hnot : ∀ e ∈ oj.after, Region.binds .any e = true → e.on ≠ i := fun e he hb heq => by
        have h1 := hall e he hb
        have h0 := (mem_ready.1 hr).1
        rw [heq] at h1
        rcases Nat.lt_or_ge i listed.size with h' | h'
        · simp [h'] at h0 h1; rw [h0] at h1; cases h1
        · simp [Array.getElem?_eq_none h'] at h1
      have h2 := wpOpIn_putIf hF (hdf j oj hoj) hoj (hfree j oj hoj hji hjun hnot) (fun cs b => hsel i oi cs b hi) (fun cs b => hsel j oj cs b hoj) hQ hy h1
      refine wpOpIn_mono (fun a' w' h3 => ⟨h3.2.1, ih (listed.setIfInBounds j true) a' w' (closed_set hcl hj) ?_ (ready_mono hr (Ne.symm hji)) h3.1 ?_ ?_⟩) h2
      · intro k ok hk hki hun hno
        refine hfree k ok hk hki ?_ hno
        by_cases hjk : j = k
        · subst hjk; exact hjun
        · rw [getD_set_ne true hjk] at hun; exact hun
      · rcases hC with hC | ⟨hm, hC⟩
        · exact hC _
        · have hk := h3.2.1
          unfold kp at hk
          split at hk
          · rw [hk]; exact hw
          · refine hC _ (hk ?_)
            unfold needS
            rw [List.any_eq_true]
            refine ⟨i, hm, ?_⟩
            rw [not_anc hcl hr hj, not_anc hcl hj hr]
            simp [Ne.symm hji]
      · rw [Array.setIfInBounds_comm _ _ hji]
        exact h3.2.2
end

def wpJ (F : Fence) (n : Nat) (P : Program) (ops : Array Oper) (Q : Exit → Act → World → Prop) (S : World → Prop) (SL : List Nat) : Tr → Act → World → Prop
  | .done, a, w => Q .normal a w
  | .lp i t, a, w => lq P ops (fun _ => True) i (fun a' => wpJ F n P ops Q S SL t a' w) a
  | .ls i t, a, w => S w ∧ lq P ops S i (fun a' => wpJ F n P ops Q S SL t a' w) a
  | .hv i t, a, w => wpOpIn F n P ops Q i (fun a' w' => (needS ops SL i = true → S w') ∧ wpJ F n P ops Q S SL t a' w') a w
  | .hv2 i t j u, a, w => wpOpIn F n P ops Q i (fun a' w' => (needS ops SL i = true → S w') ∧ wpJ F n P ops Q S SL t a' w') a w ∧
      wpOpIn F n P ops Q j (fun a' w' => (needS ops SL j = true → S w') ∧ wpJ F n P ops Q S SL u a' w') a w

section
variable {F : Fence} {n : Nat} {P : Program} {ops : Array Oper} {Q : Exit → Act → World → Prop} {S : World → Prop} {LL SL : List Nat}

theorem wpAnyJ_of_T (hF : ∀ f, F.fn f) (hdf : ∀ (j : Nat) (o : Oper), ops[j]? = some o → ∀ c, o.op ≠ .defer c) (hsel : Region.noSelect ops = true) (hQ : ∀ c d v a w, Q (.panic c) (a.put d v) w → Q (.panic c) a w) :
    ∀ (f : Nat) (t : Tr) (listed : Array Bool) (a : Act) (w : World), Closed ops listed → okT ops LL SL f t listed = true → wpJ F n P ops Q S SL t a w → wpAnyJ F n P ops Q S LL SL f listed a w := by
  intro f
  induction f with
  | zero =>
    intro t listed a w _ hok h
    cases t with
    | done => exact ⟨by simpa [okT] using hok, h⟩
    | _ => simp [okT] at hok
  | succ f ih =>
    intro t listed a w hcl hok h
    cases t with
    | done =>
      have h0 : Region.ready .any ops listed = [] := by simpa [okT] using hok
      exact ⟨fun _ => h, by rw [h0]; simp⟩
    | lp i t =>
      simp only [okT, Bool.and_eq_true] at hok
      obtain ⟨⟨⟨hL, hr⟩, hf⟩, hok⟩ := hok
      have hr' : i ∈ Region.ready .any ops listed := by simpa using hr
      obtain ⟨o, v, ho, hy, hk⟩ := lq_yields h
      exact wpAnyJ_first ho hF hdf (Region.noSelect_spec hsel) (fun c a w => hQ c _ v a w) hL (.inl fun _ => trivial) f listed a w hcl (Region.free_spec ho hf) hr' hy trivial (ih t _ _ _ (closed_set hcl hr') hok hk)
    | ls i t =>
      simp only [okT, Bool.and_eq_true] at hok
      obtain ⟨⟨⟨⟨hL, hS⟩, hr⟩, hf⟩, hok⟩ := hok
      have hr' : i ∈ Region.ready .any ops listed := by simpa using hr
      obtain ⟨hSw, h⟩ := h
      obtain ⟨o, v, ho, hy, hk⟩ := lq_yields h
      exact wpAnyJ_first ho hF hdf (Region.noSelect_spec hsel) (fun c a w => hQ c _ v a w) hL (.inr ⟨by simpa using hS, fun _ h => h⟩) f listed a w hcl (Region.free_spec ho hf) hr' hy hSw (ih t _ _ _ (closed_set hcl hr') hok hk)
    | hv i t =>
      simp only [okT, Bool.and_eq_true, Bool.not_eq_true', beq_iff_eq] at hok
      obtain ⟨⟨hL, hr⟩, hok⟩ := hok
      refine ⟨fun h0 => (by rw [hr] at h0; cases h0), fun j hj => ?_⟩
      have hj' : j = i := by rw [hr] at hj; simpa using hj
      subst hj'
      exact wpOpIn_mono (fun a' w' h' => ⟨by unfold kp; rw [if_neg (by simp only [hL]; decide)]; exact h'.1, ih t _ _ _ (closed_set hcl hj) hok h'.2⟩) h
    | hv2 i t k u =>
      simp only [okT, Bool.and_eq_true, Bool.not_eq_true', beq_iff_eq] at hok
      obtain ⟨⟨⟨⟨hL, hL2⟩, hr⟩, hok⟩, hok2⟩ := hok
      refine ⟨fun h0 => (by rw [hr] at h0; cases h0), fun j hj => ?_⟩
      have hj' : j = i ∨ j = k := by rw [hr] at hj; simpa using hj
      rcases hj' with rfl | rfl
      · exact wpOpIn_mono (fun a' w' h' => ⟨by unfold kp; rw [if_neg (by simp only [hL]; decide)]; exact h'.1, ih t _ _ _ (closed_set hcl hj) hok h'.2⟩) h.1
      · exact wpOpIn_mono (fun a' w' h' => ⟨by unfold kp; rw [if_neg (by simp only [hL2]; decide)]; exact h'.1, ih u _ _ _ (closed_set hcl hj) hok2 h'.2⟩) h.2

/-- THE RULE. -/
theorem wp_region_J (hF : ∀ f, F.fn f) {id : Nat} {a : Act} {w : World} {l : List Oper} (S : World → Prop) (LL SL : List Nat) (t : Tr) (hm : P.follows .mixedOrders = true)
    (hok : (noDefer l.toArray && Region.noSelect l.toArray && okT l.toArray LL SL l.toArray.size t (Array.replicate l.toArray.size false)) = true)
    (h : wpJ F n P l.toArray (NoPanic Q) S SL t a w.drew) : (Code.region id l.toArray true).wpIn F n P Q a w := by
  simp only [Bool.and_eq_true] at hok
  exact Code.wpIn_mono NoPanic.imp (wpIn_region_any hm (wpAnyIn_of_J _ _ _ _ (wpAnyJ_of_T hF (noDefer_spec hok.1.1) hok.1.2 (fun _ _ _ _ _ h => h) _ t _ a _ closed_none hok.2 h)))

/-- THE RULE where every load comes ahead of all that writes: the class is the world itself. -/
theorem wp_region_Jw (hF : ∀ f, F.fn f) {id : Nat} {a : Act} {w : World} {l : List Oper} (LL SL : List Nat) (t : Tr) (hm : P.follows .mixedOrders = true)
    (hok : (noDefer l.toArray && Region.noSelect l.toArray && okT l.toArray LL SL l.toArray.size t (Array.replicate l.toArray.size false)) = true)
    (h : wpJ F n P l.toArray (NoPanic Q) (fun x => x = w.drew) SL t a w.drew) : (Code.region id l.toArray true).wpIn F n P Q a w := wp_region_J hF _ LL SL t hm hok h

theorem J_done {a : Act} {w : World} (h : Q .normal a w) : wpJ F n P ops (NoPanic Q) S SL .done a w := h
theorem J_lp {i : Nat} {t : Tr} {o : Oper} {a : Act} {w : World} (ho : ops[i]? = some o)
    (h : ∀ K : Act → Prop, (∀ a, wpJ F n P ops Q S SL t a w → K a) → if Region.wanted o (yielded ops a.tmps) = true then vq P o a (fun _ => True) K else K (a.put o.dst undef)) : wpJ F n P ops Q S SL (.lp i t) a w :=
  ⟨o, ho, h _ fun _ h => h⟩
theorem J_ls {i : Nat} {t : Tr} {o : Oper} {a : Act} {w : World} (ho : ops[i]? = some o) (hS : S w)
    (h : ∀ K : Act → Prop, (∀ a, wpJ F n P ops Q S SL t a w → K a) → if Region.wanted o (yielded ops a.tmps) = true then vq P o a S K else K (a.put o.dst undef)) : wpJ F n P ops Q S SL (.ls i t) a w :=
  ⟨hS, o, ho, h _ fun _ h => h⟩
/-- A load of the class, its value found by the walk. -/
theorem J_ls1 {i : Nat} {t : Tr} {o : Oper} {a : Act} {w : World} {v : Value} (ho : ops[i]? = some o) (hg : o.guard = none) (hS : S w)
    (hv : ∀ x, S x → (execOp a.eval o).run P x = .ok (.value v) x) (h : ∀ K : Act → Prop, (∀ a, wpJ F n P ops Q S SL t a w → K a) → K (a.put o.dst v)) : wpJ F n P ops Q S SL (.ls i t) a w :=
  ⟨hS, o, ho, by rw [if_pos (by simp [Region.wanted, hg])]; exact ⟨v, hv, h _ fun _ h => h⟩⟩
/-- An operation that writes; the class need not be shown behind it. -/
theorem J_hv {i : Nat} {t : Tr} {o : Oper} {a : Act} {w : World} (ho : ops[i]? = some o) (hn : needS ops SL i = false)
    (h : ∀ K : Act → World → Prop, (∀ a w, wpJ F n P ops Q S SL t a w → K a w) → if Region.wanted o (yielded ops a.tmps) = true then o.wpIn F n P a w K Q else (∀ f, o.about P w a.eval = some f → F.fn f) ∧ K (a.put o.dst undef) w) : wpJ F n P ops Q S SL (.hv i t) a w := by
  have h1 := h (fun a' w' => (needS ops SL i = true → S w') ∧ wpJ F n P ops Q S SL t a' w') (fun a' w' h' => ⟨fun hh => (by rw [hn] at hh; cases hh), h'⟩)
  show wpOpIn F n P ops Q i _ a w
  unfold wpOpIn
  simp only [ho]
  exact h1
/-- An operation that writes, and behind which the class is shown anew. -/
theorem J_hvS {i : Nat} {t : Tr} {o : Oper} {a : Act} {w : World} (ho : ops[i]? = some o)
    (h : ∀ K : Act → World → Prop, (∀ a w, S w → wpJ F n P ops Q S SL t a w → K a w) → if Region.wanted o (yielded ops a.tmps) = true then o.wpIn F n P a w K Q else (∀ f, o.about P w a.eval = some f → F.fn f) ∧ K (a.put o.dst undef) w) : wpJ F n P ops Q S SL (.hv i t) a w := by
  have h1 := h (fun a' w' => (needS ops SL i = true → S w') ∧ wpJ F n P ops Q S SL t a' w') (fun a' w' hs h' => ⟨fun _ => hs, h'⟩)
  show wpOpIn F n P ops Q i _ a w
  unfold wpOpIn
  simp only [ho]
  exact h1
theorem J_hv2 {i j : Nat} {t u : Tr} {a : Act} {w : World} (h1 : wpJ F n P ops Q S SL (.hv i t) a w) (h2 : wpJ F n P ops Q S SL (.hv j u) a w) : wpJ F n P ops Q S SL (.hv2 i t j u) a w := ⟨h1, h2⟩
end
end Go.Proofs.Ytlkieebmfmiafab
/- How often values are used, by the model. -/
namespace Go.Proofs.Ytlkieebmfmiafab
open Go.RowKit

set_option maxRecDepth 100000 in
set_option maxHeartbeats 2000000 in
theorem duUses_any (B N R : Nat) (A1 A2 : Option Addr) (c1 c2 : Nat) (p : Pl) (w : World) (hpn : p.n = N) (h6 : N ≤ 6) (hs40 : p.s.length ≤ 40) (ho6 : p.o.length ≤ 6) (hR : R = N + p.s.length) (hB : B ≤ w.heap.size) (hok : OkS N p.s)
    (hout : ∀ x ∈ p.o, 0 ≤ x ∧ x < (N : Int) + p.s.length) (hr : RdP w B A1 A2 p) :
    Calls Try.prog 79 #[.agg #[.int .i64 p.n, .slice A1 p.s.length c1, .slice A2 p.o.length c2]] w fun e w' =>
      ∃ A c, e = .returned (.slice A R c) ∧ w'.ownsRow w.heap.size 3 1 (.slice A R c) R ((cL p.s p.o R p.s.length p.o.length).map I) ∧ Below w.heap.size w w' := by
  have H := Lib.hid hr
  have HO := Lib.hid hok
  have HOUT := Lib.hid hout
  have HR := Lib.hid hR
  have hR46 : R ≤ 46 := by omega
  have hNR : (N : Int) + (p.s.length : Int) = (R : Int) := by omega
  clear hr hok hout hR
  rw [hpn]
  clear hpn
  have hmk := run_make_row' (P := Try.prog) 22 3 (.int .i64 0) 8 Try.underlying22 info_int rfl .i64 .i64 R (by omega) (by omega)
  go_enter Try.func79, Try.ntmps79
  go_wp2
  clear hmk
  generalize hw1 : World.alloc w _ = w1
  obtain ⟨x0, x1, x2, xs, xb⟩ := box3 hw1
  clear hw1
  rw [← xs]
  generalize hw2 : World.alloc w1 _ = w2
  have hmade : w2.ownsRow (w.heap.size + 1) 3 1 (.slice (some ⟨w1.heap.size, 0, none⟩) R R) R ((cL p.s p.o R 0 0).map I) := by
    rw [cL_zero, List.map_replicate, ← hw2]
    exact zeros_row R (by omega) (by omega)
  have hb2 : Below (w.heap.size + 1) w1 w2 := by rw [← hw2]; exact (Below.refl _ _).alloc (by omega) _
  clear hw2
  have y2 := (hb2.cell (p := ⟨w.heap.size, 2, none⟩) (by simp)).trans x2
  have HB2 := Lib.hid (xb.trans (hb2.mono (show w.heap.size ≤ w.heap.size + 1 by omega)))
  have HM := Lib.hid hmade
  have hg : w.heap.size + 1 ≤ w1.heap.size := by omega
  clear x0 x1 x2 xs xb hb2 hmade hNR
  go_loopw [18] (fun i wr => ∃ k : Nat, k ≤ p.s.length ∧ i = .int .i64 k ∧ wr.ownsRow (w.heap.size + 1) 3 1 (.slice (some ⟨w1.heap.size, 0, none⟩) R R) R ((cL p.s p.o R k 0).map I) ∧ Below (w.heap.size + 1) w2 wr) (fun i _ => p.s.length - (intOf i).toNat)
  case atStart => exact ⟨0, by omega, rfl, HM.out, Below.refl _ _⟩
  case round =>
    obtain ⟨k, hk, rfl, hown, hbel⟩ := hrel
    have hsz : w.heap.size + 1 ≤ wr.heap.size := by have := hbel.size; have := (own_block HM.out) _ rfl; omega
    by_cases hlt : k < p.s.length
    · obtain ⟨o1, o2, o3⟩ := HO.out k hlt
      obtain ⟨a, ha⟩ : ∃ a : Nat, (p.s[k]).1 = a := ⟨(p.s[k]).1.toNat, by omega⟩
      obtain ⟨b, hb⟩ : ∃ b : Nat, (p.s[k]).2 = b := ⟨(p.s[k]).2.toNat, by omega⟩
      obtain ⟨sb, off, rfl, hsb, hc1, hc2⟩ := ((H.out.1.below' HB2.out hB).below' hbel (by omega)).stp hlt
      have hst : p.s.getD k (0, 0) = ((a : Int), (b : Int)) := by
        have e : p.s.getD k (0, 0) = p.s[k] := by simp [hlt]
        rw [e, ← ha, ← hb]
      rw [ha] at hc1
      rw [hb] at hc2
      have haR : a < R := by have := HR.out; omega
      have hbR : b < R := by have := HR.out; omega
      have iaR : (a : Int) < (R : Int) := by omega
      have ibR : (b : Int) < (R : Int) := by omega
      obtain ⟨w3, hw3⟩ : ∃ w3, wr.alloc (.cells #[.int .i64 (a : Int), .int .i64 (b : Int)] 78) = w3 := ⟨_, rfl⟩
      obtain ⟨d0, d1, ds, db⟩ := box2 hw3
      have hown3 := own_below hown db
      have u1 := OwI.cellD hown3 haR
      rw [cL_at p.s p.o k 0 haR] at u1
      have f1 : w3.frozen? ⟨w1.heap.size, a, none⟩ = false := hown3.frozenAt _
      have hown4 := OwI.set (a := a) hown3 ((usC p.s p.o k 0 (a : Int) : Nat) + 1)
      have u2 := OwI.cellD hown4 hbR
      rw [cL_mid_at p.o haR hbR] at u2
      have f2 : (w3.setCell ⟨w1.heap.size, a, none⟩ (.int .i64 ((usC p.s p.o k 0 (a : Int) : Nat) + 1))).frozen? ⟨w1.heap.size, b, none⟩ = false := hown4.frozenAt _
      have hown5 := OwI.set (a := b) hown4 (((usC p.s p.o k 0 (b : Int) + (if b = a then 1 else 0) : Nat) : Int) + 1)
      rw [cL_step p.o haR hbR hst] at hown5
      have g1 : (w3.setCell ⟨w1.heap.size, a, none⟩ (.int .i64 ((usC p.s p.o k 0 (a : Int) : Nat) + 1))).cell? ⟨wr.heap.size, 1, none⟩ = some (.int .i64 (b : Int)) := by
        have hgw : w1.heap.size < wr.heap.size := ((own_block hown) _ rfl).2
        exact (World.cell?_of_block (a := ⟨wr.heap.size, 1, none⟩) (Below.heap_setCell w3 ⟨w1.heap.size, a, none⟩ _ wr.heap.size (by simp only []; omega))).trans d1
      have bc1 := usC_le p.s p.o k 0 (a : Int)
      have bc2 := usC_le p.s p.o k 0 (b : Int)
      obtain ⟨n1, hn1⟩ : ∃ n, usC p.s p.o k 0 (a : Int) = n := ⟨_, rfl⟩
      obtain ⟨n2, hn2⟩ : ∃ n, usC p.s p.o k 0 (b : Int) + (if b = a then 1 else 0) = n := ⟨_, rfl⟩
      have bn2 : n2 ≤ 2 * k + 1 := by rw [← hn2]; split <;> omega
      rw [hn1] at u1 f2 u2 g1 hown5 bc1
      rw [hn2] at u2 hown5
      have O5 := Lib.hid hown5
      have BEL := Lib.hid hbel
      have DB := Lib.hid db
      clear hown hbel hown3 hown4 hown5 hst ha hb o1 o2 o3 hn1 hn2 bc2 db
      have iqk : (k : Int) < (p.s.length : Int) := by omega
      go_wp2
      go_roundw
      case rel =>
        refine ⟨k + 1, by omega, by go_num, O5.out, ?_⟩
        exact ((BEL.out.trans (DB.out.mono hsz)).setCell hg _).setCell hg _
      case measure => simp [intOf]; omega
    · have hk' : k = p.s.length := by omega
      subst hk'
      have z2 := (hbel.cell (p := ⟨w.heap.size, 2, none⟩) (by simp)).trans y2
      have HB3 := Lib.hid (HB2.out.trans (hbel.mono (show w.heap.size ≤ w.heap.size + 1 by omega)))
      have OWN := Lib.hid hown
      clear hown hbel y2
      go_wp2
      go_loopw [40] (fun i wq => ∃ k : Nat, k ≤ p.o.length ∧ i = .int .i64 k ∧ wq.ownsRow (w.heap.size + 1) 3 1 (.slice (some ⟨w1.heap.size, 0, none⟩) R R) R ((cL p.s p.o R p.s.length k).map I) ∧ Below (w.heap.size + 1) wr wq) (fun i _ => p.o.length - (intOf i).toNat)
      case atStart => exact ⟨0, by omega, rfl, OWN.out, Below.refl _ _⟩
      case round =>
        obtain ⟨j, hj, rfl, hown, hbel⟩ := hrel
        by_cases hlt : j < p.o.length
        · obtain ⟨ob, oo, rfl, hob, hoc⟩ := ((H.out.2.below' HB3.out hB).below' hbel (by omega)).int hlt
          obtain ⟨q1, q2⟩ := HOUT.out _ (List.getElem_mem hlt)
          obtain ⟨v, hv⟩ : ∃ v : Nat, p.o[j] = v := ⟨(p.o[j]).toNat, by omega⟩
          have hvR : v < R := by have := HR.out; omega
          have ivR : (v : Int) < (R : Int) := by omega
          have hst : p.o.getD j 0 = (v : Int) := by simp [hlt, hv]
          rw [hv] at hoc
          have u1 := OwI.cellD hown hvR
          rw [cL_at p.s p.o p.s.length j hvR] at u1
          have f1 : wr.frozen? ⟨w1.heap.size, v, none⟩ = false := hown.frozenAt _
          have hown5 := OwI.set (a := v) hown ((usC p.s p.o p.s.length j (v : Int) : Nat) + 1)
          rw [cL_out p.s p.s.length hvR hst] at hown5
          have bc1 := usC_le p.s p.o p.s.length j (v : Int)
          obtain ⟨n1, hn1⟩ : ∃ n, usC p.s p.o p.s.length j (v : Int) = n := ⟨_, rfl⟩
          rw [hn1] at u1 hown5 bc1
          have O5 := Lib.hid hown5
          have BEL := Lib.hid hbel
          have iqj : (j : Int) < (p.o.length : Int) := by omega
          clear hown hbel hown5 hst hv q1 q2 hn1
          go_wp2
          go_roundw
          case rel => exact ⟨j + 1, by omega, by go_num, O5.out, BEL.out.setCell hg _⟩
          case measure => simp [intOf]; omega
        · have hj' : j = p.o.length := by omega
          subst hj'
          have O5 := Lib.hid hown
          have HB4 := Lib.hid (HB3.out.trans (hbel.mono (show w.heap.size ≤ w.heap.size + 1 by omega)))
          clear hown hbel
          go_wp2
          go_ret
          exact ⟨_, _, rfl, own_base O5.out (by omega), HB4.out⟩
end Go.Proofs.Ytlkieebmfmiafab
/- UsesOf, of the model and of the program. -/
namespace Go.Proofs.Ytlkieebmfmiafab
open Go.RowKit

def usR (p : Pl) : List Int := if good p then usL p else []
theorem usR_good {p : Pl} {N : Nat} (h : good p = true) (hN : p.n = N) : usR p = cL p.s p.o (N + p.s.length) p.s.length p.o.length := by
  have : p.n.toNat = N := by omega
  unfold usR usL
  rw [if_pos h, this]
theorem usR_bad {p : Pl} (h : good p = false) : usR p = [] := by unfold usR; rw [if_neg (by rw [h]; decide)]
theorem usR_le (p : Pl) : (usR p).length ≤ 1000 := by
  cases h : good p with
  | false => rw [usR_bad h]; simp
  | true =>
    obtain ⟨N, hN, _, n6, h40, _⟩ := good_facts h
    rw [usR_good h hN, cL_length]
    omega
/-- Behind withValues: the box of what it answers. -/
theorem box4v {w w1 : World} {a b c d : Value} {t : TypeId} (h : w.alloc (.cells #[a, b, c, d] t) = w1) :
    (w1.cell? ⟨w.heap.size, 0, none⟩ = some a ∧ w1.cell? ⟨w.heap.size, 1, none⟩ = some b ∧ w1.cell? ⟨w.heap.size, 2, none⟩ = some c ∧ w1.cell? ⟨w.heap.size, 3, none⟩ = some d) ∧ w1.heap.size = w.heap.size + 1 ∧ Below w.heap.size w w1 :=
  let ⟨h0, h1, h2, h3, hs, hb⟩ := box4 h
  ⟨⟨h0, h1, h2, h3⟩, hs, hb⟩

set_option maxRecDepth 100000 in
set_option maxHeartbeats 1000000 in
theorem count_any (O S : Option Addr) (n m co cs : Nat) (w : World) (hn : n ≤ 1000) (hm : m ≤ 1000) :
    Calls Try.prog 91 #[.agg #[.slice O n co, .slice S m cs]] w fun e w' => e = .returned (.int .i64 ((n : Int) + (m : Int))) ∧ Below w.heap.size w w' := by
  have hw : IntKind.i64.wrap ((n : Int) + (m : Int)) = (n : Int) + (m : Int) := IntWalk.i64_in _ (by omega)
  go_enter Try.func91, Try.ntmps91
  go_wp2
  go_ret
  exact ⟨rfl, (Below.refl _ _).alloc (Nat.le_refl _) _⟩


/-- The first k counts. -/
def cK (s : List (Int × Int)) (o : List Int) (k : Nat) : List Int := cL s o k s.length o.length
theorem cK_succ (s : List (Int × Int)) (o : List Int) (k : Nat) : cK s o (k + 1) = cK s o k ++ [((usC s o s.length o.length (k : Int) : Nat) : Int)] := by
  unfold cK cL
  rw [List.range_succ, List.map_append]
  rfl
theorem cK_len (s : List (Int × Int)) (o : List Int) (k : Nat) : (cK s o k).length = k := cL_length _ _ _ _ _

end Go.Proofs.Ytlkieebmfmiafab
/- CanTurn, of the model and of the program. -/
namespace Go.Proofs.Ytlkieebmfmiafab
open Go.RowKit

set_option maxRecDepth 100000 in
set_option maxHeartbeats 1000000 in
theorem isNone_any (O S : Option Addr) (n m co cs : Nat) (w : World) (hn : n ≤ 1000) (hm : m ≤ 1000) :
    Calls Try.prog 90 #[.agg #[.slice O n co, .slice S m cs]] w fun e w' => e = .returned (.bool (decide (m + n = 0))) ∧ Below w.heap.size w w' := by
  have HC := Lib.hid (fun W => count_any O S n m co cs W hn hm)
  have e0 : ((n : Int) + (m : Int) == 0) = decide (m + n = 0) := by
    by_cases h : m + n = 0
    · rw [decide_eq_true h]; simp; omega
    · rw [decide_eq_false h]; simp; omega
  have E := Lib.hid e0
  clear e0
  go_enter Try.func90, Try.ntmps90
  go_wp2_with fail
  go_at_call 91
  generalize hw1 : World.alloc w _ = w1
  obtain ⟨_, _, xs, xb⟩ := box2 hw1
  clear hw1
  refine (HC.out w1).mono ?_
  rintro e w2 ⟨rfl, hb2⟩
  have HB2 := Lib.hid (xb.trans (hb2.mono (show w.heap.size ≤ w1.heap.size by omega)))
  clear xs xb hb2
  go_wp2
  go_ret
  exact ⟨by rw [← E.out]; rfl, HB2.out⟩

/-- The first value that is not used, or -1. -/
def noU (s : List (Int × Int)) (o : List Int) (R : Nat) : Nat → Bool
  | 0 => false
  | k + 1 => noU s o R k || decide (usC s o s.length o.length (k : Int) = 0)
theorem noU_mono {s : List (Int × Int)} {o : List Int} {R j : Nat} (h : noU s o R j = true) : ∀ k, j ≤ k → noU s o R k = true := by
  intro k
  induction k with
  | zero => intro hk; rw [show j = 0 by omega] at h; exact h
  | succ k ih =>
    intro hk
    rcases Nat.lt_or_ge j (k + 1) with h1 | h1
    · simp only [noU, ih (by omega), Bool.true_or]
    · rw [show j = k + 1 by omega] at h; exact h

set_option maxRecDepth 100000 in
set_option maxHeartbeats 2000000 in
theorem indexNone_any (B R : Nat) (A : Option Addr) (c : Nat) (fo fs : Nat → Option Addr × Nat) (s : List (Int × Int)) (o : List Int) (w : World) (hs : s.length ≤ 40) (ho : o.length ≤ 6) (hR : R ≤ 46) (h : OwU w B A c fo fs s o R) :
    Calls Try.prog 100 #[.slice A R c, .func (.func 90) #[] #[]] w fun e w' => (∃ i : Int, e = .returned (.int .i64 i) ∧ decide (0 ≤ i) = noU s o R R) ∧ Below w.heap.size w w' := by
  have HU := Lib.hid h
  clear h
  go_enter Try.func100, Try.ntmps100
  go_wp2
  go_loopw [8] (fun iv wr => ∃ k : Nat, k ≤ R ∧ iv = .int .i64 k ∧ noU s o R k = false ∧ Below w.heap.size w wr) (fun i _ => R - (intOf i).toNat)
  case atStart => exact ⟨0, by omega, rfl, rfl, Below.refl _ _⟩
  case round =>
    obtain ⟨k, hk, rfl, hno, hbel⟩ := hrel
    by_cases hlt : k < R
    · have iqk : (k : Int) < (R : Int) := by omega
      obtain ⟨g, rfl, _, hg4, d0, d1⟩ := (HU.out.below hbel).at_ hlt
      have l1 := usS_le s (k : Int) s.length
      have l2 := usO_le o (k : Int) o.length
      have hc : usC s o s.length o.length (k : Int) = (usS s (k : Int) s.length).length + (usO o (k : Int) o.length).length := rfl
      have hno2 : noU s o R (k + 1) = decide (usC s o s.length o.length (k : Int) = 0) := by simp [noU, hno]
      rw [hc] at hno2
      obtain ⟨n, hn⟩ : ∃ n, (usO o (k : Int) o.length).length = n := ⟨_, rfl⟩
      obtain ⟨m, hm⟩ : ∃ m, (usS s (k : Int) s.length).length = m := ⟨_, rfl⟩
      obtain ⟨a1, ha1⟩ : ∃ a, fo k = a := ⟨_, rfl⟩
      obtain ⟨a2, ha2⟩ : ∃ a, fs k = a := ⟨_, rfl⟩
      rw [hn, ha1] at d0
      rw [hm, ha2] at d1
      rw [hn, hm] at hno2
      rw [hm] at l1
      rw [hn] at l2
      have HCN := fun W => isNone_any a1.1 a2.1 n m a1.2 a2.2 W (by omega) (by omega)
      obtain ⟨t, ht⟩ : ∃ t, decide (m + n = 0) = t := ⟨_, rfl⟩
      rw [ht] at HCN hno2
      have HCN := Lib.hid HCN
      have NO2 := Lib.hid hno2
      have BEL := Lib.hid hbel
      have hsz := hbel.size
      clear hc hn hm hbel ha1 ha2 hno hno2 ht
      go_wp2_with fail
      refine (HCN.out wr).mono ?_
      rintro e w5 ⟨rfl, hb5⟩
      have BEL5 := Lib.hid (BEL.out.trans (hb5.mono hsz))
      clear hb5
      cases t with
      | true =>
        go_wp2
        go_ret
        refine ⟨⟨_, rfl, ?_⟩, BEL5.out⟩
        rw [noU_mono NO2.out R (by omega)]
        exact decide_eq_true (by omega)
      | false =>
        go_wp2
        go_roundw
        case rel => exact ⟨k + 1, by omega, by go_num, NO2.out, BEL5.out⟩
        case measure => simp [intOf]; omega
    · have hk' : k = R := by omega
      subst hk'
      go_wp2
      go_ret
      exact ⟨⟨_, rfl, by rw [hno]; rfl⟩, hbel⟩

set_option maxRecDepth 100000 in
set_option maxHeartbeats 1000000 in
theorem containsNone_any (B R : Nat) (A : Option Addr) (c : Nat) (fo fs : Nat → Option Addr × Nat) (s : List (Int × Int)) (o : List Int) (w : World) (hs : s.length ≤ 40) (ho : o.length ≤ 6) (hR : R ≤ 46) (h : OwU w B A c fo fs s o R) :
    Calls Try.prog 88 #[.slice A R c, .func (.func 90) #[] #[]] w fun e w' => e = .returned (.bool (noU s o R R)) ∧ Below w.heap.size w w' := by
  have HI := Lib.hid (indexNone_any B R A c fo fs s o w hs ho hR h)
  clear h
  go_enter Try.func88, Try.ntmps88
  go_wp2_with fail
  go_at_call 100
  refine HI.out.mono ?_
  rintro e w2 ⟨⟨i, rfl, hi⟩, hb2⟩
  have HII := Lib.hid hi
  have HB2 := Lib.hid hb2
  clear hi hb2
  go_wp2
  go_ret
  exact ⟨by rw [← HII.out]; rfl, HB2.out⟩

set_option maxRecDepth 100000 in
set_option maxHeartbeats 1000000 in
theorem canTurn_any (B N R : Nat) (A1 A2 A : Option Addr) (c1 c2 c : Nat) (p : Pl) (w : World) (hs40 : p.s.length ≤ 40) (ho6 : p.o.length ≤ 6) (hR : R ≤ 46) (hB : B ≤ w.heap.size) (hr : RdP w B A1 A2 p) :
    Calls Try.prog 67 #[.agg #[.int .i64 N, .slice A1 p.s.length c1, .slice A2 p.o.length c2, .slice A R c]] w fun e w' =>
      e = .returned (.bool (!noU p.s p.o R R)) ∧ Below w.heap.size w w' := by
  have US := Lib.hid (fun W hW hr => allUses_any B N R A1 A2 A c1 c2 c p W hs40 ho6 hR hW hr)
  have H := Lib.hid hr
  clear hr
  obtain ⟨z, hz⟩ : ∃ z, noU p.s p.o R R = z := ⟨_, rfl⟩
  have HZ := Lib.hid hz
  rw [hz]
  clear hz
  go_enter Try.func67, Try.ntmps67
  go_wp2_with fail
  go_at_call 89
  generalize hw1 : World.alloc w _ = w1
  obtain ⟨_, xs, xb⟩ := box4v hw1
  clear hw1
  refine (US.out w1 (by omega) (H.out.below' xb hB)).mono ?_
  rintro e w2 ⟨A3, c3, fo, fs, rfl, hU, hb2⟩
  have hC := containsNone_any _ R A3 c3 fo fs p.s p.o w2 hs40 ho6 hR hU
  rw [HZ.out] at hC
  have HC := Lib.hid hC
  have HB2 := Lib.hid (xb.trans (hb2.mono (show w.heap.size ≤ w1.heap.size by omega)))
  clear hU hb2 xs xb hC
  go_wp2_with fail
  go_at_call 88
  refine HC.out.mono ?_
  rintro e w3 ⟨rfl, hb3⟩
  have HB3 := Lib.hid (HB2.out.trans (hb3.mono HB2.out.size))
  clear hb3
  go_wp2
  go_ret
  exact ⟨rfl, HB3.out⟩

/-- Whether a plan can be turned round. -/
def canB (p : Pl) : Bool := decide (0 < p.o.length) && !hasI (usL p) 0
def canR (p : Pl) : Bool := good p && canB p
theorem noU_iff {s : List (Int × Int)} {o : List Int} {R : Nat} : ∀ k, noU s o R k = true ↔ ∃ v : Nat, v < k ∧ usC s o s.length o.length (v : Int) = 0 := by
  intro k
  induction k with
  | zero => simp [noU]
  | succ k ih =>
    simp only [noU, Bool.or_eq_true, decide_eq_true_eq]
    rw [ih]
    constructor
    · rintro (⟨v, h1, h2⟩ | h)
      · exact ⟨v, by omega, h2⟩
      · exact ⟨k, by omega, h⟩
    · rintro ⟨v, h1, h2⟩
      rcases Nat.lt_or_ge v k with h3 | h3
      · exact .inl ⟨v, h3, h2⟩
      · right
        rw [show k = v by omega]
        exact h2
theorem noU_has (s : List (Int × Int)) (o : List Int) (R : Nat) : hasI (cL s o R s.length o.length) 0 = noU s o R R := by
  rw [Bool.eq_iff_iff, noU_iff]
  unfold hasI cL
  rw [List.contains_iff_mem, List.mem_map]
  constructor
  · rintro ⟨v, h1, h2⟩
    exact ⟨v, List.mem_range.1 h1, by omega⟩
  · rintro ⟨v, h1, h2⟩
    exact ⟨v, List.mem_range.2 h1, by omega⟩
theorem can_eq {p : Pl} {N : Nat} (hN : p.n = N) (n1 : 1 ≤ N) (hok : OkS N p.s) : canB p = !noU p.s p.o (N + p.s.length) (N + p.s.length) := by
  have hn : p.n.toNat = N := by omega
  unfold canB usL
  rw [hn, noU_has]
  by_cases ho : 0 < p.o.length
  · rw [decide_eq_true ho, Bool.true_and]
  · have : noU p.s p.o (N + p.s.length) (N + p.s.length) = true := by
      rw [noU_iff]
      refine ⟨N + p.s.length - 1, by omega, ?_⟩
      have h1 : usS p.s ((N + p.s.length - 1 : Nat) : Int) p.s.length = [] := by
        apply List.eq_nil_iff_forall_not_mem.2
        intro x hx
        obtain ⟨i, hi, _, h3⟩ := mem_usS.1 hx
        obtain ⟨q1, q2, q3⟩ := hok i hi
        have e : p.s.getD i (0, 0) = p.s[i] := by simp [hi]
        rw [e] at h3
        rcases h3 with h3 | h3 <;> omega
      have h2 : p.o = [] := by
        apply List.eq_nil_of_length_eq_zero
        omega
      unfold usC
      rw [h1, h2]
      rfl
    rw [this, decide_eq_false ho]
    rfl
end Go.Proofs.Ytlkieebmfmiafab
/- CanTurn: what both sides answer. -/
namespace Go.Proofs.Ytlkieebmfmiafab
open Go.RowKit

set_option maxRecDepth 100000 in
set_option maxHeartbeats 1000000 in
theorem duCan_any (B N : Nat) (A1 A2 : Option Addr) (c1 c2 : Nat) (p : Pl) (w : World) (hpn : p.n = N) (h6 : N ≤ 6) (hs40 : p.s.length ≤ 40) (ho6 : p.o.length ≤ 6) (hB : B ≤ w.heap.size) (hok : OkS N p.s)
    (hout : ∀ x ∈ p.o, 0 ≤ x ∧ x < (N : Int) + p.s.length) (hr : RdP w B A1 A2 p) :
    Calls Try.prog 56 #[.agg #[.int .i64 p.n, .slice A1 p.s.length c1, .slice A2 p.o.length c2]] w fun e w' => e = .returned (.bool (canB p)) ∧ Below w.heap.size w w' := by
  have hn : p.n.toNat = N := by omega
  have H := Lib.hid hr
  by_cases hlt : 0 < p.o.length
  · have hcb : canB p = !hasI (cL p.s p.o (N + p.s.length) p.s.length p.o.length) 0 := by
      unfold canB usL
      rw [hn, decide_eq_true hlt, Bool.true_and]
    have CB := Lib.hid hcb
    have HC := Lib.hid (fun W hW hr => duUses_any B N (N + p.s.length) A1 A2 c1 c2 p W hpn h6 hs40 ho6 rfl hW hok hout hr)
    obtain ⟨L, hL⟩ : ∃ L, cL p.s p.o (N + p.s.length) p.s.length p.o.length = L := ⟨_, rfl⟩
    have hLl : L.length = N + p.s.length := by rw [← hL]; exact cL_length _ _ _ _ _
    rw [hL] at CB HC
    obtain ⟨z, hz⟩ : ∃ z, hasI L 0 = z := ⟨_, rfl⟩
    have HZ := Lib.hid hz
    rw [hz] at CB
    have i0 : (0 : Int) < (p.o.length : Int) := by omega
    have hLL := Lib.hid hLl
    clear hr hn hpn hok hout hcb hL hz hLl
    go_enter Try.func56, Try.ntmps56
    go_wp2_with fail
    go_at_call 79
    generalize hw1 : World.alloc w _ = w1
    obtain ⟨x0, x1, x2, xs, xb⟩ := box3 hw1
    clear hw1
    refine (HC.out w1 (by omega) (H.out.below' xb hB)).mono ?_
    rintro e w2 ⟨A3, c3, rfl, hown, hb2⟩
    have HB2 := Lib.hid (xb.trans (hb2.mono (show w.heap.size ≤ w1.heap.size by omega)))
    have hH := l1Has_any w2.heap.size A3 c3 L 0 w2 (by have := hLL.out; omega) (by have h := Rd.of_own hown; rw [hLL.out]; exact h)
    rw [HZ.out, hLL.out] at hH
    have HH := Lib.hid hH
    clear x0 x1 x2 xs xb hown hb2 hH
    go_wp2_with fail
    go_at_call 71
    refine HH.out.mono ?_
    rintro e w3 ⟨rfl, rfl⟩
    go_wp2
    go_ret
    exact ⟨by rw [CB.out]; rfl, HB2.out⟩
  · have hcb : canB p = false := by
      unfold canB
      rw [decide_eq_false hlt, Bool.false_and]
    have CB := Lib.hid hcb
    have i0 : ¬ (0 : Int) < (p.o.length : Int) := by omega
    clear hcb hr
    go_enter Try.func56, Try.ntmps56
    go_wp2
    go_ret
    exact ⟨by rw [CB.out]; rfl, (Below.refl _ _).alloc (Nat.le_refl _) _⟩


end Go.Proofs.Ytlkieebmfmiafab
/- Paths to a value, by the program. -/
namespace Go.Proofs.Ytlkieebmfmiafab
open Go.RowKit Go.Shelf

attribute [local go_sem] Oper.semAt_some

/-- What a round does, whatever the numbers. -/
def wb1 (N : Nat) (s : List (Int × Int)) (l : List Int) (i : Nat) : List Int := l.set (st1 s i) (IntKind.i64.wrap (l.getD (st1 s i) 0 + l.getD (N + i) 0))
def wb (N : Nat) (s : List (Int × Int)) (l : List Int) (i : Nat) : List Int := (wb1 N s l i).set (st2 s i) (IntKind.i64.wrap ((wb1 N s l i).getD (st2 s i) 0 + (wb1 N s l i).getD (N + i) 0))
def wbF (N R e : Nat) (s : List (Int × Int)) (pre : List (Fin s.length)) : List Int := pre.foldl (fun l i => wb N s l i.val) ((List.replicate R 0).set e 1)
theorem wb_len (N : Nat) (s : List (Int × Int)) (l : List Int) (i : Nat) : (wb N s l i).length = l.length := by simp [wb, wb1]
theorem wbF_len (N R e : Nat) (s : List (Int × Int)) (pre : List (Fin s.length)) : (wbF N R e s pre).length = R := by
  have key : ∀ (pre : List (Fin s.length)) (l : List Int), (pre.foldl (fun l i => wb N s l i.val) l).length = l.length := by
    intro pre
    induction pre with
    | nil => intro l; rfl
    | cons i pre ih => intro l; rw [List.foldl_cons, ih, wb_len]
  unfold wbF
  rw [key]
  simp
theorem wbF_snoc (N R e : Nat) (s : List (Int × Int)) (pre : List (Fin s.length)) (i : Fin s.length) : wbF N R e s (pre ++ [i]) = wb N s (wbF N R e s pre) i.val := by
  unfold wbF
  rw [List.foldl_append]
  rfl
theorem wbF_bw {N R e : Nat} {s : List (Int × Int)} (hR : R = N + s.length) (hs : Bfr N s) (he : e < R) (h40 : s.length ≤ 40) : ∀ j, j ≤ s.length → wbF N R e s (dwn s.length j) = bw N R e s j := by
  intro j
  induction j with
  | zero => intro _; rfl
  | succ j ih =>
    intro hj
    rw [dwn_succ (by omega), wbF_snoc, ih (by omega)]
    obtain ⟨i, hi⟩ : ∃ i, s.length - 1 - j = i := ⟨_, rfl⟩
    obtain ⟨h1, h2⟩ := hs i (by omega)
    have nn := bw_nonneg hR hs he j (by omega)
    have nn1 := bw_nonneg hR hs he (j + 1) hj
    have le1 : ∀ v, v < N + (s.length - (j + 1)) → (bw N R e s (j + 1)).getD v 0 ≤ 1099511627776 := fun v hv => Int.le_trans (bw_le hR hs he hj hv) (pa_big hR h40 hs (by omega) he).2
    have le0 : ∀ v, v < N + (s.length - j) → (bw N R e s j).getD v 0 ≤ 1099511627776 := fun v hv => Int.le_trans (bw_le hR hs he (by omega) hv) (pa_big hR h40 hs (by omega) he).2
    have q1 := nn (st1 s i)
    have q2 := nn (N + i)
    have q3 := le0 (st1 s i) (by omega)
    have q4 := le0 (N + i) (by omega)
    have w1 : wb1 N s (bw N R e s j) i = bw1 N s (bw N R e s j) i := by
      unfold wb1 bw1
      rw [IntWalk.i64_in _ (by omega)]
    have hl1 : (bw1 N s (bw N R e s j) i).length = R := by rw [bw1_len, bw_len]
    have hNi : (bw1 N s (bw N R e s j) i).getD (N + i) 0 = (bw N R e s j).getD (N + i) 0 := by
      unfold bw1
      rw [getD_setI _ _ _ _ (by rw [bw_len]; omega), if_neg (by omega)]
    have q5 : 0 ≤ (bw1 N s (bw N R e s j) i).getD (st2 s i) 0 ∧ (bw1 N s (bw N R e s j) i).getD (st2 s i) 0 ≤ 2199023255552 := by
      unfold bw1
      rw [getD_setI _ _ _ _ (by rw [bw_len]; omega)]
      have q6 := nn (st2 s i)
      have q7 := le0 (st2 s i) (by omega)
      split <;> omega
    show wb N s (bw N R e s j) (s.length - 1 - j) = _
    simp only [bw]
    rw [hi]
    unfold wb
    rw [w1, hNi, IntWalk.i64_in _ (by omega)]

end Go.Proofs.Ytlkieebmfmiafab
/- PickOutputs, of the model and of the program. -/
namespace Go.Proofs.Ytlkieebmfmiafab
open Go.RowKit

theorem pickB_bad {p : Pl} {l : List Int} (h : pickB p l = false) : pickR p l = zeroQ := by
  unfold pickR
  rw [if_neg (by rw [h]; decide)]
theorem pickB_good {p : Pl} {l : List Int} (h : pickB p l = true) : pickR p l = ⟨p.n, p.s, pickO p l l.length⟩ := by
  unfold pickR
  rw [if_pos h]

end Go.Proofs.Ytlkieebmfmiafab
/- PickOutputs of the program. -/
namespace Go.Proofs.Ytlkieebmfmiafab
open Go.RowKit

theorem eq_nil_steps (A : Option Addr) (n c : Nat) (W : World) : (binOp .eql 23 (.slice A n c) (.slice none 0 0)).run Try.prog W = .ok (.bool A.isNone) W := by
  simp only [binOp]
  simp [run_equal_slice_nil W 23 78 A n c Try.underlying23]

theorem allB_step {l : List Int} {m : Int} {k : Nat} (hk : k < l.length) (h : allB (l.take k) 0 m = true) (h0 : 0 ≤ l[k]) (h1 : l[k] ≤ m) : allB (l.take (k + 1)) 0 m = true := by
  rw [allB_take hk h]
  simp [inB, h0, h1]
theorem allB_low {l : List Int} {m : Int} {k : Nat} (hk : k < l.length) (h0 : ¬ (0 ≤ l[k] ∧ l[k] ≤ m)) : allB l 0 m = false := by
  refine allB_miss hk ?_
  unfold inB
  rw [Bool.and_eq_false_iff, decide_eq_false_iff_not, decide_eq_false_iff_not]
  omega

end Go.Proofs.Ytlkieebmfmiafab
