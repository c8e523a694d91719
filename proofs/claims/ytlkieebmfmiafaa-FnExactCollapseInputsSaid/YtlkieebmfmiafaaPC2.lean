/- Joined: Qm Qa Qb Qc Qd Qe Ql Qf Qg Us Ut Uu Uv Kb Kd Ta Tb Pa Ja. -/
import Derived.Test.YtlkieebmfmiafaaPC0
import Derived.Test.YtlkieebmfmiafaaPC1
/- Chains as data: strictly rising lists, the sums of a number, the steps of a chain. -/
namespace Go.Proofs.Ytlkieebmfmiafaa

/-- Strictly rising. -/
def Asc (l : List Int) : Prop := ∀ i j, i < j → j < l.length → l.getD i 0 < l.getD j 0
/-- What a sum of the number k with the greater index j is: index i. -/
def prsI (l : List Int) (k j n : Nat) : List (Int × Int) := ((List.range n).filter fun i : Nat => l.getD i 0 + l.getD j 0 == l.getD k 0).map fun i : Nat => ((i : Int), (j : Int))
def prsJ (l : List Int) (k j : Nat) : List (Int × Int) := prsI l k j (j + 1)
def prs (l : List Int) (k m : Nat) : List (Int × Int) := (List.range m).flatMap (prsJ l k)

theorem prsI_zero (l : List Int) (k j : Nat) : prsI l k j 0 = [] := rfl
theorem prsI_hit {l : List Int} {k j n : Nat} (h : l.getD n 0 + l.getD j 0 = l.getD k 0) : prsI l k j (n + 1) = prsI l k j n ++ [((n : Int), (j : Int))] := by
  unfold prsI
  have e : (l.getD n 0 + l.getD j 0 == l.getD k 0) = true := by simpa only [beq_iff_eq] using h
  rw [List.range_succ, List.filter_append, List.map_append]
  simp only [List.filter_cons, List.filter_nil, e]
  rfl
theorem prsI_miss {l : List Int} {k j n : Nat} (h : ¬ l.getD n 0 + l.getD j 0 = l.getD k 0) : prsI l k j (n + 1) = prsI l k j n := by
  unfold prsI
  have e : (l.getD n 0 + l.getD j 0 == l.getD k 0) = false := by simpa only [beq_eq_false_iff_ne] using h
  rw [List.range_succ, List.filter_append, List.map_append]
  simp only [List.filter_cons, List.filter_nil, e]
  simp
theorem prs_zero (l : List Int) (k : Nat) : prs l k 0 = [] := rfl
theorem prs_succ (l : List Int) (k m : Nat) : prs l k (m + 1) = prs l k m ++ prsJ l k m := by
  unfold prs
  rw [List.range_succ, List.flatMap_append]
  simp
theorem prsI_le (l : List Int) (k j n : Nat) : (prsI l k j n).length ≤ n := by
  unfold prsI
  rw [List.length_map]
  exact Nat.le_trans (List.length_filter_le _ _) (by simp)

theorem take_succ_getD {l : List Int} {k : Nat} (hk : k < l.length) : l.take (k + 1) = l.take k ++ [l.getD k 0] := by
  rw [List.take_succ_eq_append_getElem hk]
  simp [hk]
theorem mem_take_getD {l : List Int} {k : Nat} {x : Int} (hk : k ≤ l.length) : x ∈ l.take k ↔ ∃ i, i < k ∧ l.getD i 0 = x := by
  rw [List.mem_iff_getElem]
  constructor
  · rintro ⟨i, hi, rfl⟩
    have h1 : i < k := by rw [List.length_take] at hi; omega
    refine ⟨i, h1, ?_⟩
    rw [List.getElem_take]
    simp [show i < l.length by omega]
  · rintro ⟨i, hi, rfl⟩
    refine ⟨i, by rw [List.length_take]; omega, ?_⟩
    rw [List.getElem_take]
    simp [show i < l.length by omega]
/-- In a strictly rising list the index of x is the number of lesser numbers. -/
theorem count_at {l : List Int} {x : Int} : ∀ m, m ≤ l.length →
    (∀ i, i < m → l.getD i 0 < x) → (l.take m).countP (fun y => decide (y < x)) = m := by
  intro m
  induction m with
  | zero => intro _ _; rfl
  | succ m ih =>
    intro hm h
    rw [take_succ_getD (by omega), List.countP_append, ih (by omega) (fun i hi => h i (by omega))]
    have e2 : decide (l.getD m 0 < x) = true := by simpa only [decide_eq_true_eq] using h m (by omega)
    simp only [List.countP_cons, List.countP_nil, e2]
    simp
theorem find_eq {l : List Int} (ha : Asc l) (x : Int) : ∀ m, m ≤ l.length →
    ((List.range m).filter fun i => l.getD i 0 == x) = if x ∈ l.take m then [(l.take m).countP (fun y => decide (y < x))] else [] := by
  intro m
  induction m with
  | zero => intro _; simp
  | succ m ih =>
    intro hm
    rw [List.range_succ, List.filter_append, ih (by omega), take_succ_getD (by omega)]
    by_cases hx : l.getD m 0 = x
    · have hnot : ¬ x ∈ l.take m := by
        rw [mem_take_getD (by omega)]
        rintro ⟨i, hi, he⟩
        have := ha i m hi (by omega)
        omega
      have hc : (l.take m).countP (fun y => decide (y < x)) = m := count_at m (by omega) fun i hi => by have := ha i m hi (by omega); omega
      rw [if_neg hnot, List.countP_append, hc]
      rw [if_pos (by rw [hx]; simp)]
      have e1 : (l.getD m 0 == x) = true := by simpa using hx
      have e2 : decide (l.getD m 0 < x) = false := by simp only [decide_eq_false_iff_not]; omega
      simp only [List.filter_cons, List.filter_nil, e1, List.countP_cons, List.countP_nil, e2]
      simp
    · by_cases hin : x ∈ l.take m
      · rw [if_pos hin, if_pos (List.mem_append_left _ hin), List.countP_append]
        obtain ⟨i, hi, he⟩ := (mem_take_getD (by omega)).1 hin
        have := ha i m hi (by omega)
        have h1 : ¬ l.getD m 0 < x := by omega
        have h2 : (l.getD m 0 == x) = false := by simpa using hx
        simp only [List.filter_cons, h2, List.countP_cons, List.countP_nil, h1, List.filter_nil]
        simp
      · have h2 : (l.getD m 0 == x) = false := by simpa using hx
        have hnot : ¬ x ∈ l.take m ++ [l.getD m 0] := by
          intro h
          rcases List.mem_append.1 h with h | h
          · exact hin h
          · exact hx (List.mem_singleton.1 h).symm
        rw [if_neg hin, if_neg hnot]
        simp only [List.filter_cons, h2, List.filter_nil]
        simp
theorem prsJ_eq {l : List Int} (ha : Asc l) (k j : Nat) (hj : j < l.length) :
    prsJ l k j = if l.getD k 0 - l.getD j 0 ∈ l.take (j + 1) then [((((l.take (j + 1)).countP (fun y => decide (y < l.getD k 0 - l.getD j 0)) : Nat) : Int), (j : Int))] else [] := by
  unfold prsJ prsI
  have e : (fun i : Nat => l.getD i 0 + l.getD j 0 == l.getD k 0) = fun i : Nat => l.getD i 0 == l.getD k 0 - l.getD j 0 := by
    funext i
    rw [Bool.eq_iff_iff]
    simp only [beq_iff_eq]
    omega
  rw [e, find_eq ha _ (j + 1) (by omega)]
  split <;> rfl
theorem prsJ_le {l : List Int} (ha : Asc l) (k j : Nat) (hj : j < l.length) : (prsJ l k j).length ≤ 1 := by
  rw [prsJ_eq ha k j hj]
  split <;> simp
theorem prs_le {l : List Int} (ha : Asc l) (k : Nat) : ∀ m, m ≤ l.length → (prs l k m).length ≤ m := by
  intro m
  induction m with
  | zero => intro _; simp [prs_zero]
  | succ m ih =>
    intro h
    rw [prs_succ, List.length_append]
    have := ih (by omega)
    have := prsJ_le ha k m (by omega)
    omega
/-- The parts of a sum: 0 ≤ A ≤ B < m. -/
theorem prs_mem {l : List Int} {k : Nat} : ∀ m, ∀ p ∈ prs l k m, ∃ i j : Nat, p = ((i : Int), (j : Int)) ∧ i ≤ j ∧ j < m ∧ l.getD i 0 + l.getD j 0 = l.getD k 0 := by
  intro m
  induction m with
  | zero => intro p hp; simp [prs_zero] at hp
  | succ m ih =>
    intro p hp
    rw [prs_succ] at hp
    rcases List.mem_append.1 hp with h | h
    · obtain ⟨i, j, e, h1, h2, h3⟩ := ih p h
      exact ⟨i, j, e, h1, by omega, h3⟩
    · unfold prsJ prsI at h
      simp only [List.mem_map, List.mem_filter, List.mem_range, beq_iff_eq] at h
      obtain ⟨i, ⟨hi, he⟩, rfl⟩ := h
      exact ⟨i, m, rfl, by omega, by omega, he⟩

/-- Rising, and within lo..hi, up to index k. -/
def risB (l : List Int) (lo hi : Int) (k : Nat) : Bool := (List.range k).all fun i => inB (l.getD i 0) lo hi && (decide (i = 0) || decide (l.getD (i - 1) 0 < l.getD i 0))
theorem risB_succ (l : List Int) (lo hi : Int) (k : Nat) : risB l lo hi (k + 1) = (risB l lo hi k && (inB (l.getD k 0) lo hi && (decide (k = 0) || decide (l.getD (k - 1) 0 < l.getD k 0)))) := by
  unfold risB
  rw [List.range_succ, List.all_append]
  simp
theorem risB_false {l : List Int} {lo hi : Int} {k : Nat} (n : Nat) (hk : k < n) (h : (inB (l.getD k 0) lo hi && (decide (k = 0) || decide (l.getD (k - 1) 0 < l.getD k 0))) = false) : risB l lo hi n = false := by
  unfold risB
  rw [List.all_eq_false]
  exact ⟨k, List.mem_range.2 hk, by rw [h]; simp⟩
theorem risB_asc {l : List Int} {lo hi : Int} : ∀ n, risB l lo hi n = true → n ≤ l.length → (∀ i, i < n → lo ≤ l.getD i 0 ∧ l.getD i 0 ≤ hi) ∧ ∀ i j, i < j → j < n → l.getD i 0 < l.getD j 0 := by
  intro n
  induction n with
  | zero => intro _ _; exact ⟨fun i h => absurd h (by omega), fun i j _ h => absurd h (by omega)⟩
  | succ n ih =>
    intro h hn
    rw [risB_succ] at h
    simp only [Bool.and_eq_true, Bool.or_eq_true, decide_eq_true_eq, inB] at h
    obtain ⟨h1, ⟨h2, h3⟩, h4⟩ := h
    obtain ⟨i1, i2⟩ := ih h1 (by omega)
    refine ⟨fun i hi => ?_, fun i j hij hj => ?_⟩
    · rcases Nat.lt_or_eq_of_le (Nat.le_of_lt_succ hi) with h | rfl
      · exact i1 i h
      · exact ⟨h2, h3⟩
    · rcases Nat.lt_or_eq_of_le (Nat.le_of_lt_succ hj) with h | rfl
      · exact i2 i j hij h
      · rcases h4 with h4 | h4
        · omega
        · rcases Nat.lt_or_eq_of_le (Nat.le_sub_one_of_lt hij) with h5 | rfl
          · have := i2 i (j - 1) h5 (by omega)
            omega
          · exact h4
/-- All of a chain but the sums. -/
def chB (l : List Int) : Bool := inB (l.length : Nat) 1 41 && (l.getD 0 0 == 1) && risB l 1 1000000 l.length
def sumsB (l : List Int) (k : Nat) : Bool := (List.range k).all fun i => decide (i = 0) || !(prs l i i).isEmpty
def chG (l : List Int) : Bool := chB l && sumsB l l.length
theorem sumsB_succ (l : List Int) (k : Nat) : sumsB l (k + 1) = (sumsB l k && (decide (k = 0) || !(prs l k k).isEmpty)) := by
  unfold sumsB
  rw [List.range_succ, List.all_append]
  simp
theorem sumsB_false {l : List Int} {k : Nat} (n : Nat) (hk : k < n) (h0 : k ≠ 0) (h : prs l k k = []) : sumsB l n = false := by
  unfold sumsB
  rw [List.all_eq_false]
  exact ⟨k, List.mem_range.2 hk, by simp [h, h0]⟩
/-- The last sum of each number from 1 to k - 1. -/
def stepsK (l : List Int) (k : Nat) : List (Int × Int) := (List.range (k - 1)).map fun i => (prs l (i + 1) (i + 1)).getLastD (0, 0)
theorem stepsK_succ (l : List Int) (k : Nat) (hk : 1 ≤ k) : stepsK l (k + 1) = stepsK l k ++ [(prs l k k).getLastD (0, 0)] := by
  unfold stepsK
  rw [show k + 1 - 1 = (k - 1) + 1 by omega, List.range_succ, List.map_append]
  simp [show k - 1 + 1 = k by omega]
theorem stepsK_length (l : List Int) (k : Nat) : (stepsK l k).length = k - 1 := by simp [stepsK]
theorem stepsK_one (l : List Int) : stepsK l 1 = [] := rfl

structure Chn (l : List Int) : Prop where
  pos : 1 ≤ l.length
  most : l.length ≤ 41
  one : l.getD 0 0 = 1
  rng : ∀ i, i < l.length → 1 ≤ l.getD i 0 ∧ l.getD i 0 ≤ 1000000
  asc : Asc l
theorem chn_of {l : List Int} (h : chB l = true) : Chn l := by
  unfold chB at h
  simp only [Bool.and_eq_true, inB, decide_eq_true_eq, beq_iff_eq] at h
  obtain ⟨⟨⟨h1, h2⟩, h3⟩, h4⟩ := h
  obtain ⟨h5, h6⟩ := risB_asc l.length h4 (Nat.le_refl _)
  exact ⟨by omega, by omega, h3, h5, h6⟩
theorem risB_of {l : List Int} {lo hi : Int} : ∀ n, (∀ i, i < n → lo ≤ l.getD i 0 ∧ l.getD i 0 ≤ hi) → (∀ i, i + 1 < n → l.getD i 0 < l.getD (i + 1) 0) → risB l lo hi n = true := by
  intro n
  induction n with
  | zero => intro _ _; rfl
  | succ n ih =>
    intro h1 h2
    rw [risB_succ, ih (fun i hi => h1 i (by omega)) (fun i hi => h2 i (by omega))]
    have := h1 n (by omega)
    simp only [Bool.true_and, Bool.and_eq_true, Bool.or_eq_true, decide_eq_true_eq, inB]
    refine ⟨this, ?_⟩
    rcases Nat.eq_zero_or_pos n with h | h
    · exact .inl h
    · right
      have := h2 (n - 1) (by omega)
      rwa [show n - 1 + 1 = n by omega] at this
theorem chn_chB {l : List Int} (h : Chn l) : chB l = true := by
  have h3 := h.one
  have h1 := h.pos
  have h2 := h.most
  unfold chB
  rw [risB_of l.length h.rng fun i hi => h.asc i (i + 1) (by omega) hi]
  simp only [Bool.and_true, Bool.and_eq_true, inB, decide_eq_true_eq, beq_iff_eq]
  exact ⟨⟨by omega, by omega⟩, h3⟩
theorem chG_chn {l : List Int} (h : chG l = true) : Chn l := chn_of (by unfold chG at h; simp only [Bool.and_eq_true] at h; exact h.1)
theorem chG_sums {l : List Int} (h : chG l = true) : ∀ k, 1 ≤ k → k < l.length → prs l k k ≠ [] := by
  intro k h1 h2 he
  unfold chG at h
  rw [sumsB_false l.length h2 (by omega) he] at h
  simp at h
theorem getLastD_snoc {α : Type} (l : List α) (a d : α) : (l ++ [a]).getLastD d = a := by simp
theorem last_form {l : List (Int × Int)} (h : l ≠ []) : l.getLastD (0, 0) = l[l.length - 1]'(by have := List.length_pos_iff.2 h; omega) := by
  rw [List.getLastD_eq_getLast?, List.getLast?_eq_getElem?]
  have := List.length_pos_iff.2 h
  simp [show l.length - 1 < l.length by omega]
end Go.Proofs.Ytlkieebmfmiafaa
/- The model's small functions of chains: rising lists, the sums of a number. -/
namespace Go.Proofs.Ytlkieebmfmiafaa
open Go.RowKit

/-- The cell of element k. -/
theorem Rd.intD {w : World} {B : Nat} {A : Option Addr} {l : List Int} (h : Rd w B 1 A l.length (l.map I)) {k : Nat} (hk : k < l.length) :
    ∃ b off, A = some ⟨b, off, none⟩ ∧ b < B ∧ w.cell? ⟨b, off + k, none⟩ = some (.int .i64 (l.getD k 0)) := by
  obtain ⟨b, off, e, hb, hc⟩ := h.int hk
  exact ⟨b, off, e, hb, by rw [hc]; simp [hk]⟩
/-- All cells of a list that is not empty. -/
theorem Rd.cells {w : World} {B : Nat} {A : Option Addr} {l : List Int} (h : Rd w B 1 A l.length (l.map I)) (h0 : 0 < l.length) :
    ∃ b off, A = some ⟨b, off, none⟩ ∧ b < B ∧ ∀ k, k < l.length → w.cell? ⟨b, off + k, none⟩ = some (.int .i64 (l.getD k 0)) := by
  obtain ⟨b, off, e, hb, hc⟩ := h.2 (by omega)
  refine ⟨b, off, e, hb, fun k hk => ?_⟩
  rw [hc k (by omega)]
  simp [I, hk]

end Go.Proofs.Ytlkieebmfmiafaa
/- The model's sums of a number of a list. -/
namespace Go.Proofs.Ytlkieebmfmiafaa
open Go.RowKit

theorem OwS.nil (w : World) (B : Nat) : OwS w B (.slice none 0 0) [] := World.ownsRow_nil _ _ _ _
theorem OwS.below {w w' : World} {B : Nat} {v : Value} {s : List (Int × Int)} (h : OwS w B v s) (hb : Below w.heap.size w w') : OwS w' B v s := own_below h hb
theorem OwS.base {w : World} {B B' : Nat} {v : Value} {s : List (Int × Int)} (h : OwS w B v s) (hB : B' ≤ B) : OwS w B' v s := own_base h hB
theorem OwS.rd {w : World} {B : Nat} {A : Option Addr} {c : Nat} {s : List (Int × Int)} (h : OwS w B (.slice A s.length c) s) : Rd w w.heap.size 2 A s.length (fl s) := Rd.of_own h

end Go.Proofs.Ytlkieebmfmiafaa
/- Whether a list is a chain, and its steps, by the model. -/
namespace Go.Proofs.Ytlkieebmfmiafaa
open Go.RowKit

theorem sumsB_one (l : List Int) : sumsB l 1 = true := rfl
theorem isEmpty_ne {α : Type} {l : List α} (h : l ≠ []) : l.isEmpty = false := by cases l with | nil => exact absurd rfl h | cons => rfl

end Go.Proofs.Ytlkieebmfmiafaa
/- The steps of a chain, by the model. -/
namespace Go.Proofs.Ytlkieebmfmiafaa
open Go.RowKit

/-- The last element of an own row of steps. -/
theorem OwS.last {w : World} {B : Nat} {A : Option Addr} {c q : Nat} {P : List (Int × Int)} (h : OwS w B (.slice A (q + 1) c) P) (hq : P.length = q + 1) :
    ∃ g x y, A = some ⟨g, 0, none⟩ ∧ B ≤ g ∧ g < w.heap.size ∧ w.cell? ⟨g, q * 2, none⟩ = some (.int .i64 x) ∧ w.cell? ⟨g, q * 2 + 1, none⟩ = some (.int .i64 y) ∧ P.getLastD (0, 0) = (x, y) := by
  unfold OwS at h
  rw [hq] at h
  obtain ⟨g, rfl, hB, hg, hc, _⟩ := own_at h (by omega)
  have hlt : q < P.length := by omega
  obtain ⟨f1, f2⟩ := fl_at hlt
  refine ⟨g, P[q].1, P[q].2, rfl, hB, hg, by rw [hc _ (by omega), f1], by rw [hc _ (by omega), f2], ?_⟩
  have hne : P ≠ [] := by intro h; rw [h] at hq; simp at hq
  rw [last_form hne]
  simp [hq]

end Go.Proofs.Ytlkieebmfmiafaa
/- The program's search in a rising list, and the sums of a number. -/
namespace Go.Proofs.Ytlkieebmfmiafaa
open Go.RowKit

/-- How many numbers of the list are less than x. -/
def cnt (l : List Int) (x : Int) : Nat := l.countP fun y => decide (y < x)
theorem cnt_at {l : List Int} {x : Int} {i : Nat} (hi : i ≤ l.length) (h1 : ∀ t, t < i → l.getD t 0 < x) (h2 : ∀ t, i ≤ t → t < l.length → x ≤ l.getD t 0) : cnt l x = i := by
  unfold cnt
  rw [← List.take_append_drop i l, List.countP_append, count_at i hi h1]
  have : (l.drop i).countP (fun y => decide (y < x)) = 0 := by
    rw [List.countP_eq_zero]
    intro y hy
    obtain ⟨j, hj, rfl⟩ := List.mem_iff_getElem.1 hy
    rw [List.length_drop] at hj
    have := h2 (i + j) (by omega) (by omega)
    rw [List.getElem_drop]
    simp only [decide_eq_true_eq]
    have e : l.getD (i + j) 0 = l[i + j]'(by omega) := by simp [show i + j < l.length by omega]
    omega
  omega
theorem mem_at {l : List Int} (ha : Asc l) {x : Int} {i : Nat} (hi : i ≤ l.length) (h1 : ∀ t, t < i → l.getD t 0 < x) (h2 : ∀ t, i ≤ t → t < l.length → x ≤ l.getD t 0) : decide (x ∈ l) = decide (i < l.length ∧ l.getD i 0 = x) := by
  rw [decide_eq_decide]
  have e := mem_take_getD (l := l) (k := l.length) (x := x) (Nat.le_refl _)
  rw [List.take_length] at e
  rw [e]
  constructor
  · rintro ⟨j, hj, rfl⟩
    rcases Nat.lt_trichotomy j i with h | rfl | h
    · have := h1 j h; omega
    · exact ⟨hj, rfl⟩
    · have := h2 i (Nat.le_refl _) (by omega)
      have := ha i j h hj
      omega
  · rintro ⟨h, rfl⟩
    exact ⟨i, h, rfl⟩
theorem asc_le {l : List Int} (ha : Asc l) {i j : Nat} (h : i ≤ j) (hj : j < l.length) : l.getD i 0 ≤ l.getD j 0 := by
  rcases Nat.lt_or_eq_of_le h with h | rfl
  · exact Int.le_of_lt (ha i j h hj)
  · exact Int.le_refl _

end Go.Proofs.Ytlkieebmfmiafaa
/- Small lemmas of the laws over lists. -/
namespace Go.Proofs.Ytlkieebmfmiafaa
open Go.ChangeShapes Go.WideShapes Go.ChangeAt Go.RowKit Go.Deep Go.Joins
theorem OwI.cap {w : World} {B c n : Nat} {A : Option Addr} {l : List Int} (h : OwI w B (.slice A n c) l) : l.length ≤ c := by
  obtain ⟨A', c', e, hc⟩ := own_form h
  simp only [Value.slice.injEq] at e
  obtain ⟨_, _, rfl⟩ := e
  exact hc
/-- Two rows, the one made behind the other, lie apart. -/
theorem own_apart {w0 w : World} {B B' sz sz' n n' : Nat} {e e' : TypeId} {v v' : Value} {xs xs' : List Value} (h : w0.ownsRow B e sz v n xs) (h' : w.ownsRow B' e' sz' v' n' xs') (hB : w0.heap.size ≤ B') : v'.ownBlock = none ∨ v'.ownBlock ≠ v.ownBlock := by
  cases hv : v'.ownBlock with
  | none => exact .inl rfl
  | some k =>
    right
    intro hh
    have h1 := (own_block h' k hv).1
    have h2 := (own_block h k hh.symm).2
    omega
end Go.Proofs.Ytlkieebmfmiafaa
/- The program's sums of a number. -/
namespace Go.Proofs.Ytlkieebmfmiafaa
open Go.RowKit

theorem Rd.take {w : World} {B : Nat} {A : Option Addr} {l : List Int} (h : Rd w B 1 A l.length (l.map I)) {n : Nat} (hn : n ≤ l.length) : Rd w B 1 A n ((l.take n).map I) := by
  refine ⟨by simp; omega, fun h0 => ?_⟩
  obtain ⟨b, off, e, hb, hc⟩ := h.2 (by omega)
  refine ⟨b, off, e, hb, fun j hj => ?_⟩
  rw [hc j (by omega), List.map_take, List.getElem?_take]
  simp [show j < n by omega]
theorem asc_take {l : List Int} (h : Asc l) (n : Nat) : Asc (l.take n) := by
  intro i j hij hj
  rw [List.length_take] at hj
  have e : ∀ t, t < n → t < l.length → (l.take n).getD t 0 = l.getD t 0 := fun t h1 h2 => by simp [h1, h2]
  rw [e i (by omega) (by omega), e j (by omega) (by omega)]
  exact h i j hij (by omega)

end Go.Proofs.Ytlkieebmfmiafaa
/- Whether a list is a chain, and its steps, by the program. -/
namespace Go.Proofs.Ytlkieebmfmiafaa
open Go.RowKit

/-- The steps that are answered: of no chain none. -/
def chS (l : List Int) : List (Int × Int) := if chG l then stepsK l l.length else []
theorem chS_true {l : List Int} (h : chG l = true) : chS l = stepsK l l.length := by unfold chS; rw [if_pos h]
theorem chS_false {l : List Int} (h : chG l = false) : chS l = [] := by unfold chS; rw [h]; rfl
theorem chS_le (l : List Int) : (chS l).length ≤ 1000 := by
  unfold chS
  split
  · rename_i h
    rw [stepsK_length]
    have := (chG_chn h).most
    omega
  · simp
theorem may_false {l : List Int} {k : Nat} (hk : k + 1 < l.length) (h : l.getD (k + 1) 0 ≤ l.getD k 0) : chB l = false := by
  unfold chB
  rw [risB_false (l := l) (lo := 1) (hi := 1000000) (k := k + 1) l.length hk (by
    rw [show k + 1 - 1 = k from rfl]
    have h1 : decide (l.getD k 0 < l.getD (k + 1) 0) = false := by rw [decide_eq_false_iff_not]; omega
    rw [h1]
    simp), Bool.and_false]
theorem may_end {l : List Int} (h1 : 1 ≤ l.length) (h2 : l.length ≤ 41) (h3 : l.getD 0 0 = 1) (h : ∀ i, i + 1 < l.length → l.getD i 0 < l.getD (i + 1) 0) : chB l = decide (l.getD (l.length - 1) 0 ≤ 1000000) := by
  have hup : ∀ j, j < l.length → ∀ i, i ≤ j → l.getD i 0 ≤ l.getD j 0 := by
    intro j
    induction j with
    | zero => intro _ i hi; rw [show i = 0 by omega]; exact Int.le_refl _
    | succ j ih =>
      intro hj i hi
      rcases Nat.lt_or_eq_of_le hi with hi | rfl
      · have := ih (by omega) i (by omega)
        have := h j hj
        omega
      · exact Int.le_refl _
  by_cases hle : l.getD (l.length - 1) 0 ≤ 1000000
  · rw [decide_eq_true hle]
    unfold chB
    rw [risB_of l.length (fun i hi => ⟨by have := hup i hi 0 (by omega); rw [h3] at this; exact this, by have := hup (l.length - 1) (by omega) i (by omega); omega⟩) h, h3]
    unfold inB
    rw [decide_eq_true (show (1 : Int) ≤ ((l.length : Nat) : Int) by omega), decide_eq_true (show ((l.length : Nat) : Int) ≤ 41 by omega)]
    rfl
  · rw [decide_eq_false hle]
    unfold chB
    rw [risB_false (l := l) (lo := 1) (hi := 1000000) (k := l.length - 1) l.length (by omega) (by
      unfold inB
      rw [decide_eq_false hle]
      simp), Bool.and_false]

end Go.Proofs.Ytlkieebmfmiafaa
/- Used steps, of the model and of the program. -/
namespace Go.Proofs.Ytlkieebmfmiafaa
open Go.RowKit

theorem put_below {w w2 w3 : World} {o o' : Obj} (h : Below w.heap.size (w.alloc o) w2) (h' : Below w.heap.size (w2.alloc o') w3) : Below w.heap.size w w3 := by
  have hs2 : w.heap.size ≤ w2.heap.size := by have := h.size; simp at this; omega
  exact ((((Below.refl _ _).alloc (Nat.le_refl _) _).trans h).alloc hs2 _).trans h'

set_option maxHeartbeats 1000000 in
theorem l1Put_any (B : Nat) (A : Option Addr) (c : Nat) (l : List Int) (n : Int) (w : World) (hm : l.length ≤ 1000000) (hB : B ≤ w.heap.size) (hlt : ∀ x ∈ l, n < x) (hcap : l.length ≤ c) (hr : Rd w B 1 A l.length (l.map I)) :
    Calls Try.prog 119 #[.slice A l.length c, .int .i64 n] w fun e w' => ∃ A' c', e = .returned (.slice A' (l.length + 1) c') ∧ OwI w' w.heap.size (.slice A' (l.length + 1) c') (n :: l) ∧ Below w.heap.size w w' := by
  have H := Lib.hid hr
  have HLT := Lib.hid hlt
  clear hr hlt
  go_enter Try.func119, Try.ntmps119
  go_wp2
  go_loop [5] (fun i => i = .int .i64 0) (fun _ => 0)
  case atStart => rfl
  case round =>
    subst hrel
    by_cases hl : 0 < l.length
    · obtain ⟨b, off, rfl, hb, hcell⟩ := H.out.int hl
      rw [Nat.add_zero] at hcell
      have h1 := HLT.out _ (List.getElem_mem hl)
      have h2 : ¬ l[0] < n := by omega
      have h3 : ¬ l[0] = n := by omega
      have i0 : (0 : Int) < (l.length : Int) := by omega
      go_wp2_with (first
        | (at_builtin; refine list_step (fun K hK => ?_); refine step_appM Try.underlying23 info_int rfl (by omega) (by omega) rfl (.tmp 34) (.tmp 37) rfl w.heap.size 0 _ [] rfl (own_empty 1 (Nat.le_refl _)) _ 0 _ [] rfl (Rd.nil _ 0 _ _) (by simp) (by omega) (by simp) ?_; intro A2 c2 w2 hown2 hg2 hbel2; go_simp; refine hK _ _ ?_; clear hK K)
        | (at_builtin; refine list_step (fun K hK => ?_); refine step_app1 Try.underlying23 info_int rfl (by omega) rfl (.tmp 39) (.tmp 41) rfl w.heap.size 0 _ [] rfl (World.ownsRow.alloc hown2 _) w2.heap.size 1 (I n) rfl (by simp) rfl (by omega) (by have := hbel2.size; simp at this; simp; omega) ?_; intro A3 c3 w3 hown3 hg3 hbel3; go_simp; refine hK _ _ ?_; clear hK K)
        | (at_builtin; refine list_step (fun K hK => ?_); have hb23 := put_below hbel2 hbel3; refine step_appM Try.underlying23 info_int rfl (by omega) (by omega) rfl (.tmp 43) (.tmp 46) rfl w.heap.size 1 _ _ rfl hown3 _ l.length _ (l.map I) rfl (H.out.below' hb23 hB) (ints_one l) (by omega) hb23.size ?_; intro A4 c4 w4 hown4 hg4 hbel4; go_simp; refine hK _ _ ?_; clear hK K))
      go_ret
      refine ⟨A4, c4, ret_slice (by omega), ?_, (put_below hbel2 hbel3).trans hbel4⟩
      have h := hown4
      rw [show 1 + l.length = l.length + 1 by omega] at h
      simpa [OwI] using h
    · have hl0 : l.length = 0 := by omega
      go_wp2_with (first
        | (at_builtin; refine list_step (fun K hK => ?_); refine step_appM Try.underlying23 info_int rfl (by omega) (by omega) rfl (.tmp 34) (.tmp 37) rfl w.heap.size 0 _ [] rfl (own_empty 1 (Nat.le_refl _)) _ 0 _ [] rfl (Rd.nil _ 0 _ _) (by simp) (by omega) (by simp) ?_; intro A2 c2 w2 hown2 hg2 hbel2; go_simp; refine hK _ _ ?_; clear hK K)
        | (at_builtin; refine list_step (fun K hK => ?_); refine step_app1 Try.underlying23 info_int rfl (by omega) rfl (.tmp 39) (.tmp 41) rfl w.heap.size 0 _ [] rfl (World.ownsRow.alloc hown2 _) w2.heap.size 1 (I n) rfl (by simp) rfl (by omega) (by have := hbel2.size; simp at this; simp; omega) ?_; intro A3 c3 w3 hown3 hg3 hbel3; go_simp; refine hK _ _ ?_; clear hK K)
        | (at_builtin; refine list_step (fun K hK => ?_); have hb23 := put_below hbel2 hbel3; refine step_appM Try.underlying23 info_int rfl (by omega) (by omega) rfl (.tmp 43) (.tmp 46) rfl w.heap.size 1 _ _ rfl hown3 _ 0 _ (l.map I) rfl (by have h := H.out.below' hb23 hB; rw [hl0] at h; exact h) (ints_one l) (by omega) hb23.size ?_; intro A4 c4 w4 hown4 hg4 hbel4; go_simp; refine hK _ _ ?_; clear hK K))
      go_ret
      refine ⟨A4, c4, ret_slice (by omega), ?_, (put_below hbel2 hbel3).trans hbel4⟩
      have h := hown4
      rw [show 1 + 0 = l.length + 1 by omega] at h
      show w4.ownsRow _ _ _ _ _ _
      have e1 : (n :: l).length = l.length + 1 := rfl
      rw [e1]
      first | exact h | (rw [hl0] at h ⊢; exact h)
end Go.Proofs.Ytlkieebmfmiafaa
/- Used steps: what they are, and the model's. -/
namespace Go.Proofs.Ytlkieebmfmiafaa
open Go.RowKit

def needI (N : Nat) (s : List (Int × Int)) (o : List Int) : Nat → List Int
  | 0 => o
  | j + 1 => if hasI (needI N s o j) ((N : Int) + ((s.length - 1 - j : Nat) : Int)) then needI N s o j ++ [(s.getD (s.length - 1 - j) (0, 0)).1, (s.getD (s.length - 1 - j) (0, 0)).2] else needI N s o j
def finI (N : Nat) (s : List (Int × Int)) (o : List Int) (i : Nat) : Bool := hasI (needI N s o s.length) ((N : Int) + (i : Int))
def usT (N : Nat) (s : List (Int × Int)) (o : List Int) (j : Nat) : List Int := ((List.range' (s.length - j) j).filter (finI N s o)).map fun i : Nat => (i : Int)
def usd (N : Nat) (s : List (Int × Int)) (o : List Int) : List Int := usT N s o s.length

theorem hasI_two (l : List Int) (a b x : Int) : hasI (l ++ [a, b]) x = (hasI l x || (x == a || x == b)) := by
  unfold hasI
  rw [Bool.eq_iff_iff]
  simp
theorem need_hit {N : Nat} {s : List (Int × Int)} {o : List Int} {j i : Nat} (hi : i < s.length) (hij : s.length - 1 - j = i) (h : hasI (needI N s o j) ((N : Int) + (i : Int)) = true) : needI N s o (j + 1) = needI N s o j ++ [(s[i]).1, (s[i]).2] := by
  subst hij
  simp only [needI]
  rw [if_pos h]
  simp [hi]
theorem need_miss {N : Nat} {s : List (Int × Int)} {o : List Int} {j i : Nat} (hij : s.length - 1 - j = i) (h : hasI (needI N s o j) ((N : Int) + (i : Int)) = false) : needI N s o (j + 1) = needI N s o j := by
  subst hij
  simp only [needI]
  rw [if_neg (by rw [h]; decide)]
theorem need_len (N : Nat) (s : List (Int × Int)) (o : List Int) : ∀ j, (needI N s o j).length ≤ o.length + 2 * j := by
  intro j
  induction j with
  | zero => simp [needI]
  | succ j ih =>
    simp only [needI]
    split
    · simp; omega
    · omega
theorem need_stable {N : Nat} {s : List (Int × Int)} {o : List Int} (hs : OkS N s) {j i : Nat} (hj : j < s.length) (hij : s.length - 1 - j = i) : ∀ d, j + d ≤ s.length → hasI (needI N s o (j + d)) ((N : Int) + (i : Int)) = hasI (needI N s o j) ((N : Int) + (i : Int)) := by
  intro d
  induction d with
  | zero => intro _; rfl
  | succ d ih =>
    intro hd
    have ih := ih (by omega)
    have hlt : s.length - 1 - (j + d) < s.length := by omega
    obtain ⟨h1, h2, h3⟩ := hs _ hlt
    show hasI (needI N s o (j + d + 1)) _ = _
    cases hq : hasI (needI N s o (j + d)) ((N : Int) + ((s.length - 1 - (j + d) : Nat) : Int)) with
    | true =>
      rw [need_hit hlt rfl hq, hasI_two, ih]
      have e1 : (((N : Int) + (i : Int)) == (s[s.length - 1 - (j + d)]).1) = false := by rw [beq_eq_false_iff_ne]; omega
      have e2 : (((N : Int) + (i : Int)) == (s[s.length - 1 - (j + d)]).2) = false := by rw [beq_eq_false_iff_ne]; omega
      rw [e1, e2]
      simp
    | false => rw [need_miss rfl hq, ih]
theorem fin_at {N : Nat} {s : List (Int × Int)} {o : List Int} (hs : OkS N s) {j i : Nat} (hj : j < s.length) (hij : s.length - 1 - j = i) : finI N s o i = hasI (needI N s o j) ((N : Int) + (i : Int)) := by
  have h := need_stable (o := o) hs hj hij (s.length - j) (by omega)
  rw [show j + (s.length - j) = s.length by omega] at h
  exact h
theorem us_hit {N : Nat} {s : List (Int × Int)} {o : List Int} {j i : Nat} (hj : j < s.length) (hij : s.length - 1 - j = i) (h : finI N s o i = true) : usT N s o (j + 1) = (i : Int) :: usT N s o j := by
  unfold usT
  rw [show s.length - (j + 1) = i by omega, List.range'_succ, show i + 1 = s.length - j by omega, List.filter_cons_of_pos h]
  rfl
theorem us_miss {N : Nat} {s : List (Int × Int)} {o : List Int} {j i : Nat} (hj : j < s.length) (hij : s.length - 1 - j = i) (h : finI N s o i = false) : usT N s o (j + 1) = usT N s o j := by
  unfold usT
  rw [show s.length - (j + 1) = i by omega, List.range'_succ, show i + 1 = s.length - j by omega, List.filter_cons_of_neg (by rw [h]; decide)]
theorem us_gt {N : Nat} {s : List (Int × Int)} {o : List Int} {j i : Nat} (hj : j < s.length) (hij : s.length - 1 - j = i) : ∀ x ∈ usT N s o j, (i : Int) < x := by
  intro x hx
  unfold usT at hx
  simp only [List.mem_map, List.mem_filter, List.mem_range'_1] at hx
  obtain ⟨y, ⟨hy, _⟩, rfl⟩ := hx
  omega
theorem us_len (N : Nat) (s : List (Int × Int)) (o : List Int) (j : Nat) : (usT N s o j).length ≤ j := by
  unfold usT
  rw [List.length_map]
  exact Nat.le_trans (List.length_filter_le _ _) (by simp)
theorem own_cap {w : World} {B e sz n c : Nat} {A : Option Addr} {xs : List Value} (h : w.ownsRow B e sz (.slice A n c) n xs) : n ≤ c := by
  obtain ⟨A0, c0, e0, h0⟩ := own_form h
  injection e0 with _ _ e1
  omega
theorem rd_two {w : World} {g : Nat} {a b : Int} (h0 : w.cell? ⟨g, 0, none⟩ = some (I a)) (h1 : w.cell? ⟨g, 1, none⟩ = some (I b)) : Rd w (g + 1) 1 (some ⟨g, 0, none⟩) 2 ([a, b].map I) :=
  ⟨rfl, fun _ => ⟨g, 0, rfl, by omega, fun j hj => by
    have hj2 : j = 0 ∨ j = 1 := by omega
    rcases hj2 with rfl | rfl
    · exact h0
    · exact h1⟩⟩

end Go.Proofs.Ytlkieebmfmiafaa
/- Used steps: the program's. -/
namespace Go.Proofs.Ytlkieebmfmiafaa
open Go.RowKit

theorem info_bool : (Try.prog.info? 4).map (fun i => (i.zero, i.size, i.bytes)) = some (some (.bool false), 1, 1) := by kernel_rfl
def bools (l : List Int) (R : Nat) : List Value := (List.range R).map fun v : Nat => Value.bool (hasI l (v : Int))
theorem bools_length (l : List Int) (R : Nat) : (bools l R).length = R := by simp [bools]
theorem bools_nil (R : Nat) : bools [] R = List.replicate R (.bool false) := by
  apply List.ext_getElem?
  intro j
  by_cases hj : j < R <;> simp [bools, hj, hasI]
theorem bools_set (l : List Int) {R a : Nat} (ha : a < R) : (bools l R).set a (.bool true) = bools (l ++ [(a : Int)]) R := by
  apply List.ext_getElem?
  intro j
  by_cases hj : j < R
  · by_cases hja : a = j
    · subst hja
      rw [List.getElem?_set_self (by rw [bools_length]; exact ha)]
      simp [bools, ha, hasI]
    · rw [List.getElem?_set_ne hja]
      have : ¬ (j : Int) = (a : Int) := by omega
      simp [bools, hj, hasI, this]
  · rw [List.getElem?_eq_none (by simp [bools]; omega), List.getElem?_eq_none (by simp [bools]; omega)]
theorem bools_at (l : List Int) {R a : Nat} (ha : a < R) : (bools l R)[a]? = some (.bool (hasI l (a : Int))) := by simp [bools, ha]
theorem box4 {w w1 : World} {a b c d : Value} {t : TypeId} (h : w.alloc (.cells #[a, b, c, d] t) = w1) :
    w1.cell? ⟨w.heap.size, 0, none⟩ = some a ∧ w1.cell? ⟨w.heap.size, 1, none⟩ = some b ∧ w1.cell? ⟨w.heap.size, 2, none⟩ = some c ∧ w1.cell? ⟨w.heap.size, 3, none⟩ = some d ∧ w1.heap.size = w.heap.size + 1 ∧ Below w.heap.size w w1 := by
  subst h
  refine ⟨?_, ?_, ?_, ?_, by simp, (Below.refl _ _).alloc (Nat.le_refl _) _⟩ <;> (rw [World.cell?_alloc_at _ _ _ _ rfl]; rfl)
theorem bools_own {w : World} {B : Nat} (n : Nat) (hn : n ≤ 1000) (hB : B ≤ w.heap.size) :
    (w.alloc (.cells (madeCells #[Value.bool false] n) 4)).ownsRow B 4 1 (.slice (some ⟨w.heap.size, 0, none⟩) n n) n (bools [] n) := by
  have h := World.ownsRow_lit (base := B) (e := 4) (size := 1) w (madeCells #[Value.bool false] n) n hB (by unfold maxLen; omega) (by simp [size_madeCells])
  rw [toList_madeCells_one] at h
  rw [bools_nil]
  exact h

/-- A store of true. -/
theorem own_set1 {w : World} {B g R a : Nat} {l : List Int} (h : w.ownsRow B 4 1 (.slice (some ⟨g, 0, none⟩) R R) R (bools l R)) (ha : a < R) :
    w.frozen? ⟨g, a, none⟩ = false ∧ (∃ u, w.cell? ⟨g, a, none⟩ = some (.bool u)) ∧ (w.setCell ⟨g, a, none⟩ (.bool true)).ownsRow B 4 1 (.slice (some ⟨g, 0, none⟩) R R) R (bools (l ++ [(a : Int)]) R) := by
  refine ⟨h.frozenAt _, ⟨_, by rw [h.cellAt _ (by omega)]; exact bools_at _ ha⟩, ?_⟩
  have h1 := (h.stored a (.bool true)).1
  rw [bools_set _ ha] at h1
  exact h1

def usP (N : Nat) (s : List (Int × Int)) (o : List Int) (k : Nat) : List Int := ((List.range k).filter (finI N s o)).map fun i : Nat => (i : Int)
theorem usP_all (N : Nat) (s : List (Int × Int)) (o : List Int) : usP N s o s.length = usd N s o := by
  unfold usP usd usT
  rw [Nat.sub_self, List.range_eq_range']
theorem usP_len (N : Nat) (s : List (Int × Int)) (o : List Int) (k : Nat) : (usP N s o k).length ≤ k := by
  unfold usP
  rw [List.length_map]
  exact Nat.le_trans (List.length_filter_le _ _) (by simp)
theorem usP_hit {N : Nat} {s : List (Int × Int)} {o : List Int} {k : Nat} (h : finI N s o k = true) : usP N s o (k + 1) = usP N s o k ++ [(k : Int)] := by
  unfold usP
  rw [List.range_succ, List.filter_append, List.map_append]
  simp [h]
theorem usP_miss {N : Nat} {s : List (Int × Int)} {o : List Int} {k : Nat} (h : finI N s o k = false) : usP N s o (k + 1) = usP N s o k := by
  unfold usP
  rw [List.range_succ, List.filter_append, List.map_append]
  simp [h]

end Go.Proofs.Ytlkieebmfmiafaa
/- UsedSteps and IsTrim, of the model and of the program. -/
namespace Go.Proofs.Ytlkieebmfmiafaa
open Go.RowKit

def usdP (p : Pl) : List Int := if good p then usd p.n.toNat p.s p.o else []
def trimB (p : Pl) : Bool := good p && decide ((usdP p).length = p.s.length)
theorem usdP_len (p : Pl) : (usdP p).length ≤ 40 := by
  unfold usdP
  split
  · rename_i h
    obtain ⟨N, hN, _, _, h40, _⟩ := good_facts h
    have := us_len p.n.toNat p.s p.o p.s.length
    unfold usd
    omega
  · simp

theorem rows_len {p : Pl} {N : Nat} (hN : p.n = N) : ((exps p.n.toNat p.s).map (pad p.n.toNat)).length = N + p.s.length := by
  rw [List.length_map, exps_length]
  omega
theorem box5 {w w1 : World} {a b c d : Value} {t : TypeId} (h : w.alloc (.cells #[a, b, c, d] t) = w1) : w1.heap.size = w.heap.size + 1 ∧ Below w.heap.size w w1 := (box4 h).2.2.2.2

end Go.Proofs.Ytlkieebmfmiafaa
/- A plan with only some steps, in an order: the model's. -/
namespace Go.Proofs.Ytlkieebmfmiafaa
open Go.RowKit

/-- Three stores into a plan's box. -/
theorem own_set3 {w : World} {g B sz n : Nat} {t e : TypeId} {v : Value} {xs : List Value} {cs : Array Value} (h : w.ownsRow B e sz v n xs) (hg : w.heap[g]? = some (.cells cs t (0, 0))) (ht : t ≠ e) (a b c : Value) :
    (((w.setCell ⟨g, 0, none⟩ a).setCell ⟨g, 1, none⟩ b).setCell ⟨g, 2, none⟩ c).ownsRow B e sz v n xs := by
  have h1 := own_set (o := 0) h hg ht a
  have k1 := heap_setCell_same w g 0 _ t a hg
  have h2 := own_set (o := 1) h1 k1 ht b
  have k2 := heap_setCell_same _ g 1 _ t b k1
  exact own_set (o := 2) h2 k2 ht c

end Go.Proofs.Ytlkieebmfmiafaa
/- A plan with only some steps, in an order: the program's. -/
namespace Go.Proofs.Ytlkieebmfmiafaa
open Go.RowKit

def nmOk (N : Nat) (t : List Int) (v : Int) : Bool := decide (v < N) || hasI t (v - N)
def nmI (N : Nat) (t : List Int) (v : Int) : Int := if v < N then v else if hasI t (v - N) then N + plc t (v - N) 0 else -1
def nmT (N m : Nat) (t : List Int) : List Int := (List.range (N + m)).map fun v : Nat => nmI N t (v : Int)
theorem nmT_length (N m : Nat) (t : List Int) : (nmT N m t).length = N + m := by simp [nmT]
theorem nmT_at (N m : Nat) (t : List Int) {v : Nat} (hv : v < N + m) : (nmT N m t)[v]'(by rw [nmT_length]; exact hv) = nmI N t (v : Int) := by simp [nmT]
theorem nm_bad {N : Nat} {t : List Int} {v : Int} (h : nmOk N t v = false) : nmI N t v = -1 := by
  unfold nmOk at h
  rw [Bool.or_eq_false_iff, decide_eq_false_iff_not] at h
  unfold nmI
  rw [if_neg h.1, if_neg (by rw [h.2]; decide)]
theorem nm_good {N : Nat} {l : List Int} {k : Nat} {v : Int} (h : nmOk N (l.take k) v = true) : nmI N (l.take k) v = numI N l v := by
  unfold nmOk at h
  unfold nmI numI
  by_cases hv : v < N
  · rw [if_pos hv, if_pos hv]
  · have h2 : hasI (l.take k) (v - N) = true := by
      rw [Bool.or_eq_true, decide_eq_true_eq] at h
      rcases h with h | h
      · exact absurd h hv
      · exact h
    rw [if_neg hv, if_neg hv, if_pos h2]
    have e := plc_app (l.take k) (l.drop k) (v - N) 0
    rw [List.take_append_drop, h2] at e
    rw [e]
    rfl
theorem nm_nonneg {N : Nat} {l : List Int} {v : Int} (h0 : 0 ≤ v) {k : Nat} (h : nmOk N (l.take k) v = true) : 0 ≤ numI N l v := by
  rw [← nm_good h]
  unfold nmOk at h
  unfold nmI
  by_cases hv : v < N
  · rw [if_pos hv]; exact h0
  · have h2 : hasI (l.take k) (v - N) = true := by
      rw [Bool.or_eq_true, decide_eq_true_eq] at h
      rcases h with h | h
      · exact absurd h hv
      · exact h
    rw [if_neg hv, if_pos h2]
    have := plc_nonneg h2 0
    omega
theorem nm_set {N m n k : Nat} {t : List Int} (ht : hasI t (n : Int) = false) (hk : t.length = k) : (nmT N m t).set (N + n) ((N : Int) + (k : Int)) = nmT N m (t ++ [(n : Int)]) := by
  apply List.ext_getElem?
  intro j
  by_cases hj : j < N + m
  · rw [show (nmT N m (t ++ [(n : Int)]))[j]? = some (nmI N (t ++ [(n : Int)]) (j : Int)) by simp [nmT, hj]]
    by_cases hjn : N + n = j
    · subst hjn
      rw [List.getElem?_set_self (by rw [nmT_length]; exact hj)]
      unfold nmI
      have e1 : ((N + n : Nat) : Int) - (N : Int) = (n : Int) := by omega
      have e2 : hasI (t ++ [(n : Int)]) (n : Int) = true := by simp [hasI]
      rw [if_neg (by omega), e1, if_pos e2, plc_app, ht]
      simp [plc, hk]
    · rw [List.getElem?_set_ne hjn, show (nmT N m t)[j]? = some (nmI N t (j : Int)) by simp [nmT, hj]]
      unfold nmI
      by_cases hjN : (j : Int) < (N : Int)
      · rw [if_pos hjN, if_pos hjN]
      · have e2 : hasI (t ++ [(n : Int)]) ((j : Int) - (N : Int)) = hasI t ((j : Int) - (N : Int)) := by
          unfold hasI
          rw [Bool.eq_iff_iff]
          simp
          omega
        rw [if_neg hjN, if_neg hjN, e2]
        by_cases hh : hasI t ((j : Int) - (N : Int)) = true
        · rw [if_pos hh, if_pos hh, plc_app, if_pos hh]
        · rw [if_neg hh, if_neg hh]
  · rw [List.getElem?_eq_none (by rw [List.length_set, nmT_length]; omega), List.getElem?_eq_none (by rw [nmT_length]; omega)]
theorem nm_start (N m : Nat) : ups N ++ List.replicate m (-1 : Int) = nmT N m [] := by
  apply List.ext_getElem?
  intro j
  by_cases hj : j < N + m
  · rw [show (nmT N m [])[j]? = some (nmI N [] (j : Int)) by simp [nmT, hj]]
    by_cases hjN : j < N
    · rw [List.getElem?_append_left (by rw [ups_length]; exact hjN)]
      have : (j : Int) < (N : Int) := by omega
      simp [ups, hjN, nmI, this]
    · rw [List.getElem?_append_right (by rw [ups_length]; omega), ups_length, List.getElem?_replicate, if_pos (by omega)]
      have : ¬ (j : Int) < (N : Int) := by omega
      simp [nmI, this, hasI]
  · rw [List.getElem?_eq_none (by simp [ups_length]; omega), List.getElem?_eq_none (by rw [nmT_length]; omega)]

def stepAt (p : Pl) (l : List Int) (i : Nat) : Int × Int := p.s.getD (l.getD i 0).toNat (0, 0)
def kOk (N : Nat) (p : Pl) (l : List Int) (k : Nat) : Bool := (List.range k).all fun i => nmOk N (l.take i) (stepAt p l i).1 && nmOk N (l.take i) (stepAt p l i).2
theorem stepAt_eq {p : Pl} {l : List Int} {k n : Nat} (hk : k < l.length) (hn : l[k] = (n : Int)) (hns : n < p.s.length) : stepAt p l k = p.s[n] := by
  unfold stepAt
  have : l.getD k 0 = (n : Int) := by simp [hk, hn]
  rw [this]
  simp [hns]
theorem kOk_succ (N : Nat) (p : Pl) (l : List Int) (k : Nat) : kOk N p l (k + 1) = (kOk N p l k && (nmOk N (l.take k) (stepAt p l k).1 && nmOk N (l.take k) (stepAt p l k).2)) := by
  unfold kOk
  rw [List.range_succ, List.all_append]
  simp
theorem kOk_false {N : Nat} {p : Pl} {l : List Int} {k : Nat} (hk : k < l.length) (h : (nmOk N (l.take k) (stepAt p l k).1 && nmOk N (l.take k) (stepAt p l k).2) = false) : kOk N p l l.length = false := by
  unfold kOk
  rw [List.all_eq_false]
  exact ⟨k, by simpa using hk, by rw [h]; decide⟩
def KeepPost (p : Pl) (N : Nat) (l : List Int) (w : World) (e : Ending) (w' : World) : Prop :=
  Below w.heap.size w w' ∧ (if kOk N p l l.length = true then ∃ B1 B2 d1 d2, e = .returned (.tuple #[.agg #[.int .i64 (N : Int), .slice B1 l.length d1, .slice B2 p.o.length d2], .bool true]) ∧ OwS w' w.heap.size (.slice B1 l.length d1) (keepS p N l l.length) ∧ OwI w' w.heap.size (.slice B2 p.o.length d2) (keepO p N l p.o.length)
    else e = .returned (.tuple #[.agg #[.int .i64 0, .slice none 0 0, .slice none 0 0], .bool false]))
theorem keepPost_none {p : Pl} {N : Nat} {l : List Int} {w w' : World} (h : kOk N p l l.length = false) (hb : Below w.heap.size w w') : KeepPost p N l w (.returned (.tuple #[.agg #[.int .i64 0, .slice none 0 0, .slice none 0 0], .bool false])) w' :=
  ⟨hb, by rw [if_neg (by rw [h]; decide)]⟩
theorem has_take_nodup {l : List Int} (hnd : l.Nodup) {k : Nat} (hk : k < l.length) : hasI (l.take k) l[k] = false := by
  unfold hasI
  simp only [List.contains_eq_mem, decide_eq_false_iff_not]
  intro hmem
  obtain ⟨i, hi, he⟩ := List.mem_iff_getElem.1 hmem
  rw [List.getElem_take] at he
  have hik : i < k := by simp at hi; omega
  have := (List.nodup_iff_pairwise_ne.1 hnd)
  rw [List.pairwise_iff_getElem] at this
  exact this i k (by omega) hk hik he

/-- A store into a row of another type. -/
theorem own_store_other {w : World} {B B' sz sz' n n' g o c' : Nat} {e e' : TypeId} {v : Value} {xs xs' : List Value} (h : w.ownsRow B e sz v n xs) (h' : w.ownsRow B' e' sz' (.slice (some ⟨g, 0, none⟩) n' c') n' xs') (hne : e' ≠ e) (u : Value) :
    (w.setCell ⟨g, o, none⟩ u).ownsRow B e sz v n xs := by
  rcases h'.2 with ⟨hv, _⟩ | ⟨g', cap, cur, hv, _, hg', _⟩
  · injection hv with hv _ _
    cases hv
  · injection hv with hv _ _
    injection hv with hv
    injection hv with hv _ _
    subst hv
    exact own_set h hg' hne u

end Go.Proofs.Ytlkieebmfmiafaa
/- Trimmed plans: used steps are kept with all that they need. -/
namespace Go.Proofs.Ytlkieebmfmiafaa
open Go.RowKit

theorem need_mono {N : Nat} {s : List (Int × Int)} {o : List Int} {x : Int} {j : Nat} : ∀ d, hasI (needI N s o j) x = true → hasI (needI N s o (j + d)) x = true := by
  intro d
  induction d with
  | zero => intro h; exact h
  | succ d ih =>
    intro h
    have ih := ih h
    show hasI (needI N s o (j + d + 1)) x = true
    simp only [needI]
    split
    · rw [hasI_two, ih]; rfl
    · exact ih
theorem usd_mem {N : Nat} {s : List (Int × Int)} {o : List Int} {x : Int} : x ∈ usd N s o ↔ ∃ i : Nat, i < s.length ∧ finI N s o i = true ∧ x = i := by
  unfold usd usT
  simp only [List.mem_map, List.mem_filter, List.mem_range'_1]
  constructor
  · rintro ⟨i, ⟨h1, h2⟩, rfl⟩
    exact ⟨i, by omega, h2, rfl⟩
  · rintro ⟨i, h1, h2, rfl⟩
    exact ⟨i, ⟨by omega, h2⟩, rfl⟩
theorem usd_sorted (N : Nat) (s : List (Int × Int)) (o : List Int) : (usd N s o).Pairwise (· < ·) := by
  unfold usd usT
  rw [List.pairwise_map]
  refine List.Pairwise.filter _ ?_
  refine List.Pairwise.imp ?_ (List.pairwise_lt_range' (s := s.length - s.length) (n := s.length) (step := 1))
  intro a b h
  omega
theorem usd_nodup (N : Nat) (s : List (Int × Int)) (o : List Int) : (usd N s o).Nodup := by
  rw [List.nodup_iff_pairwise_ne]
  exact List.Pairwise.imp (fun h => by omega) (usd_sorted N s o)
theorem take_of_lt {l : List Int} (hs : l.Pairwise (· < ·)) {k : Nat} (hk : k < l.length) {x : Int} (hx : x ∈ l) (hlt : x < l[k]) : hasI (l.take k) x = true := by
  unfold hasI
  simp only [List.contains_eq_mem, decide_eq_true_eq]
  obtain ⟨i, hi, rfl⟩ := List.mem_iff_getElem.1 hx
  rw [List.pairwise_iff_getElem] at hs
  have hik : i < k := by
    rcases Nat.lt_or_ge i k with h | h
    · exact h
    · exfalso
      rcases Nat.lt_or_eq_of_le h with h | h
      · have := hs k i hk hi h; omega
      · subst h; omega
  exact List.mem_iff_getElem.2 ⟨i, by simp; omega, by rw [List.getElem_take]⟩
theorem fin_of_has {N : Nat} {s : List (Int × Int)} {o : List Int} {x : Int} {j : Nat} (hj : j ≤ s.length) (h : hasI (needI N s o j) x = true) {i : Nat} (hx : x = (N : Int) + (i : Int)) : finI N s o i = true := by
  unfold finI
  rw [← hx]
  have := need_mono (s.length - j) h
  rwa [show j + (s.length - j) = s.length by omega] at this
theorem usd_cover {N : Nat} {s : List (Int × Int)} {o : List Int} (hout : ∀ x ∈ o, 0 ≤ x ∧ x < (N : Int) + s.length) : ∀ x ∈ o, nmOk N (usd N s o) x = true := by
  intro x hx
  obtain ⟨h1, h2⟩ := hout x hx
  unfold nmOk
  rw [Bool.or_eq_true, decide_eq_true_eq]
  by_cases hv : x < N
  · exact .inl hv
  · right
    have h0 : hasI (needI N s o 0) x = true := by
      unfold hasI
      simp [needI, hx]
    have hf := fin_of_has (by omega) h0 (i := (x - N).toNat) (by omega)
    unfold hasI
    simp only [List.contains_eq_mem, decide_eq_true_eq]
    exact usd_mem.2 ⟨(x - N).toNat, by omega, hf, by omega⟩
theorem usd_ok {N : Nat} {p : Pl} (hs : OkS N p.s) : kOk N p (usd N p.s p.o) (usd N p.s p.o).length = true := by
  unfold kOk
  rw [List.all_eq_true]
  intro k hk
  have hk : k < (usd N p.s p.o).length := by simpa using hk
  obtain ⟨n, hn, hf, he⟩ := usd_mem.1 (List.getElem_mem hk)
  obtain ⟨s1, s2, s3⟩ := hs n hn
  rw [stepAt_eq hk he hn]
  have hj : p.s.length - 1 - n < p.s.length := by omega
  have hat := fin_at (o := p.o) hs hj (i := n) (by omega)
  rw [hf] at hat
  have hneed := need_hit (o := p.o) hn (j := p.s.length - 1 - n) (by omega) hat.symm
  have one : ∀ v : Int, 0 ≤ v → v < N + n → hasI (needI N p.s p.o (p.s.length - 1 - n + 1)) v = true → nmOk N ((usd N p.s p.o).take k) v = true := by
    intro v h0 hv hh
    unfold nmOk
    rw [Bool.or_eq_true, decide_eq_true_eq]
    by_cases hvN : v < N
    · exact .inl hvN
    · right
      have hf2 := fin_of_has (by omega) hh (i := (v - N).toNat) (by omega)
      have hm : (v - N) ∈ usd N p.s p.o := usd_mem.2 ⟨(v - N).toNat, by omega, hf2, by omega⟩
      exact take_of_lt (usd_sorted _ _ _) hk hm (by rw [he]; omega)
  rw [Bool.and_eq_true]
  exact ⟨one _ s1 (by omega) (by rw [hneed, hasI_two]; simp), one _ (by omega) (by omega) (by rw [hneed, hasI_two]; simp)⟩
end Go.Proofs.Ytlkieebmfmiafaa
/- TrimPlan, of the model and of the program. -/
namespace Go.Proofs.Ytlkieebmfmiafaa
open Go.RowKit

def zeroP : Pl := ⟨0, [], []⟩
def trimR (p : Pl) : Pl := if good p then ⟨p.n, keepS p p.n.toNat (usd p.n.toNat p.s p.o) (usd p.n.toNat p.s p.o).length, keepO p p.n.toNat (usd p.n.toNat p.s p.o) p.o.length⟩ else zeroP
theorem trimR_good {p : Pl} {N : Nat} (h : good p = true) (hN : p.n = N) : trimR p = ⟨p.n, keepS p N (usd N p.s p.o) (usd N p.s p.o).length, keepO p N (usd N p.s p.o) p.o.length⟩ := by
  have : p.n.toNat = N := by omega
  unfold trimR
  rw [if_pos h, this]
theorem trimR_bad {p : Pl} (h : good p = false) : trimR p = zeroP := by
  unfold trimR
  rw [if_neg (by rw [h]; decide)]
theorem trimR_len (p : Pl) : (trimR p).s.length ≤ 1000 ∧ (trimR p).o.length ≤ 1000 := by
  cases h : good p with
  | false => rw [trimR_bad h]; simp [zeroP]
  | true =>
    obtain ⟨N, hN, _, _, h40, ho6, _⟩ := good_facts h
    rw [trimR_good h hN]
    have := us_len N p.s p.o p.s.length
    simp only
    rw [keepS_len p N _ (Nat.le_refl _), keepO_len p N _ (Nat.le_refl _)]
    unfold usd
    omega
theorem usd_in {N : Nat} {s : List (Int × Int)} {o : List Int} : ∀ x ∈ usd N s o, 0 ≤ x ∧ x < (s.length : Int) := by
  intro x hx
  obtain ⟨i, h1, _, rfl⟩ := usd_mem.1 hx
  omega
/-- Boxes of a plan that came in and of a plan that is answered. -/
theorem boxes2 {w w2 : World} {a b c : Value} {t : TypeId} (h : (w.alloc (.cells #[a, b, c] t)).alloc (.cells #[.int .i64 0, .slice none 0 0, .slice none 0 0] 31) = w2) :
    w2.heap[w.heap.size]? = some (.cells #[a, b, c] t (0, 0)) ∧ w2.heap[w.heap.size + 1]? = some (.cells #[.int .i64 0, .slice none 0 0, .slice none 0 0] 31 (0, 0)) ∧ w2.heap.size = w.heap.size + 2 ∧ Below w.heap.size w w2 := by
  subst h
  refine ⟨?_, ?_, by simp, ((Below.refl _ _).alloc (Nat.le_refl _) _).alloc (by simp) _⟩
  · rw [Below.heap_alloc _ _ _ (by simp)]; exact heap_alloc_new w _
  · have := heap_alloc_new (w.alloc (.cells #[a, b, c] t)) (.cells #[.int .i64 0, .slice none 0 0, .slice none 0 0] 31)
    simpa using this
theorem cells3 {w : World} {g : Nat} {a b c : Value} {t : TypeId} (h : w.heap[g]? = some (.cells #[a, b, c] t (0, 0))) :
    w.cell? ⟨g, 0, none⟩ = some a ∧ w.cell? ⟨g, 1, none⟩ = some b ∧ w.cell? ⟨g, 2, none⟩ = some c ∧ w.frozen? ⟨g, 0, none⟩ = false ∧ w.frozen? ⟨g, 1, none⟩ = false ∧ w.frozen? ⟨g, 2, none⟩ = false := by
  refine ⟨?_, ?_, ?_, frozen_of_row w _ 0 _ _ h, frozen_of_row w _ 1 _ _ h, frozen_of_row w _ 2 _ _ h⟩
  · rw [cell_of_row w _ 0 _ _ (0, 0) h]; rfl
  · rw [cell_of_row w _ 1 _ _ (0, 0) h]; rfl
  · rw [cell_of_row w _ 2 _ _ (0, 0) h]; rfl
theorem OwP.zero (w : World) (B : Nat) : OwP w B none none 0 0 zeroP := ⟨World.ownsRow_nil _ _ _ _, World.ownsRow_nil _ _ _ _⟩

theorem owP_of3 {w : World} {g B n m : Nat} {B1 B2 : Option Addr} {d1 d2 : Nat} {s : List (Int × Int)} {o : List Int} {z : Int} {t : TypeId} {cs : Array Value} (h : OwS w B (.slice B1 n d1) s) (h' : OwI w B (.slice B2 m d2) o) (hg : w.heap[g]? = some (.cells cs t (0, 0)))
    (ht : t ≠ 94) (ht' : t ≠ 3) (hn : s.length = n) (hm : o.length = m) (a b c : Value) :
    OwP (((w.setCell ⟨g, 0, none⟩ a).setCell ⟨g, 1, none⟩ b).setCell ⟨g, 2, none⟩ c) B B1 B2 d1 d2 ⟨z, s, o⟩ := by
  subst hn
  subst hm
  exact ⟨own_set3 h hg ht a b c, own_set3 h' hg ht' a b c⟩

end Go.Proofs.Ytlkieebmfmiafaa
/- PickOutputs: what both sides answer; the model's. -/
namespace Go.Proofs.Ytlkieebmfmiafaa
open Go.RowKit

theorem boxes2b {w w2 : World} {a b c : Value} {t : TypeId} (h : (w.alloc (.cells #[a, b, c] t)).alloc (.cells #[.int .i64 0, .slice none 0 0, .slice none 0 0] 31) = w2) :
    w2.heap[w.heap.size]? = some (.cells #[a, b, c] t (0, 0)) ∧ w2.heap[w.heap.size + 1]? = some (.cells #[.int .i64 0, .slice none 0 0, .slice none 0 0] 31 (0, 0)) ∧ w2.heap.size = w.heap.size + 2 ∧ Below w.heap.size w w2 := by
  subst h
  refine ⟨?_, ?_, by simp, ((Below.refl _ _).alloc (Nat.le_refl _) _).alloc (by simp) _⟩
  · rw [Below.heap_alloc _ _ _ (by simp)]; exact heap_alloc_new w _
  · have := heap_alloc_new (w.alloc (.cells #[a, b, c] t)) (.cells #[.int .i64 0, .slice none 0 0, .slice none 0 0] 31)
    simpa using this
theorem cells3b {w : World} {g : Nat} {a b c : Value} {t : TypeId} (h : w.heap[g]? = some (.cells #[a, b, c] t (0, 0))) :
    w.cell? ⟨g, 0, none⟩ = some a ∧ w.cell? ⟨g, 1, none⟩ = some b ∧ w.cell? ⟨g, 2, none⟩ = some c ∧ w.frozen? ⟨g, 0, none⟩ = false ∧ w.frozen? ⟨g, 1, none⟩ = false ∧ w.frozen? ⟨g, 2, none⟩ = false := by
  refine ⟨?_, ?_, ?_, frozen_of_row w _ 0 _ _ h, frozen_of_row w _ 1 _ _ h, frozen_of_row w _ 2 _ _ h⟩
  · rw [cell_of_row w _ 0 _ _ (0, 0) h]; rfl
  · rw [cell_of_row w _ 1 _ _ (0, 0) h]; rfl
  · rw [cell_of_row w _ 2 _ _ (0, 0) h]; rfl
def selV (b : Bool) (x y : Value) : Value := if b then x else y
def zeroQ : Pl := ⟨0, [], []⟩
theorem OwP.zeroQ (w : World) (B : Nat) : OwP w B none none 0 0 zeroQ := ⟨World.ownsRow_nil _ _ _ _, World.ownsRow_nil _ _ _ _⟩

def pickO (p : Pl) (l : List Int) (k : Nat) : List Int := (l.take k).map fun i => p.o.getD i.toNat 0
def pickB (p : Pl) (l : List Int) : Bool := good p && (allB l 0 ((p.o.length : Int) - 1) && decide (l.length ≤ 6))
def pickR (p : Pl) (l : List Int) : Pl := if pickB p l then ⟨p.n, p.s, pickO p l l.length⟩ else zeroQ
theorem pickO_len (p : Pl) (l : List Int) {k : Nat} (hk : k ≤ l.length) : (pickO p l k).length = k := by simp [pickO]; omega
theorem pickO_succ {p : Pl} {l : List Int} {k v : Nat} (hk : k < l.length) (hv : l[k] = (v : Int)) (hvl : v < p.o.length) : pickO p l (k + 1) = pickO p l k ++ [p.o[v]] := by
  unfold pickO
  rw [List.take_succ_eq_append_getElem hk, List.map_append, hv]
  simp [hvl]
theorem pickR_len (p : Pl) (l : List Int) : (pickR p l).s.length ≤ 1000 ∧ (pickR p l).o.length ≤ 1000 := by
  unfold pickR
  split
  · rename_i h
    unfold pickB at h
    simp only [Bool.and_eq_true, decide_eq_true_eq] at h
    obtain ⟨_, _, _, _, h40, _⟩ := good_facts h.1
    simp only
    rw [pickO_len p l (Nat.le_refl _)]
    omega
  · simp [zeroQ]
theorem all_in {l : List Int} {m : Int} (h : allB l 0 m = true) : ∀ x ∈ l, 0 ≤ x ∧ x ≤ m := by
  intro x hx
  unfold allB at h
  rw [List.all_eq_true] at h
  have := h x hx
  simpa [inB] using this
/-- The plan with picked outputs is a plan, unless there are too many of them. -/
theorem good_pick {p : Pl} {l : List Int} (hg : good p = true) (ha : allB l 0 ((p.o.length : Int) - 1) = true) : good ⟨p.n, p.s, pickO p l l.length⟩ = decide (l.length ≤ 6) := by
  have hin := all_in ha
  have hlen := pickO_len p l (Nat.le_refl _)
  have ho : allB (pickO p l l.length) 0 (p.n + p.s.length - 1) = true := by
    unfold good at hg
    simp only [Bool.and_eq_true] at hg
    have hall := hg.2.2.2.2.2
    unfold allB at hall ⊢
    rw [List.all_eq_true] at hall ⊢
    intro x hx
    unfold pickO at hx
    rw [List.take_of_length_le (Nat.le_refl _)] at hx
    obtain ⟨i, hi, rfl⟩ := List.mem_map.1 hx
    obtain ⟨h0, h1⟩ := hin i hi
    have hlt : i.toNat < p.o.length := by omega
    have e : p.o.getD i.toNat 0 = p.o[i.toNat] := by simp [hlt]
    rw [e]
    exact hall _ (List.getElem_mem hlt)
  unfold good at hg ⊢
  simp only [Bool.and_eq_true] at hg
  obtain ⟨g1, g2, _, g4, g5, _⟩ := hg
  simp only [g1, g2, g4, g5, ho, hlen, Bool.true_and, Bool.and_true]

set_option maxRecDepth 100000 in
set_option maxHeartbeats 1000000 in
theorem plOwn_any (B : Nat) (A1 A2 : Option Addr) (c1 c2 : Nat) (p : Pl) (w : World) (hB : B ≤ w.heap.size) (hls : p.s.length ≤ 1000) (hlo : p.o.length ≤ 1000) (hr : RdP w B A1 A2 p) :
    Calls Try.prog 77 #[.agg #[.int .i64 p.n, .slice A1 p.s.length c1, .slice A2 p.o.length c2]] w fun e w' =>
      ∃ B1 B2 d1 d2, e = .returned (.agg #[.int .i64 p.n, .slice B1 p.s.length d1, .slice B2 p.o.length d2]) ∧ OwP w' w.heap.size B1 B2 d1 d2 p ∧ Below w.heap.size w w' := by
  have H := Lib.hid hr
  clear hr
  go_enter Try.func77, Try.ntmps77
  go_wp2
  generalize hw1 : World.alloc (World.alloc w _) _ = w1
  obtain ⟨q0, q1, xs, xb⟩ := boxes2b hw1
  clear hw1
  obtain ⟨y0, y1, y2, _, _, _⟩ := cells3b q0
  have Q1 := Lib.hid q1
  have XB := Lib.hid xb
  have FS := Lib.hid (show ∀ x, Below w1.heap.size w1 x → x.cell? ⟨w.heap.size, 0, none⟩ = some (.int .i64 p.n) ∧ x.cell? ⟨w.heap.size, 1, none⟩ = some (.slice A1 p.s.length c1) ∧ x.cell? ⟨w.heap.size, 2, none⟩ = some (.slice A2 p.o.length c2) from fun x hx =>
    ⟨(hx.cell (p := ⟨w.heap.size, 0, none⟩) (by simp only []; omega)).trans y0, (hx.cell (p := ⟨w.heap.size, 1, none⟩) (by simp only []; omega)).trans y1, (hx.cell (p := ⟨w.heap.size, 2, none⟩) (by simp only []; omega)).trans y2⟩)
  have S0 := Lib.hid (show Below w1.heap.size w1 w1.drew from (Below.refl _ _).drew)
  clear q0 q1 xb y0 y1 y2
  refine wp_region_T (fun x : World => Below w1.heap.size w1 x) [0, 1, 3, 4, 6, 7, 9] [1, 4, 7] (.lp 0 (.lp 3 (.lp 6 (.ls 1 (.ls 4 (.ls 7 (.hv 2 (.hv 5 (.hv 8 (.lp 9 (.hv 10 (.done)))))))))))) (by kernel_rfl) (by kernel_rfl) ?_
  (repeat (refine T_lp rfl (fun K hK => ?_); go_simp; refine hK _ ?_; clear hK K))
  refine T_ls1 (v := .int .i64 p.n) rfl rfl S0.out (fun x hx => (by obtain ⟨h0, h1, h2⟩ := FS.out x hx; go_simp)) (fun K hK => ?_)
  (go_simp; refine hK _ ?_; clear hK K)
  refine T_ls1 (v := .slice A1 p.s.length c1) rfl rfl S0.out (fun x hx => (by obtain ⟨h0, h1, h2⟩ := FS.out x hx; go_simp)) (fun K hK => ?_)
  (go_simp; refine hK _ ?_; clear hK K)
  refine T_ls1 (v := .slice A2 p.o.length c2) rfl rfl S0.out (fun x hx => (by obtain ⟨h0, h1, h2⟩ := FS.out x hx; go_simp)) (fun K hK => ?_)
  (go_simp; refine hK _ ?_; clear hK K)
  refine T_hvS rfl (fun K hK => ?_)
  go_simp
  refine hK _ _ (S0.out.alloc (Nat.le_refl _) _) ?_
  clear hK K
  refine T_hvS rfl (fun K hK => ?_)
  have hb1 : Below w.heap.size w (w1.alloc (Obj.cells #[] 94)).drew := XB.out.trans ((((Below.refl _ w1).alloc (Nat.le_refl _) _).drew).mono (by omega))
  have he := own_empty (w := w1) (B := w1.heap.size) (e := 94) 2 (Nat.le_refl _)
  rw [xs] at he
  refine step_appM Try.underlying29 info_step rfl (by omega) (by omega) rfl (.tmp 5) (.tmp 7) rfl (w.heap.size + 2) 0 _ [] rfl he A1 p.s.length c1 (fl p.s) rfl ((H.out.below' hb1 hB).1) (fl_one p.s) (by omega) (by simp; omega) ?_
  intro A4 c4 w4 hown4 hg4 hbel4
  have hb14 : Below w1.heap.size w1 w4 := (((Below.refl _ w1).alloc (Nat.le_refl _) _).drew).trans (hbel4.mono (by omega))
  go_simp
  refine hK _ _ hb14 ?_
  clear hK K hb1 he
  have hs4 := hb14.size
  have hbw4 : Below w.heap.size w w4 := XB.out.trans (hb14.mono (by omega))
  have OS := Lib.hid hown4
  have HB14 := Lib.hid hb14
  have HBW := Lib.hid hbw4
  clear hown4 hg4 hbel4 hb14 hbw4
  refine T_hvS rfl (fun K hK => ?_)
  go_simp
  go_at_call 88
  refine (l1Own_any B A2 c2 p.o w4 (by omega) (by omega) (H.out.below' HBW.out hB).2).mono ?_
  rintro e w5 ⟨A5, c5, rfl, hown5, hb5⟩
  have hb15 : Below w1.heap.size w1 w5 := HB14.out.trans (hb5.mono hs4)
  have r5 := (hb15.block (w.heap.size + 1) (by omega)).trans Q1.out
  obtain ⟨t0, t1, t2, g0, g1, g2⟩ := cells3b r5
  have R5 := Lib.hid r5
  have OS5 := Lib.hid (own_base (own_below OS.out hb5) (show w.heap.size ≤ w.heap.size + 2 by omega))
  have OI5 := Lib.hid (hown5.base (show w.heap.size ≤ w4.heap.size by omega))
  have HB5 := Lib.hid (XB.out.trans (hb15.mono (by omega)))
  go_simp
  refine hK _ _ hb15 ?_
  clear hK K r5 hown5 hb5 hb15
  (repeat (refine T_lp rfl (fun K hK => ?_); go_simp; refine hK _ ?_; clear hK K))
  (refine T_hv rfl (by kernel_rfl) (fun K hK => ?_); go_simp; refine hK _ _ ?_; clear hK K)
  refine T_done ?_
  go_wp2
  refine bodyPost_ret (v := .agg #[.int .i64 p.n, .slice A4 p.s.length c4, .slice A5 p.o.length c5]) (by simp [results, Try.results77, go_sem, t0, t1, t2]) rfl ⟨A4, A5, c4, c5, rfl, ⟨?_, ?_⟩, ?_⟩
  · have h := own_set3 OS5.out R5.out (by decide) (.int .i64 p.n) (.slice A4 p.s.length c4) (.slice A5 p.o.length c5)
    simp only [Nat.zero_add, List.nil_append] at h
    exact h
  · exact own_set3 OI5.out R5.out (by decide) _ _ _
  · exact ((HB5.out.setCell (by simp) _).setCell (by simp) _).setCell (by simp) _

set_option maxRecDepth 100000 in
set_option maxHeartbeats 1000000 in
theorem plIf_any (B : Nat) (A1 A2 : Option Addr) (c1 c2 : Nat) (p : Pl) (w : World) (hB : B ≤ w.heap.size) (hls : p.s.length ≤ 2000000) (hlo : p.o.length ≤ 2000000) (hr : RdP w B A1 A2 p) :
    Calls Try.prog 69 #[.agg #[.int .i64 p.n, .slice A1 p.s.length c1, .slice A2 p.o.length c2]] w fun e w' =>
      e = .returned (.tuple #[selV (good p) (.agg #[.int .i64 p.n, .slice A1 p.s.length c1, .slice A2 p.o.length c2]) (.agg #[.int .i64 0, .slice none 0 0, .slice none 0 0]), .bool (good p)]) ∧ Below w.heap.size w w' := by
  have H := Lib.hid hr
  clear hr
  obtain ⟨gd, hgd⟩ : ∃ x, good p = x := ⟨_, rfl⟩
  have HG := Lib.hid hgd
  go_enter Try.func69, Try.ntmps69
  go_wp2_with fail
  go_at_call 58
  generalize hw1 : World.alloc (World.alloc w _) _ = w1
  obtain ⟨q0, q1, xs, xb⟩ := boxes2b hw1
  clear hw1
  have hC := plGood_any w.heap.size A1 A2 c1 c2 p w1 (by omega) hls hlo ((H.out.below' xb hB).more hB)
  rw [hgd] at hC
  refine hC.mono ?_
  rintro e w2 ⟨rfl, hb2⟩
  clear hC hgd
  obtain ⟨y0, y1, y2, _, _, _⟩ := cells3b ((hb2.block w.heap.size (by omega)).trans q0)
  obtain ⟨t0, t1, t2, g0, g1, g2⟩ := cells3b ((hb2.block (w.heap.size + 1) (by omega)).trans q1)
  have HB2 := Lib.hid (xb.trans (hb2.mono (show w.heap.size ≤ w1.heap.size by omega)))
  clear q0 q1 xs xb hb2
  cases gd with
  | false =>
    go_wp2
    refine bodyPost_ret (v := .tuple #[.agg #[.int .i64 0, .slice none 0 0, .slice none 0 0], .bool false]) (by simp [results, Try.results69, go_sem, t0, t1, t2]) rfl ⟨by rw [HG.out]; rfl, ?_⟩
    exact ((HB2.out.setCell (by simp) _).setCell (by simp) _).setCell (by simp) _
  | true =>
    go_wp2
    refine bodyPost_ret (v := .tuple #[.agg #[.int .i64 p.n, .slice A1 p.s.length c1, .slice A2 p.o.length c2], .bool true]) (by simp [results, Try.results69, go_sem, t0, t1, t2]) rfl ⟨by rw [HG.out]; rfl, ?_⟩
    exact ((HB2.out.setCell (by simp) _).setCell (by simp) _).setCell (by simp) _
end Go.Proofs.Ytlkieebmfmiafaa
/- Uses of values as data: the outputs that a value is, the steps that use it, and how many they are. -/
namespace Go.Proofs.Ytlkieebmfmiafaa
open Go.RowKit

/-- On how many sides of a step a value stands. -/
def sid (st : Int × Int) (v : Int) : Nat := (if st.1 = v then 1 else 0) + (if st.2 = v then 1 else 0)
/-- The steps before step k that use a value, once for each use. -/
def usS (s : List (Int × Int)) (v : Int) : Nat → List Int
  | 0 => []
  | k + 1 => usS s v k ++ List.replicate (sid (s.getD k (0, 0)) v) (k : Int)
/-- The outputs before output k that a value is. -/
def usO (o : List Int) (v : Int) : Nat → List Int
  | 0 => []
  | k + 1 => usO o v k ++ (if o.getD k 0 = v then [(k : Int)] else [])
/-- How often a value is used by the first k steps and the first j outputs. -/
def usC (s : List (Int × Int)) (o : List Int) (k j : Nat) (v : Int) : Nat := (usS s v k).length + (usO o v j).length
def cL (s : List (Int × Int)) (o : List Int) (R k j : Nat) : List Int := (List.range R).map fun v : Nat => ((usC s o k j (v : Int) : Nat) : Int)

theorem sid_le (st : Int × Int) (v : Int) : sid st v ≤ 2 := by unfold sid; split <;> split <;> omega
theorem usS_le (s : List (Int × Int)) (v : Int) (k : Nat) : (usS s v k).length ≤ 2 * k := by
  induction k with
  | zero => simp [usS]
  | succ k ih => have := sid_le (s.getD k (0, 0)) v; simp only [usS, List.length_append, List.length_replicate]; omega
theorem usO_le (o : List Int) (v : Int) (k : Nat) : (usO o v k).length ≤ k := by
  induction k with
  | zero => simp [usO]
  | succ k ih => simp only [usO, List.length_append]; split <;> simp <;> omega
theorem usC_le (s : List (Int × Int)) (o : List Int) (k j : Nat) (v : Int) : usC s o k j v ≤ 2 * k + j := by
  have := usS_le s v k
  have := usO_le o v j
  unfold usC
  omega
theorem usS_in (s : List (Int × Int)) (v : Int) (k : Nat) : ∀ x ∈ usS s v k, 0 ≤ x ∧ x < (k : Int) := by
  induction k with
  | zero => intro x hx; simp [usS] at hx
  | succ k ih =>
    intro x hx
    rcases List.mem_append.1 hx with h | h
    · have := ih x h; omega
    · have := (List.mem_replicate.1 h).2; omega
theorem usO_in (o : List Int) (v : Int) (k : Nat) : ∀ x ∈ usO o v k, 0 ≤ x ∧ x < (k : Int) := by
  induction k with
  | zero => intro x hx; simp [usO] at hx
  | succ k ih =>
    intro x hx
    rcases List.mem_append.1 hx with h | h
    · have := ih x h; omega
    · split at h
      · have := List.mem_singleton.1 h; omega
      · simp at h
theorem usO_hit {o : List Int} {v : Int} {k : Nat} (h : o.getD k 0 = v) : usO o v (k + 1) = usO o v k ++ [(k : Int)] := by simp only [usO]; rw [if_pos h]
theorem usO_miss {o : List Int} {v : Int} {k : Nat} (h : ¬ o.getD k 0 = v) : usO o v (k + 1) = usO o v k := by simp only [usO]; rw [if_neg h, List.append_nil]
theorem cL_length (s : List (Int × Int)) (o : List Int) (R k j : Nat) : (cL s o R k j).length = R := by simp [cL]
theorem cL_at (s : List (Int × Int)) (o : List Int) {R a : Nat} (k j : Nat) (ha : a < R) : (cL s o R k j).getD a 0 = ((usC s o k j (a : Int) : Nat) : Int) := by simp [cL, ha]
theorem cL_zero (s : List (Int × Int)) (o : List Int) (R : Nat) : cL s o R 0 0 = List.replicate R 0 := by
  apply List.ext_getElem?
  intro j
  by_cases hj : j < R <;> simp [cL, hj, usC, usS, usO]
theorem usC_step {s : List (Int × Int)} (o : List Int) {k : Nat} (j : Nat) (v : Int) : usC s o (k + 1) j v = usC s o k j v + sid (s.getD k (0, 0)) v := by
  simp only [usC, usS, List.length_append, List.length_replicate]
  omega
theorem usC_out (s : List (Int × Int)) (o : List Int) (k j : Nat) (v : Int) : usC s o k (j + 1) v = usC s o k j v + (if o.getD j 0 = v then 1 else 0) := by
  simp only [usC, usO, List.length_append]
  split <;> simp <;> omega
theorem cL_mid {s : List (Int × Int)} (o : List Int) {R k a : Nat} (ha : a < R) :
    (cL s o R k 0).set a ((usC s o k 0 (a : Int) : Nat) + 1) = (List.range R).map fun v : Nat => (((usC s o k 0 (v : Int) + if v = a then 1 else 0 : Nat)) : Int) := by
  apply List.ext_getElem?
  intro j
  by_cases hj : j < R
  · by_cases hja : a = j
    · subst hja
      rw [List.getElem?_set_self (by rw [cL_length]; exact ha)]
      simp [ha]
    · rw [List.getElem?_set_ne hja]
      have : ¬ j = a := fun h => hja h.symm
      simp [cL, hj, this]
  · rw [List.getElem?_eq_none (by simp [cL]; omega), List.getElem?_eq_none (by simp; omega)]
/-- Behind a step: both sides are counted. -/
theorem cL_step {s : List (Int × Int)} (o : List Int) {R k a b : Nat} (ha : a < R) (hb : b < R) (hs : s.getD k (0, 0) = ((a : Int), (b : Int))) :
    ((cL s o R k 0).set a ((usC s o k 0 (a : Int) : Nat) + 1)).set b ((usC s o k 0 (b : Int) + (if b = a then 1 else 0) : Nat) + 1) = cL s o R (k + 1) 0 := by
  rw [cL_mid o ha]
  apply List.ext_getElem?
  intro j
  by_cases hj : j < R
  · have hst := usC_step (s := s) o (k := k) 0 (j : Int)
    rw [hs] at hst
    have e1 : (((a : Int), (b : Int)).1 = (j : Int)) = (j = a) := by apply propext; simp; omega
    have e2 : (((a : Int), (b : Int)).2 = (j : Int)) = (j = b) := by apply propext; simp; omega
    unfold sid at hst
    simp only [e1, e2] at hst
    by_cases hjb : b = j
    · subst hjb
      rw [List.getElem?_set_self (by simpa using hb)]
      simp only [cL, List.getElem?_map, List.getElem?_range hb, Option.map_some, hst]
      simp
      omega
    · rw [List.getElem?_set_ne hjb]
      have hjb' : ¬ j = b := fun h => hjb h.symm
      simp only [cL, List.getElem?_map, List.getElem?_range hj, Option.map_some, hst, if_neg hjb']
      simp
  · rw [List.getElem?_eq_none (by simp; omega), List.getElem?_eq_none (by simp [cL]; omega)]
theorem cL_mid_at {s : List (Int × Int)} (o : List Int) {R k a b : Nat} (ha : a < R) (hb : b < R) :
    ((cL s o R k 0).set a ((usC s o k 0 (a : Int) : Nat) + 1)).getD b 0 = ((usC s o k 0 (b : Int) + (if b = a then 1 else 0) : Nat) : Int) := by
  rw [cL_mid o ha]
  simp [hb]
/-- Behind an output. -/
theorem cL_out (s : List (Int × Int)) {o : List Int} {R j v : Nat} (k : Nat) (hv : v < R) (ho : o.getD j 0 = (v : Int)) :
    (cL s o R k j).set v ((usC s o k j (v : Int) : Nat) + 1) = cL s o R k (j + 1) := by
  apply List.ext_getElem?
  intro i
  by_cases hi : i < R
  · have hst := usC_out s o k j (i : Int)
    rw [ho] at hst
    by_cases hiv : v = i
    · subst hiv
      rw [List.getElem?_set_self (by rw [cL_length]; exact hv)]
      simp [cL, hi, hst]
    · rw [List.getElem?_set_ne hiv]
      have h1 : ¬ (v : Int) = (i : Int) := by omega
      rw [if_neg h1] at hst
      simp [cL, hi, hst]
  · rw [List.getElem?_eq_none (by rw [List.length_set, cL_length]; omega), List.getElem?_eq_none (by rw [cL_length]; omega)]

theorem mem_usO {o : List Int} {v x : Int} {k : Nat} : x ∈ usO o v k ↔ ∃ i : Nat, i < k ∧ x = (i : Int) ∧ o.getD i 0 = v := by
  induction k with
  | zero => simp [usO]
  | succ k ih =>
    simp only [usO]
    rw [List.mem_append, ih]
    constructor
    · rintro (⟨i, h1, h2, h3⟩ | h)
      · exact ⟨i, by omega, h2, h3⟩
      · split at h
        · rename_i h4; exact ⟨k, by omega, List.mem_singleton.1 h, h4⟩
        · simp at h
    · rintro ⟨i, h1, h2, h3⟩
      rcases Nat.lt_or_ge i k with h4 | h4
      · exact .inl ⟨i, h4, h2, h3⟩
      · have e : i = k := by omega
        subst e
        right
        rw [if_pos h3]
        exact List.mem_singleton.2 h2
theorem mem_usS {s : List (Int × Int)} {v x : Int} {k : Nat} : x ∈ usS s v k ↔ ∃ i : Nat, i < k ∧ x = (i : Int) ∧ ((s.getD i (0, 0)).1 = v ∨ (s.getD i (0, 0)).2 = v) := by
  have key : ∀ st : Int × Int, sid st v ≠ 0 ↔ (st.1 = v ∨ st.2 = v) := by
    intro st
    unfold sid
    by_cases h1 : st.1 = v <;> by_cases h2 : st.2 = v <;> simp [h1, h2]
  induction k with
  | zero => simp [usS]
  | succ k ih =>
    simp only [usS]
    rw [List.mem_append, List.mem_replicate, key]
    constructor
    · rintro (h | ⟨h1, h2⟩)
      · obtain ⟨i, h1, h2, h3⟩ := ih.1 h
        exact ⟨i, by omega, h2, h3⟩
      · exact ⟨k, by omega, h2, h1⟩
    · rintro ⟨i, h1, h2, h3⟩
      rcases Nat.lt_or_ge i k with h4 | h4
      · exact .inl (ih.2 ⟨i, h4, h2, h3⟩)
      · have e : i = k := by omega
        subst e
        exact .inr ⟨h3, h2⟩

/-- The box of uses is kept by an append to an own row of numbers. -/
theorem us_kept {w w3 : World} {B g n : Nat} {t : TypeId} {v : Value} {cs : Array Value} {xs : List Value} {o : Obj} (hb : w.heap[g]? = some (.cells cs t (0, 0))) (ho : w.ownsRow B 3 1 v n xs)
    (hg : (w.alloc o).grownBy w3 v.ownBlock) (ht : t ≠ 3 := by decide) : w3.heap[g]? = some (.cells cs t (0, 0)) := by
  have hgl : g < w.heap.size := (Array.getElem?_eq_some_iff.1 hb).1
  have hbA : (w.alloc o).heap[g]? = _ := (Below.heap_alloc w o g hgl).trans hb
  exact (hg.block g (by simp; omega) (own_ne_blk (World.ownsRow.alloc ho o) hbA ht)).trans hbA
theorem us_cells {w : World} {g : Nat} {a b : Value} {t : TypeId} (h : w.heap[g]? = some (.cells #[a, b] t (0, 0))) :
    w.cell? ⟨g, 0, none⟩ = some a ∧ w.cell? ⟨g, 1, none⟩ = some b ∧ w.frozen? ⟨g, 0, none⟩ = false ∧ w.frozen? ⟨g, 1, none⟩ = false := by
  refine ⟨?_, ?_, frozen_of_row w g 0 _ _ h, frozen_of_row w g 1 _ _ h⟩
  · rw [cell_of_row w g 0 _ _ (0, 0) h]; rfl
  · rw [cell_of_row w g 1 _ _ (0, 0) h]; rfl
theorem own_heap {w : World} {B sz n c g : Nat} {e : TypeId} {xs : List Value} (h : w.ownsRow B e sz (.slice (some ⟨g, 0, none⟩) n c) n xs) : ∃ cs, w.heap[g]? = some (.cells cs e (0, 0)) := by
  rcases h.2 with ⟨h0, _⟩ | ⟨g', cap, cur, hv, _, hg, _⟩
  · simp at h0
  · simp only [Value.slice.injEq, Option.some.injEq, Addr.mk.injEq] at hv
    obtain ⟨⟨rfl, _⟩, _⟩ := hv
    exact ⟨_, hg⟩
/-- How often each value of a plan is used. -/
def usL (p : Pl) : List Int := cL p.s p.o (p.n.toNat + p.s.length) p.s.length p.o.length
/-- A store into an own row of integers. -/
theorem OwI.set {w : World} {B g a R c : Nat} {l : List Int} (h : w.ownsRow B 3 1 (.slice (some ⟨g, 0, none⟩) R c) R (l.map I)) (x : Int) :
    (w.setCell ⟨g, a, none⟩ (.int .i64 x)).ownsRow B 3 1 (.slice (some ⟨g, 0, none⟩) R c) R ((l.set a x).map I) := by
  have h1 := (h.stored a (.int .i64 x)).1
  rw [List.map_set]
  exact h1
theorem OwI.cellD {w : World} {B g a R c : Nat} {l : List Int} (h : w.ownsRow B 3 1 (.slice (some ⟨g, 0, none⟩) R c) R (l.map I)) (ha : a < R) : w.cell? ⟨g, a, none⟩ = some (.int .i64 (l.getD a 0)) := by
  have hl : l.length = R := by have := h.1; simpa using this
  rw [h.cellAt _ (by omega)]
  simp [I, hl, ha]
end Go.Proofs.Ytlkieebmfmiafaa
