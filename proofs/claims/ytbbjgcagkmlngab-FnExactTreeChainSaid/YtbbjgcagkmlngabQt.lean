/- A number put into a rising list. -/
import Derived.Test.YtbbjgcagkmlngabQq
namespace Go.Proofs.Ytbbjgcagkmlngab
open Go.RowKit

/-- The list with x at its place. -/
def putI (l : List Int) (x : Int) : List Int := if x ∈ l then l else insA l (cnt l x) x
theorem putI_has {l : List Int} {x : Int} (h : x ∈ l) : putI l x = l := by unfold putI; rw [if_pos h]
theorem putI_new {l : List Int} {x : Int} (h : ¬ x ∈ l) : putI l x = insA l (cnt l x) x := by unfold putI; rw [if_neg h]
theorem cnt_le (l : List Int) (x : Int) : cnt l x ≤ l.length := List.countP_le_length
theorem putI_le (l : List Int) (x : Int) : (putI l x).length ≤ l.length + 1 := by
  unfold putI
  split
  · omega
  · rw [insA_length l x (cnt_le l x)]; omega
theorem insA_getD (l : List Int) {i : Nat} (x : Int) (hi : i ≤ l.length) (j : Nat) : (insA l i x).getD j 0 = if j < i then l.getD j 0 else if j = i then x else l.getD (j - 1) 0 := by
  unfold insA
  rw [List.getD_eq_getElem?_getD]
  by_cases h1 : j < i
  · rw [if_pos h1, List.getElem?_append_left (by simp; omega), List.getElem?_take, if_pos h1, List.getD_eq_getElem?_getD]
  · rw [if_neg h1, List.getElem?_append_right (by simp; omega)]
    have e : (List.take i l).length = i := by simp; omega
    rw [e]
    by_cases h2 : j = i
    · subst h2
      simp
    · rw [if_neg h2, show j - i = (j - i - 1) + 1 by omega, List.getElem?_cons_succ, List.getElem?_drop, List.getD_eq_getElem?_getD, show i + (j - i - 1) = j - 1 by omega]
/-- What lies before the place is less, what lies behind it greater. -/
theorem cnt_parts {l : List Int} (ha : Asc l) (x : Int) : (∀ t, t < cnt l x → l.getD t 0 < x) ∧ ∀ t, cnt l x ≤ t → t < l.length → x ≤ l.getD t 0 := by
  have key : ∀ n, n ≤ l.length → ∃ i, i ≤ n ∧ (∀ t, t < i → l.getD t 0 < x) ∧ ∀ t, i ≤ t → t < n → x ≤ l.getD t 0 := by
    intro n
    induction n with
    | zero => intro _; exact ⟨0, by omega, fun t h => absurd h (by omega), fun t _ h => absurd h (by omega)⟩
    | succ n ih =>
      intro hn
      obtain ⟨i, h1, h2, h3⟩ := ih (by omega)
      by_cases hi : i = n
      · by_cases hx : l.getD n 0 < x
        · refine ⟨n + 1, by omega, fun t ht => ?_, fun t h h' => absurd h (by omega)⟩
          rcases Nat.lt_or_eq_of_le (Nat.le_of_lt_succ ht) with h | rfl
          · exact h2 t (by omega)
          · exact hx
        · refine ⟨i, by omega, h2, fun t h h' => ?_⟩
          have : t = n := by omega
          subst this
          omega
      · refine ⟨i, by omega, h2, fun t h h' => ?_⟩
        rcases Nat.lt_or_eq_of_le (Nat.le_of_lt_succ h') with h'' | rfl
        · exact h3 t h h''
        · have := h3 i (Nat.le_refl _) (by omega)
          have := ha i t (by omega) (by omega)
          omega
  obtain ⟨i, h1, h2, h3⟩ := key l.length (Nat.le_refl _)
  rw [cnt_at h1 h2 h3]
  exact ⟨h2, h3⟩
theorem mem_getD {l : List Int} {t : Nat} (h : t < l.length) : l.getD t 0 ∈ l := by
  have e : l.getD t 0 = l[t] := by simp [h]
  rw [e]
  exact List.getElem_mem h
theorem putI_asc {l : List Int} (ha : Asc l) (x : Int) : Asc (putI l x) := by
  by_cases hx : x ∈ l
  · rw [putI_has hx]; exact ha
  · rw [putI_new hx]
    obtain ⟨h1, h2⟩ := cnt_parts ha x
    have hc := cnt_le l x
    intro i j hij hj
    rw [insA_length l x hc] at hj
    rw [insA_getD l x hc, insA_getD l x hc]
    have h3 : ∀ t, cnt l x ≤ t → t < l.length → x < l.getD t 0 := fun t h h' => by
      have := h2 t h h'
      rcases Int.lt_or_eq_of_le this with h4 | h4
      · exact h4
      · exact absurd (h4 ▸ mem_getD h') hx
    by_cases c1 : i < cnt l x
    · rw [if_pos c1]
      by_cases c2 : j < cnt l x
      · rw [if_pos c2]; exact ha i j hij (by omega)
      · rw [if_neg c2]
        by_cases c3 : j = cnt l x
        · rw [if_pos c3]; exact h1 i c1
        · rw [if_neg c3]; exact ha i (j - 1) (by omega) (by omega)
    · rw [if_neg c1, if_neg (by omega : ¬ j < cnt l x), if_neg (by omega : ¬ j = cnt l x)]
      by_cases c3 : i = cnt l x
      · rw [if_pos c3]; exact h3 (j - 1) (by omega) (by omega)
      · rw [if_neg c3]; exact ha (i - 1) (j - 1) (by omega) (by omega)

end Go.Proofs.Ytbbjgcagkmlngab
