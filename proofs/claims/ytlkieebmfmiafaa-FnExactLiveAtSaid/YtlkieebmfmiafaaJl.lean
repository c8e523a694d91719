/- Values that are used later, as data: by a list that is kept rising, and by looking at each value's uses. -/
import Derived.Test.YtlkieebmfmiafaaJa
import Derived.Test.YtlkieebmfmiafaaRa
namespace Go.Proofs.Ytlkieebmfmiafaa
open Go.RowKit

theorem asc_pw {l : List Int} : Asc l ↔ l.Pairwise (· < ·) := by
  rw [List.pairwise_iff_getElem]
  unfold Asc
  constructor
  · intro h i j hi hj hij
    have := h i j hij hj
    simpa [hi, hj] using this
  · intro h i j hij hj
    have := h i j (by omega) hj hij
    simp only [List.getD_eq_getElem?_getD, List.getElem?_eq_getElem hj, List.getElem?_eq_getElem (show i < l.length by omega), Option.getD_some]
    exact this
theorem asc_same {a b : List Int} (ha : Asc a) (hb : Asc b) (h : ∀ x, x ∈ a ↔ x ∈ b) : a = b := by
  rw [asc_pw] at ha hb
  induction a generalizing b with
  | nil =>
    cases b with
    | nil => rfl
    | cons y b => have := (h y).2 List.mem_cons_self; simp at this
  | cons x a ih =>
    cases b with
    | nil => have := (h x).1 List.mem_cons_self; simp at this
    | cons y b =>
      obtain ⟨a1, a2⟩ := List.pairwise_cons.1 ha
      obtain ⟨b1, b2⟩ := List.pairwise_cons.1 hb
      have e : x = y := by
        rcases List.mem_cons.1 ((h x).1 List.mem_cons_self) with h1 | h1
        · exact h1
        · rcases List.mem_cons.1 ((h y).2 List.mem_cons_self) with h2 | h2
          · exact h2.symm
          · have := a1 y h2; have := b1 x h1; omega
      subst e
      rw [ih a2 b2 fun z => ?_]
      have hz := h z
      rw [List.mem_cons, List.mem_cons] at hz
      constructor
      · intro hm
        rcases hz.1 (.inr hm) with rfl | h1
        · have := a1 z hm; omega
        · exact h1
      · intro hm
        rcases hz.2 (.inr hm) with rfl | h1
        · have := b1 z hm; omega
        · exact h1

/-- There is a use behind the first k steps. -/
def lvB (s : List (Int × Int)) (o : List Int) (k : Nat) (v : Int) : Bool := decide (0 < (usO o v o.length).length) || (usS s v s.length).any fun i => decide ((k : Int) ≤ i)
def livK (s : List (Int × Int)) (o : List Int) (k m : Nat) : List Int := ((List.range m).filter fun v : Nat => lvB s o k (v : Int)).map fun v : Nat => (v : Int)
def liv (N : Nat) (s : List (Int × Int)) (o : List Int) (k : Nat) : List Int := livK s o k (N + k)
theorem livK_le (s : List (Int × Int)) (o : List Int) (k m : Nat) : (livK s o k m).length ≤ m := by
  unfold livK
  rw [List.length_map]
  exact Nat.le_trans (List.length_filter_le _ _) (by simp)
theorem livK_hit {s : List (Int × Int)} {o : List Int} {k m : Nat} (h : lvB s o k (m : Int) = true) : livK s o k (m + 1) = livK s o k m ++ [(m : Int)] := by
  unfold livK
  rw [List.range_succ, List.filter_append, List.map_append]
  simp [h]
theorem livK_miss {s : List (Int × Int)} {o : List Int} {k m : Nat} (h : lvB s o k (m : Int) = false) : livK s o k (m + 1) = livK s o k m := by
  unfold livK
  rw [List.range_succ, List.filter_append, List.map_append]
  simp [h]
theorem livK_asc (s : List (Int × Int)) (o : List Int) (k m : Nat) : Asc (livK s o k m) := by
  rw [asc_pw]
  unfold livK
  rw [List.pairwise_map]
  refine (List.Pairwise.filter _ List.pairwise_lt_range).imp fun h => ?_
  omega
theorem mem_livK {s : List (Int × Int)} {o : List Int} {k m : Nat} {x : Int} : x ∈ livK s o k m ↔ ∃ v : Nat, v < m ∧ x = (v : Int) ∧ lvB s o k (v : Int) = true := by
  unfold livK
  rw [List.mem_map]
  constructor
  · rintro ⟨v, hv, rfl⟩
    obtain ⟨h1, h2⟩ := List.mem_filter.1 hv
    exact ⟨v, List.mem_range.1 h1, rfl, h2⟩
  · rintro ⟨v, h1, rfl, h2⟩
    exact ⟨v, List.mem_filter.2 ⟨List.mem_range.2 h1, h2⟩, rfl⟩
theorem lvB_iff {s : List (Int × Int)} {o : List Int} {k : Nat} {v : Int} : lvB s o k v = true ↔ ((∃ i : Nat, k ≤ i ∧ i < s.length ∧ ((s.getD i (0, 0)).1 = v ∨ (s.getD i (0, 0)).2 = v)) ∨ v ∈ o) := by
  unfold lvB
  rw [Bool.or_eq_true, decide_eq_true_eq, List.any_eq_true]
  constructor
  · rintro (h | ⟨x, h1, h2⟩)
    · right
      obtain ⟨x, hx⟩ := List.exists_mem_of_length_pos h
      obtain ⟨i, h1, _, h3⟩ := mem_usO.1 hx
      rw [← h3]
      simp only [List.getD_eq_getElem?_getD, List.getElem?_eq_getElem h1, Option.getD_some]
      exact List.getElem_mem h1
    · left
      obtain ⟨i, h3, h4, h5⟩ := mem_usS.1 h1
      have := of_decide_eq_true h2
      exact ⟨i, by omega, h3, h5⟩
  · rintro (⟨i, h1, h2, h3⟩ | h)
    · right
      exact ⟨(i : Int), mem_usS.2 ⟨i, h2, rfl, h3⟩, by simp; omega⟩
    · left
      obtain ⟨i, h1, h2⟩ := List.mem_iff_getElem.1 h
      have : ((i : Nat) : Int) ∈ usO o v o.length := mem_usO.2 ⟨i, h1, rfl, by simp [h1, h2]⟩
      exact List.length_pos_of_mem this

/-- The model's list: sides of the later steps, kept rising. -/
def lvS (s : List (Int × Int)) (k : Nat) : Nat → List Int
  | 0 => []
  | j + 1 => putI (putI (lvS s k j) (s.getD (k + j) (0, 0)).1) (s.getD (k + j) (0, 0)).2
def lvO (s : List (Int × Int)) (o : List Int) (k i : Nat) : List Int := uniK (lvS s k (s.length - k)) o i
def flK (l : List Int) (m : Int) (i : Nat) : List Int := (l.take i).filter fun v => decide (v < m)
theorem lvS_asc (s : List (Int × Int)) (k : Nat) : ∀ j, Asc (lvS s k j) ∧ (lvS s k j).length ≤ 2 * j := by
  intro j
  induction j with
  | zero => exact ⟨fun i j _ h => by simp [lvS] at h, by simp [lvS]⟩
  | succ j ih =>
    have h1 := putI_le (lvS s k j) (s.getD (k + j) (0, 0)).1
    have h2 := putI_le (putI (lvS s k j) (s.getD (k + j) (0, 0)).1) (s.getD (k + j) (0, 0)).2
    exact ⟨putI_asc (putI_asc ih.1 _) _, by simp only [lvS]; omega⟩
theorem mem_lvS {s : List (Int × Int)} {k : Nat} {x : Int} : ∀ j, x ∈ lvS s k j ↔ ∃ i : Nat, k ≤ i ∧ i < k + j ∧ ((s.getD i (0, 0)).1 = x ∨ (s.getD i (0, 0)).2 = x) := by
  intro j
  induction j with
  | zero => simp [lvS]; intro i h1 h2; omega
  | succ j ih =>
    simp only [lvS]
    rw [mem_putI_iff, mem_putI_iff, ih]
    constructor
    · rintro (h | h | ⟨i, h1, h2, h3⟩)
      · exact ⟨k + j, by omega, by omega, .inr h.symm⟩
      · exact ⟨k + j, by omega, by omega, .inl h.symm⟩
      · exact ⟨i, h1, by omega, h3⟩
    · rintro ⟨i, h1, h2, h3⟩
      rcases Nat.lt_or_ge i (k + j) with h4 | h4
      · exact .inr (.inr ⟨i, h1, h4, h3⟩)
      · have e : i = k + j := by omega
        subst e
        rcases h3 with h3 | h3
        · exact .inr (.inl h3.symm)
        · exact .inl h3.symm
theorem lvO_succ {s : List (Int × Int)} {o : List Int} {k i : Nat} (hi : i < o.length) : lvO s o k (i + 1) = putI (lvO s o k i) (o.getD i 0) := uniK_succ hi
theorem lvO_ok (s : List (Int × Int)) (o : List Int) (k : Nat) : ∀ i, i ≤ o.length → Asc (lvO s o k i) ∧ (lvO s o k i).length ≤ 2 * (s.length - k) + i ∧ ∀ x, x ∈ lvO s o k i ↔ (x ∈ lvS s k (s.length - k) ∨ x ∈ o.take i) := by
  intro i
  induction i with
  | zero =>
    intro _
    unfold lvO
    rw [uniK_zero]
    exact ⟨(lvS_asc s k _).1, by have := (lvS_asc s k (s.length - k)).2; omega, fun x => by simp⟩
  | succ i ih =>
    intro hi
    obtain ⟨h1, h2, h3⟩ := ih (by omega)
    rw [lvO_succ (by omega)]
    refine ⟨putI_asc h1 _, by have := putI_le (lvO s o k i) (o.getD i 0); omega, fun x => ?_⟩
    rw [mem_putI_iff, h3, take_succ_getD (by omega), List.mem_append, List.mem_singleton]
    constructor
    · rintro (h | h | h)
      · exact .inr (.inr h)
      · exact .inl h
      · exact .inr (.inl h)
    · rintro (h | h | h)
      · exact .inr (.inl h)
      · exact .inr (.inr h)
      · exact .inl h
theorem flK_hit {l : List Int} {m : Int} {i : Nat} (hi : i < l.length) (h : l.getD i 0 < m) : flK l m (i + 1) = flK l m i ++ [l.getD i 0] := by
  unfold flK
  rw [take_succ_getD hi, List.filter_append]
  simp only [List.filter_cons, decide_eq_true h, if_true, List.filter_nil]
theorem flK_miss {l : List Int} {m : Int} {i : Nat} (hi : i < l.length) (h : ¬ l.getD i 0 < m) : flK l m (i + 1) = flK l m i := by
  unfold flK
  rw [take_succ_getD hi, List.filter_append]
  simp only [List.filter_cons, decide_eq_false h, List.filter_nil]
  simp
theorem flK_le (l : List Int) (m : Int) (i : Nat) : (flK l m i).length ≤ l.length := by
  unfold flK
  exact Nat.le_trans (List.length_filter_le _ _) (by simp; omega)
/-- Both are the same. -/
theorem liv_eq {N : Nat} {s : List (Int × Int)} {o : List Int} {k : Nat} (hs : OkS N s) (ho : ∀ x ∈ o, 0 ≤ x) (hk : k ≤ s.length) :
    flK (lvO s o k o.length) ((N : Int) + k) (lvO s o k o.length).length = liv N s o k := by
  obtain ⟨h1, _, h3⟩ := lvO_ok s o k o.length (Nat.le_refl _)
  unfold flK liv
  rw [List.take_length]
  rw [List.take_length] at h3
  refine asc_same ?_ (livK_asc s o k _) fun x => ?_
  · rw [asc_pw] at h1 ⊢
    exact h1.filter _
  · rw [List.mem_filter, h3, mem_livK, mem_lvS]
    have e : k + (s.length - k) = s.length := by omega
    rw [e]
    constructor
    · rintro ⟨h4, h5⟩
      have h6 : x < (N : Int) + k := of_decide_eq_true h5
      have h0 : 0 ≤ x := by
        rcases h4 with ⟨i, _, h7, h8⟩ | h4
        · obtain ⟨q1, q2, _⟩ := hs i h7
          have e2 : s.getD i (0, 0) = s[i] := by simp [h7]
          rw [e2] at h8
          rcases h8 with h8 | h8 <;> omega
        · exact ho x h4
      refine ⟨x.toNat, by omega, by omega, ?_⟩
      rw [show ((x.toNat : Nat) : Int) = x by omega, lvB_iff]
      exact h4
    · rintro ⟨v, h4, rfl, h5⟩
      rw [lvB_iff] at h5
      exact ⟨h5, by simp; omega⟩
end Go.Proofs.Ytlkieebmfmiafaa
