/- Joined: Ha Qm Qa Qb Qc Qd Qe Qf Qg Qn0 Oa. -/
import Derived.Test.YtbbjgcagkmlngabTT0
/- Star chains in order, as data: what a search meets when it goes on from a chain, one chain after the other. -/
namespace Go.Proofs.Ytbbjgcagkmlngab

def lastN (c : List Nat) : Nat := c.getD (c.length - 1) 0
theorem lastN_snoc (c : List Nat) (s : Nat) : lastN (c ++ [s]) = s := by
  unfold lastN
  rw [List.length_append, List.length_singleton, Nat.add_sub_cancel, List.getD_eq_getElem?_getD, List.getElem?_append_right (Nat.le_refl _)]
  simp
theorem lastN_take {c : List Nat} {e : Nat} (h : e < c.length) : lastN (c.take (e + 1)) = c.getD e 0 := by
  unfold lastN
  rw [List.length_take, Nat.min_eq_left h, show e.succ - 1 = e from rfl, List.getD_eq_getElem?_getD, List.getElem?_take_of_lt (Nat.lt_succ_self e), ← List.getD_eq_getElem?_getD]

/-- The chains that begin with c, in order, with at most d numbers more. -/
def pre (F : Nat → Nat → Bool) : Nat → List Nat → List (List Nat)
  | 0, c => [c]
  | d + 1, c => c :: c.flatMap fun a => if F (lastN c + a) c.length then pre F d (c ++ [lastN c + a]) else []
def kid (F : Nat → Nat → Bool) (d : Nat) (c : List Nat) (a : Nat) : List (List Nat) := if F (lastN c + a) c.length then pre F d (c ++ [lastN c + a]) else []
/-- Those that go on by the number with the index j, or a later one. -/
def sub (F : Nat → Nat → Bool) : Nat → List Nat → Nat → List (List Nat)
  | 0, _, _ => []
  | d + 1, c, j => (c.drop j).flatMap (kid F d c)
section
variable {F : Nat → Nat → Bool}
theorem pre_eq (d : Nat) (c : List Nat) : pre F d c = c :: sub F d c 0 := by
  cases d with
  | zero => rfl
  | succ d => rfl
theorem sub_at {d j : Nat} {c : List Nat} (h : j < c.length) : sub F (d + 1) c j = kid F d c (c.getD j 0) ++ sub F (d + 1) c (j + 1) := by
  show (c.drop j).flatMap (kid F d c) = _ ++ (c.drop (j + 1)).flatMap (kid F d c)
  rw [List.drop_eq_getElem_cons h, List.flatMap_cons]
  congr 1
  rw [List.getD_eq_getElem?_getD, List.getElem?_eq_getElem h]
  rfl
theorem sub_end {d j : Nat} {c : List Nat} (h : c.length ≤ j) : sub F d c j = [] := by
  cases d with
  | zero => rfl
  | succ d =>
    show (c.drop j).flatMap (kid F d c) = []
    rw [List.drop_eq_nil_of_le h]
    rfl
/-- What is still to be met, from the first e numbers on; x has the index that comes next behind each number. -/
def restTo (F : Nat → Nat → Bool) (L : Nat) (c x : List Nat) : Nat → List (List Nat)
  | 0 => []
  | e + 1 => sub F (L - e) (c.take (e + 1)) (x.getD e 0) ++ restTo F L c x e
theorem restTo_congr {L : Nat} {c x c' x' : List Nat} : ∀ e, c'.take e = c.take e → (∀ i, i < e → x'.getD i 0 = x.getD i 0) → restTo F L c' x' e = restTo F L c x e := by
  intro e
  induction e with
  | zero => intros; rfl
  | succ e ih =>
    intro h hx
    unfold restTo
    rw [h, hx e (by omega), ih ?_ (fun i hi => hx i (by omega))]
    have h2 := congrArg (List.take e) h
    rw [List.take_take, List.take_take, Nat.min_eq_left (by omega)] at h2
    exact h2
theorem restTo_done {L e : Nat} {c x : List Nat} (h : e < x.getD e 0) : restTo F L c x (e + 1) = restTo F L c x e := by
  show sub F (L - e) (c.take (e + 1)) (x.getD e 0) ++ restTo F L c x e = _
  rw [sub_end (by rw [List.length_take]; omega), List.nil_append]
theorem getD_set_eq {x : List Nat} {e v : Nat} (h : e < x.length) : (x.set e v).getD e 0 = v := by
  rw [List.getD_eq_getElem?_getD, List.getElem?_set_self h]
  rfl
theorem getD_set_ne {x : List Nat} {e i v : Nat} (h : e ≠ i) : (x.set e v).getD i 0 = x.getD i 0 := by
  rw [List.getD_eq_getElem?_getD, List.getElem?_set_ne h, ← List.getD_eq_getElem?_getD]
theorem take_last {c : List Nat} {e : Nat} {j : Nat} (hj : j ≤ e) : (c.take (e + 1)).getD j 0 = c.getD j 0 := by
  rw [List.getD_eq_getElem?_getD, List.getElem?_take_of_lt (by omega), ← List.getD_eq_getElem?_getD]
/-- A number that doesn't fit is passed over. -/
theorem restTo_skip {L e j : Nat} {c x : List Nat} (he : e < c.length) (hx : e < x.length) (hj : x.getD e 0 = j) (hje : j ≤ e) (hF : F (c.getD e 0 + c.getD j 0) (e + 1) = false) :
    restTo F L c x (e + 1) = restTo F L c (x.set e (j + 1)) (e + 1) := by
  show sub F (L - e) (c.take (e + 1)) (x.getD e 0) ++ restTo F L c x e = sub F (L - e) (c.take (e + 1)) ((x.set e (j + 1)).getD e 0) ++ restTo F L c (x.set e (j + 1)) e
  rw [restTo_congr (c := c) (x := x) (x' := x.set e (j + 1)) e rfl (fun i hi => getD_set_ne (by omega)), getD_set_eq hx, hj]
  congr 1
  have hl : (c.take (e + 1)).length = e + 1 := by rw [List.length_take]; omega
  rcases Nat.eq_zero_or_pos (L - e) with h0 | hp
  · rw [h0]; rfl
  · obtain ⟨d, hd⟩ : ∃ d, L - e = d + 1 := ⟨L - e - 1, by omega⟩
    rw [hd, sub_at (by omega)]
    unfold kid
    rw [hl, lastN_take he, take_last hje, hF]
    rfl
/-- A number that fits makes the next chain. -/
theorem restTo_take {L e j : Nat} {c x : List Nat} (he : e < c.length) (hx : e < x.length) (hL : e + 1 ≤ L) (hj : x.getD e 0 = j) (hje : j ≤ e) (hF : F (c.getD e 0 + c.getD j 0) (e + 1) = true) :
    restTo F L c x (e + 1) = (c.take (e + 1) ++ [c.getD e 0 + c.getD j 0]) :: restTo F L (c.take (e + 1) ++ [c.getD e 0 + c.getD j 0]) ((x.set e (j + 1)).take (e + 1) ++ [0]) (e + 2) := by
  have hl : (c.take (e + 1)).length = e + 1 := by rw [List.length_take]; omega
  have hlx : ((x.set e (j + 1)).take (e + 1)).length = e + 1 := by rw [List.length_take, List.length_set]; omega
  obtain ⟨s, hs⟩ : ∃ s, c.getD e 0 + c.getD j 0 = s := ⟨_, rfl⟩
  rw [hs] at hF ⊢
  have hX1 : ((x.set e (j + 1)).take (e + 1) ++ [0]).getD (e + 1) 0 = 0 := by
    rw [List.getD_eq_getElem?_getD, List.getElem?_append_right (by omega), hlx]
    simp
  have hXe : ∀ i, i ≤ e → ((x.set e (j + 1)).take (e + 1) ++ [0]).getD i 0 = (x.set e (j + 1)).getD i 0 := by
    intro i hi
    rw [List.getD_eq_getElem?_getD, List.getElem?_append_left (by omega), List.getElem?_take_of_lt (by omega), ← List.getD_eq_getElem?_getD]
  have hc2 : (c.take (e + 1) ++ [s]).take (e + 2) = c.take (e + 1) ++ [s] := List.take_of_length_le (by rw [List.length_append, hl]; simp)
  have hc1 : (c.take (e + 1) ++ [s]).take (e + 1) = c.take (e + 1) := by rw [List.take_append_of_le_length (by omega), List.take_take, Nat.min_self]
  show sub F (L - e) (c.take (e + 1)) (x.getD e 0) ++ restTo F L c x e = _ :: (sub F (L - (e + 1)) ((c.take (e + 1) ++ [s]).take (e + 2)) _ ++ (sub F (L - e) ((c.take (e + 1) ++ [s]).take (e + 1)) _ ++ restTo F L _ _ e))
  rw [hX1, hXe e (Nat.le_refl _), getD_set_eq hx, hc2, hc1, restTo_congr (c := c) (x := x) (c' := c.take (e + 1) ++ [s]) (x' := (x.set e (j + 1)).take (e + 1) ++ [0]) e (by rw [List.take_append_of_le_length (by omega), List.take_take, Nat.min_eq_left (by omega)]) (fun i hi => by rw [hXe i (by omega), getD_set_ne (by omega)]), hj]
  obtain ⟨d, hd⟩ : ∃ d, L - e = d + 1 := ⟨L - e - 1, by omega⟩
  rw [hd, sub_at (by omega), show L - (e + 1) = d by omega]
  unfold kid
  rw [hl, lastN_take he, take_last hje, hs, hF, if_pos rfl, pre_eq]
  simp
/-- At the start all chains but the first are to be met. -/
theorem restTo_start (L : Nat) : pre F L [1] = [1] :: restTo F L [1] [0] 1 := by
  rw [pre_eq]
  show _ = [1] :: (sub F (L - 0) _ 0 ++ [])
  rw [List.append_nil]
  rfl

/-- How many chains there are at most. -/
def preN : Nat → Nat → Nat
  | 0, _ => 1
  | d + 1, m => 1 + m * preN d (m + 1)
theorem pre_most : ∀ d (c : List Nat), (pre F d c).length ≤ preN d c.length := by
  intro d
  induction d with
  | zero => intro c; exact Nat.le_refl _
  | succ d ih =>
    intro c
    have key : ∀ ys : List Nat, (ys.flatMap fun a => if F (lastN c + a) c.length then pre F d (c ++ [lastN c + a]) else []).length ≤ ys.length * preN d (c.length + 1) := by
      intro ys
      induction ys with
      | nil => simp
      | cons a ys iha =>
        rw [List.flatMap_cons, List.length_append, List.length_cons, Nat.succ_mul]
        have h1 : (if F (lastN c + a) c.length then pre F d (c ++ [lastN c + a]) else []).length ≤ preN d (c.length + 1) := by
          split
          · have := ih (c ++ [lastN c + a])
            rw [List.length_append, List.length_singleton] at this
            exact this
          · simp
        omega
    show (_ :: _).length ≤ 1 + c.length * preN d (c.length + 1)
    rw [List.length_cons]
    have := key c
    omega
/-- What is met begins with c, and has at most d numbers more. -/
theorem pre_len : ∀ d (c : List Nat), ∀ l ∈ pre F d c, c.length ≤ l.length ∧ l.length ≤ c.length + d := by
  intro d
  induction d with
  | zero => intro c l hl; have := List.mem_singleton.1 hl; subst this; omega
  | succ d ih =>
    intro c l hl
    rcases List.mem_cons.1 hl with rfl | hl
    · omega
    · obtain ⟨a, _, ha⟩ := List.mem_flatMap.1 hl
      split at ha
      · have := ih _ l ha
        rw [List.length_append, List.length_singleton] at this
        omega
      · exact absurd ha (by simp)
end

/-- The whole chains of the search. -/
def leafs (F : Nat → Nat → Bool) (L d : Nat) (c : List Nat) : List (List Nat) := (pre F d c).filter fun l => l.length == L + 1
theorem leafs_zero {F : Nat → Nat → Bool} {L : Nat} {c : List Nat} (h : c.length = L + 1) : leafs F L 0 c = [c] := by
  unfold leafs pre
  rw [List.filter_cons_of_pos (by simpa using h)]
  rfl
theorem filter_flatMap' {α β : Type} (p : β → Bool) (f : α → List β) : ∀ l : List α, (l.flatMap f).filter p = l.flatMap fun a => (f a).filter p := by
  intro l
  induction l with
  | nil => rfl
  | cons a l ih => rw [List.flatMap_cons, List.filter_append, ih, List.flatMap_cons]
theorem leafs_succ {F : Nat → Nat → Bool} {L d : Nat} {c : List Nat} (h : c.length ≤ L) : leafs F L (d + 1) c = c.flatMap fun a => if F (lastN c + a) c.length then leafs F L d (c ++ [lastN c + a]) else [] := by
  show List.filter _ (_ :: _) = _
  rw [List.filter_cons_of_neg (by simp only [beq_iff_eq]; omega), filter_flatMap']
  congr 1
  funext a
  split <;> rfl

/-- The fits of a search for the end n by L steps. -/
def fitN (n L s i : Nat) : Bool := decide (i ≤ L ∧ s ≤ n ∧ n ≤ s * 2 ^ (L - i))
/-- The model's search. -/
def shS (n : Nat) : Nat → Nat → List Nat → List (List Nat)
  | 0, _, c => if lastN c = n then [c] else []
  | k + 1, most, c => c.foldl (fun out a => if n < lastN c + a ∨ (lastN c + a) * 2 ^ k < n ∨ most ≤ out.length then out else out ++ shS n k (most - out.length) (c ++ [lastN c + a])) []
def shJ (n k most : Nat) (c : List Nat) (out : List (List Nat)) (a : Nat) : List (List Nat) :=
  if n < lastN c + a ∨ (lastN c + a) * 2 ^ k < n ∨ most ≤ out.length then out else out ++ shS n k (most - out.length) (c ++ [lastN c + a])
theorem shS_succ (n k most : Nat) (c : List Nat) : shS n (k + 1) most c = c.foldl (shJ n k most c) [] := rfl

theorem take_cut {α : Type} (X Q : List α) (m : Nat) : (X.take m ++ Q).take m = (X ++ Q).take m := by
  rw [List.take_append, List.take_append, List.take_take, Nat.min_self, List.length_take]
  congr 2
  omega

theorem shS_eq {n L : Nat} : ∀ k most (c : List Nat), c.length + k = L + 1 → 1 ≤ most → lastN c ≤ n → n ≤ lastN c * 2 ^ k → shS n k most c = (leafs (fitN n L) L k c).take most := by
  intro k
  induction k with
  | zero =>
    intro most c hc hm h1 h2
    rw [Nat.pow_zero, Nat.mul_one] at h2
    rw [leafs_zero (by omega), List.take_of_length_le (by simpa using hm)]
    show (if lastN c = n then [c] else []) = _
    rw [if_pos (by omega)]
  | succ k ih =>
    intro most c hc hm h1 h2
    rw [leafs_succ (by omega), shS_succ]
    have key : ∀ (ys : List Nat) (out : List (List Nat)), out.length ≤ most →
        ys.foldl (shJ n k most c) out = (out ++ ys.flatMap fun a => if fitN n L (lastN c + a) c.length then leafs (fitN n L) L k (c ++ [lastN c + a]) else []).take most := by
      intro ys
      induction ys with
      | nil => intro out ho; simp [List.take_of_length_le ho]
      | cons a ys iha =>
        intro out ho
        rw [List.foldl_cons, List.flatMap_cons]
        have hk : L - c.length = k := by omega
        by_cases hf : fitN n L (lastN c + a) c.length = true
        · rw [if_pos hf]
          unfold fitN at hf
          rw [decide_eq_true_eq, hk] at hf
          obtain ⟨_, f1, f2⟩ := hf
          by_cases hmo : most ≤ out.length
          · have e : shJ n k most c out a = out := if_pos (Or.inr (Or.inr hmo))
            have ee : out.length = most := by omega
            rw [e, iha out ho, List.take_append_of_le_length (by omega), List.take_append_of_le_length (by omega)]
          · have e : shJ n k most c out a = out ++ shS n k (most - out.length) (c ++ [lastN c + a]) := if_neg (by omega)
            have hL : lastN (c ++ [lastN c + a]) = lastN c + a := lastN_snoc _ _
            rw [e, ih (most - out.length) (c ++ [lastN c + a]) (by rw [List.length_append, List.length_singleton]; omega) (by omega) (by rw [hL]; exact f1) (by rw [hL]; exact f2)]
            rw [iha _ (by rw [List.length_append, List.length_take]; omega)]
            generalize leafs (fitN n L) L k (c ++ [lastN c + a]) = P
            generalize (ys.flatMap fun a => if fitN n L (lastN c + a) c.length = true then leafs (fitN n L) L k (c ++ [lastN c + a]) else []) = Q
            rw [← List.append_assoc out P Q]
            have e1 : out ++ P.take (most - out.length) = (out ++ P).take most := by
              rw [List.take_append, List.take_of_length_le ho]
            rw [e1, take_cut]
        · rw [if_neg hf, List.nil_append]
          unfold fitN at hf
          rw [decide_eq_true_eq, hk] at hf
          have e : shJ n k most c out a = out := if_pos (by
            rcases Nat.lt_or_ge n (lastN c + a) with h | h
            · exact Or.inl h
            · right; left
              rcases Nat.lt_or_ge ((lastN c + a) * 2 ^ k) n with h' | h'
              · exact h'
              · exact absurd ⟨by omega, h, h'⟩ hf)
          rw [e, iha out ho]
    have := key c [] (by simp)
    rw [List.nil_append] at this
    exact this
/-- The first ones of the whole chains, at most so many. -/
def firstsN (n L most : Nat) : List (List Nat) := if fitN n L 1 0 then (leafs (fitN n L) L L [1]).take most else []
theorem shS_first {n L most : Nat} (hn : 1 ≤ n) (hm : 1 ≤ most) : shS n L most [1] = firstsN n L most := by
  unfold firstsN
  by_cases hf : fitN n L 1 0 = true
  · rw [if_pos hf]
    unfold fitN at hf
    rw [decide_eq_true_eq] at hf
    exact shS_eq L most [1] (by simp; omega) hm hf.2.1 hf.2.2
  · rw [if_neg hf]
    unfold fitN at hf
    rw [decide_eq_true_eq] at hf
    cases L with
    | zero =>
      show (if lastN [1] = n then _ else _) = _
      rw [if_neg]
      intro h
      apply hf
      have : lastN [1] = 1 := rfl
      refine ⟨by omega, hn, ?_⟩
      rw [Nat.pow_zero]
      omega
    | succ k =>
      rw [shS_succ]
      show shJ n k most [1] [] 1 = _
      unfold shJ
      rw [if_pos]
      have h1 : lastN [1] = 1 := rfl
      rw [h1]
      by_cases h2 : (1 + 1) * 2 ^ k < n
      · exact Or.inr (Or.inl h2)
      · exfalso
        apply hf
        refine ⟨by omega, hn, ?_⟩
        rw [Nat.sub_zero, Nat.pow_succ]
        omega
end Go.Proofs.Ytbbjgcagkmlngab
/- Chains as data: strictly rising lists, the sums of a number, the steps of a chain. -/
namespace Go.Proofs.Ytbbjgcagkmlngab

/-- Strictly rising. -/
def Asc (l : List Int) : Prop := ∀ i j, i < j → j < l.length → l.getD i 0 < l.getD j 0
/-- What a sum of the number k with the greater index j is: index i. -/
def prsI (l : List Int) (k j n : Nat) : List (Int × Int) := ((List.range n).filter fun i : Nat => l.getD i 0 + l.getD j 0 == l.getD k 0).map fun i : Nat => ((i : Int), (j : Int))
def prsJ (l : List Int) (k j : Nat) : List (Int × Int) := prsI l k j (j + 1)
def prs (l : List Int) (k m : Nat) : List (Int × Int) := (List.range m).flatMap (prsJ l k)

theorem prsI_zero (l : List Int) (k j : Nat) : prsI l k j 0 = [] := rfl
theorem prsI_hit {l : List Int} {k j n : Nat} (h : l.getD n 0 + l.getD j 0 = l.getD k 0) : prsI l k j (n + 1) = prsI l k j n ++ [((n : Int), (j : Int))] := by
  unfold prsI
  have e : (l.getD n 0 + l.getD j 0 == l.getD k 0) = true := by simpa only [beq_iff_eq] using h
  rw [List.range_succ, List.filter_append, List.map_append]
  simp only [List.filter_cons, List.filter_nil, e]
  rfl
theorem prsI_miss {l : List Int} {k j n : Nat} (h : ¬ l.getD n 0 + l.getD j 0 = l.getD k 0) : prsI l k j (n + 1) = prsI l k j n := by
  unfold prsI
  have e : (l.getD n 0 + l.getD j 0 == l.getD k 0) = false := by simpa only [beq_eq_false_iff_ne] using h
  rw [List.range_succ, List.filter_append, List.map_append]
  simp only [List.filter_cons, List.filter_nil, e]
  simp
theorem prs_zero (l : List Int) (k : Nat) : prs l k 0 = [] := rfl
theorem prs_succ (l : List Int) (k m : Nat) : prs l k (m + 1) = prs l k m ++ prsJ l k m := by
  unfold prs
  rw [List.range_succ, List.flatMap_append]
  simp
theorem prsI_le (l : List Int) (k j n : Nat) : (prsI l k j n).length ≤ n := by
  unfold prsI
  rw [List.length_map]
  exact Nat.le_trans (List.length_filter_le _ _) (by simp)

theorem take_succ_getD {l : List Int} {k : Nat} (hk : k < l.length) : l.take (k + 1) = l.take k ++ [l.getD k 0] := by
  rw [List.take_succ_eq_append_getElem hk]
  simp [hk]
theorem mem_take_getD {l : List Int} {k : Nat} {x : Int} (hk : k ≤ l.length) : x ∈ l.take k ↔ ∃ i, i < k ∧ l.getD i 0 = x := by
  rw [List.mem_iff_getElem]
  constructor
  · rintro ⟨i, hi, rfl⟩
    have h1 : i < k := by rw [List.length_take] at hi; omega
    refine ⟨i, h1, ?_⟩
    rw [List.getElem_take]
    simp [show i < l.length by omega]
  · rintro ⟨i, hi, rfl⟩
    refine ⟨i, by rw [List.length_take]; omega, ?_⟩
    rw [List.getElem_take]
    simp [show i < l.length by omega]
/-- In a strictly rising list the index of x is the number of lesser numbers. -/
theorem count_at {l : List Int} {x : Int} : ∀ m, m ≤ l.length →
    (∀ i, i < m → l.getD i 0 < x) → (l.take m).countP (fun y => decide (y < x)) = m := by
  intro m
  induction m with
  | zero => intro _ _; rfl
  | succ m ih =>
    intro hm h
    rw [take_succ_getD (by omega), List.countP_append, ih (by omega) (fun i hi => h i (by omega))]
    have e2 : decide (l.getD m 0 < x) = true := by simpa only [decide_eq_true_eq] using h m (by omega)
    simp only [List.countP_cons, List.countP_nil, e2]
    simp
theorem find_eq {l : List Int} (ha : Asc l) (x : Int) : ∀ m, m ≤ l.length →
    ((List.range m).filter fun i => l.getD i 0 == x) = if x ∈ l.take m then [(l.take m).countP (fun y => decide (y < x))] else [] := by
  intro m
  induction m with
  | zero => intro _; simp
  | succ m ih =>
    intro hm
    rw [List.range_succ, List.filter_append, ih (by omega), take_succ_getD (by omega)]
    by_cases hx : l.getD m 0 = x
    · have hnot : ¬ x ∈ l.take m := by
        rw [mem_take_getD (by omega)]
        rintro ⟨i, hi, he⟩
        have := ha i m hi (by omega)
        omega
      have hc : (l.take m).countP (fun y => decide (y < x)) = m := count_at m (by omega) fun i hi => by have := ha i m hi (by omega); omega
      rw [if_neg hnot, List.countP_append, hc]
      rw [if_pos (by rw [hx]; simp)]
      have e1 : (l.getD m 0 == x) = true := by simpa using hx
      have e2 : decide (l.getD m 0 < x) = false := by simp only [decide_eq_false_iff_not]; omega
      simp only [List.filter_cons, List.filter_nil, e1, List.countP_cons, List.countP_nil, e2]
      simp
    · by_cases hin : x ∈ l.take m
      · rw [if_pos hin, if_pos (List.mem_append_left _ hin), List.countP_append]
        obtain ⟨i, hi, he⟩ := (mem_take_getD (by omega)).1 hin
        have := ha i m hi (by omega)
        have h1 : ¬ l.getD m 0 < x := by omega
        have h2 : (l.getD m 0 == x) = false := by simpa using hx
        simp only [List.filter_cons, h2, List.countP_cons, List.countP_nil, h1, List.filter_nil]
        simp
      · have h2 : (l.getD m 0 == x) = false := by simpa using hx
        have hnot : ¬ x ∈ l.take m ++ [l.getD m 0] := by
          intro h
          rcases List.mem_append.1 h with h | h
          · exact hin h
          · exact hx (List.mem_singleton.1 h).symm
        rw [if_neg hin, if_neg hnot]
        simp only [List.filter_cons, h2, List.filter_nil]
        simp
theorem prsJ_eq {l : List Int} (ha : Asc l) (k j : Nat) (hj : j < l.length) :
    prsJ l k j = if l.getD k 0 - l.getD j 0 ∈ l.take (j + 1) then [((((l.take (j + 1)).countP (fun y => decide (y < l.getD k 0 - l.getD j 0)) : Nat) : Int), (j : Int))] else [] := by
  unfold prsJ prsI
  have e : (fun i : Nat => l.getD i 0 + l.getD j 0 == l.getD k 0) = fun i : Nat => l.getD i 0 == l.getD k 0 - l.getD j 0 := by
    funext i
    rw [Bool.eq_iff_iff]
    simp only [beq_iff_eq]
    omega
  rw [e, find_eq ha _ (j + 1) (by omega)]
  split <;> rfl
theorem prsJ_le {l : List Int} (ha : Asc l) (k j : Nat) (hj : j < l.length) : (prsJ l k j).length ≤ 1 := by
  rw [prsJ_eq ha k j hj]
  split <;> simp
theorem prs_le {l : List Int} (ha : Asc l) (k : Nat) : ∀ m, m ≤ l.length → (prs l k m).length ≤ m := by
  intro m
  induction m with
  | zero => intro _; simp [prs_zero]
  | succ m ih =>
    intro h
    rw [prs_succ, List.length_append]
    have := ih (by omega)
    have := prsJ_le ha k m (by omega)
    omega
/-- The parts of a sum: 0 ≤ A ≤ B < m. -/
theorem prs_mem {l : List Int} {k : Nat} : ∀ m, ∀ p ∈ prs l k m, ∃ i j : Nat, p = ((i : Int), (j : Int)) ∧ i ≤ j ∧ j < m ∧ l.getD i 0 + l.getD j 0 = l.getD k 0 := by
  intro m
  induction m with
  | zero => intro p hp; simp [prs_zero] at hp
  | succ m ih =>
    intro p hp
    rw [prs_succ] at hp
    rcases List.mem_append.1 hp with h | h
    · obtain ⟨i, j, e, h1, h2, h3⟩ := ih p h
      exact ⟨i, j, e, h1, by omega, h3⟩
    · unfold prsJ prsI at h
      simp only [List.mem_map, List.mem_filter, List.mem_range, beq_iff_eq] at h
      obtain ⟨i, ⟨hi, he⟩, rfl⟩ := h
      exact ⟨i, m, rfl, by omega, by omega, he⟩

/-- Rising, and within lo..hi, up to index k. -/
def risB (l : List Int) (lo hi : Int) (k : Nat) : Bool := (List.range k).all fun i => inB (l.getD i 0) lo hi && (decide (i = 0) || decide (l.getD (i - 1) 0 < l.getD i 0))
theorem risB_succ (l : List Int) (lo hi : Int) (k : Nat) : risB l lo hi (k + 1) = (risB l lo hi k && (inB (l.getD k 0) lo hi && (decide (k = 0) || decide (l.getD (k - 1) 0 < l.getD k 0)))) := by
  unfold risB
  rw [List.range_succ, List.all_append]
  simp
theorem risB_false {l : List Int} {lo hi : Int} {k : Nat} (n : Nat) (hk : k < n) (h : (inB (l.getD k 0) lo hi && (decide (k = 0) || decide (l.getD (k - 1) 0 < l.getD k 0))) = false) : risB l lo hi n = false := by
  unfold risB
  rw [List.all_eq_false]
  exact ⟨k, List.mem_range.2 hk, by rw [h]; simp⟩
theorem risB_asc {l : List Int} {lo hi : Int} : ∀ n, risB l lo hi n = true → n ≤ l.length → (∀ i, i < n → lo ≤ l.getD i 0 ∧ l.getD i 0 ≤ hi) ∧ ∀ i j, i < j → j < n → l.getD i 0 < l.getD j 0 := by
  intro n
  induction n with
  | zero => intro _ _; exact ⟨fun i h => absurd h (by omega), fun i j _ h => absurd h (by omega)⟩
  | succ n ih =>
    intro h hn
    rw [risB_succ] at h
    simp only [Bool.and_eq_true, Bool.or_eq_true, decide_eq_true_eq, inB] at h
    obtain ⟨h1, ⟨h2, h3⟩, h4⟩ := h
    obtain ⟨i1, i2⟩ := ih h1 (by omega)
    refine ⟨fun i hi => ?_, fun i j hij hj => ?_⟩
    · rcases Nat.lt_or_eq_of_le (Nat.le_of_lt_succ hi) with h | rfl
      · exact i1 i h
      · exact ⟨h2, h3⟩
    · rcases Nat.lt_or_eq_of_le (Nat.le_of_lt_succ hj) with h | rfl
      · exact i2 i j hij h
      · rcases h4 with h4 | h4
        · omega
        · rcases Nat.lt_or_eq_of_le (Nat.le_sub_one_of_lt hij) with h5 | rfl
          · have := i2 i (j - 1) h5 (by omega)
            omega
          · exact h4
/-- All of a chain but the sums. -/
def chB (l : List Int) : Bool := inB (l.length : Nat) 1 41 && (l.getD 0 0 == 1) && risB l 1 1000000 l.length
def sumsB (l : List Int) (k : Nat) : Bool := (List.range k).all fun i => decide (i = 0) || !(prs l i i).isEmpty
def chG (l : List Int) : Bool := chB l && sumsB l l.length
theorem sumsB_succ (l : List Int) (k : Nat) : sumsB l (k + 1) = (sumsB l k && (decide (k = 0) || !(prs l k k).isEmpty)) := by
  unfold sumsB
  rw [List.range_succ, List.all_append]
  simp
theorem sumsB_false {l : List Int} {k : Nat} (n : Nat) (hk : k < n) (h0 : k ≠ 0) (h : prs l k k = []) : sumsB l n = false := by
  unfold sumsB
  rw [List.all_eq_false]
  exact ⟨k, List.mem_range.2 hk, by simp [h, h0]⟩
/-- The last sum of each number from 1 to k - 1. -/
def stepsK (l : List Int) (k : Nat) : List (Int × Int) := (List.range (k - 1)).map fun i => (prs l (i + 1) (i + 1)).getLastD (0, 0)
theorem stepsK_succ (l : List Int) (k : Nat) (hk : 1 ≤ k) : stepsK l (k + 1) = stepsK l k ++ [(prs l k k).getLastD (0, 0)] := by
  unfold stepsK
  rw [show k + 1 - 1 = (k - 1) + 1 by omega, List.range_succ, List.map_append]
  simp [show k - 1 + 1 = k by omega]
theorem stepsK_length (l : List Int) (k : Nat) : (stepsK l k).length = k - 1 := by simp [stepsK]
theorem stepsK_one (l : List Int) : stepsK l 1 = [] := rfl

structure Chn (l : List Int) : Prop where
  pos : 1 ≤ l.length
  most : l.length ≤ 41
  one : l.getD 0 0 = 1
  rng : ∀ i, i < l.length → 1 ≤ l.getD i 0 ∧ l.getD i 0 ≤ 1000000
  asc : Asc l
theorem chn_of {l : List Int} (h : chB l = true) : Chn l := by
  unfold chB at h
  simp only [Bool.and_eq_true, inB, decide_eq_true_eq, beq_iff_eq] at h
  obtain ⟨⟨⟨h1, h2⟩, h3⟩, h4⟩ := h
  obtain ⟨h5, h6⟩ := risB_asc l.length h4 (Nat.le_refl _)
  exact ⟨by omega, by omega, h3, h5, h6⟩
theorem risB_of {l : List Int} {lo hi : Int} : ∀ n, (∀ i, i < n → lo ≤ l.getD i 0 ∧ l.getD i 0 ≤ hi) → (∀ i, i + 1 < n → l.getD i 0 < l.getD (i + 1) 0) → risB l lo hi n = true := by
  intro n
  induction n with
  | zero => intro _ _; rfl
  | succ n ih =>
    intro h1 h2
    rw [risB_succ, ih (fun i hi => h1 i (by omega)) (fun i hi => h2 i (by omega))]
    have := h1 n (by omega)
    simp only [Bool.true_and, Bool.and_eq_true, Bool.or_eq_true, decide_eq_true_eq, inB]
    refine ⟨this, ?_⟩
    rcases Nat.eq_zero_or_pos n with h | h
    · exact .inl h
    · right
      have := h2 (n - 1) (by omega)
      rwa [show n - 1 + 1 = n by omega] at this
theorem chn_chB {l : List Int} (h : Chn l) : chB l = true := by
  have h3 := h.one
  have h1 := h.pos
  have h2 := h.most
  unfold chB
  rw [risB_of l.length h.rng fun i hi => h.asc i (i + 1) (by omega) hi]
  simp only [Bool.and_true, Bool.and_eq_true, inB, decide_eq_true_eq, beq_iff_eq]
  exact ⟨⟨by omega, by omega⟩, h3⟩
theorem chG_chn {l : List Int} (h : chG l = true) : Chn l := chn_of (by unfold chG at h; simp only [Bool.and_eq_true] at h; exact h.1)
theorem chG_sums {l : List Int} (h : chG l = true) : ∀ k, 1 ≤ k → k < l.length → prs l k k ≠ [] := by
  intro k h1 h2 he
  unfold chG at h
  rw [sumsB_false l.length h2 (by omega) he] at h
  simp at h
theorem getLastD_snoc {α : Type} (l : List α) (a d : α) : (l ++ [a]).getLastD d = a := by simp
theorem last_form {l : List (Int × Int)} (h : l ≠ []) : l.getLastD (0, 0) = l[l.length - 1]'(by have := List.length_pos_iff.2 h; omega) := by
  rw [List.getLastD_eq_getLast?, List.getLast?_eq_getElem?]
  have := List.length_pos_iff.2 h
  simp [show l.length - 1 < l.length by omega]
end Go.Proofs.Ytbbjgcagkmlngab
/- The model's small functions of chains: rising lists, the sums of a number. -/
namespace Go.Proofs.Ytbbjgcagkmlngab
open Go.RowKit

/-- The cell of element k. -/
theorem Rd.intD {w : World} {B : Nat} {A : Option Addr} {l : List Int} (h : Rd w B 1 A l.length (l.map I)) {k : Nat} (hk : k < l.length) :
    ∃ b off, A = some ⟨b, off, none⟩ ∧ b < B ∧ w.cell? ⟨b, off + k, none⟩ = some (.int .i64 (l.getD k 0)) := by
  obtain ⟨b, off, e, hb, hc⟩ := h.int hk
  exact ⟨b, off, e, hb, by rw [hc]; simp [hk]⟩
/-- All cells of a list that is not empty. -/
theorem Rd.cells {w : World} {B : Nat} {A : Option Addr} {l : List Int} (h : Rd w B 1 A l.length (l.map I)) (h0 : 0 < l.length) :
    ∃ b off, A = some ⟨b, off, none⟩ ∧ b < B ∧ ∀ k, k < l.length → w.cell? ⟨b, off + k, none⟩ = some (.int .i64 (l.getD k 0)) := by
  obtain ⟨b, off, e, hb, hc⟩ := h.2 (by omega)
  refine ⟨b, off, e, hb, fun k hk => ?_⟩
  rw [hc k (by omega)]
  simp [I, hk]

end Go.Proofs.Ytbbjgcagkmlngab
/- The model's sums of a number of a list. -/
namespace Go.Proofs.Ytbbjgcagkmlngab
open Go.RowKit

theorem OwS.nil (w : World) (B : Nat) : OwS w B (.slice none 0 0) [] := World.ownsRow_nil _ _ _ _
theorem OwS.below {w w' : World} {B : Nat} {v : Value} {s : List (Int × Int)} (h : OwS w B v s) (hb : Below w.heap.size w w') : OwS w' B v s := own_below h hb
theorem OwS.base {w : World} {B B' : Nat} {v : Value} {s : List (Int × Int)} (h : OwS w B v s) (hB : B' ≤ B) : OwS w B' v s := own_base h hB
theorem OwS.rd {w : World} {B : Nat} {A : Option Addr} {c : Nat} {s : List (Int × Int)} (h : OwS w B (.slice A s.length c) s) : Rd w w.heap.size 2 A s.length (fl s) := Rd.of_own h

end Go.Proofs.Ytbbjgcagkmlngab
/- Whether a list is a chain, and its steps, by the model. -/
namespace Go.Proofs.Ytbbjgcagkmlngab
open Go.RowKit

theorem sumsB_one (l : List Int) : sumsB l 1 = true := rfl
theorem isEmpty_ne {α : Type} {l : List α} (h : l ≠ []) : l.isEmpty = false := by cases l with | nil => exact absurd rfl h | cons => rfl

end Go.Proofs.Ytbbjgcagkmlngab
/- The steps of a chain, by the model. -/
namespace Go.Proofs.Ytbbjgcagkmlngab
open Go.RowKit

/-- The last element of an own row of steps. -/
theorem OwS.last {w : World} {B : Nat} {A : Option Addr} {c q : Nat} {P : List (Int × Int)} (h : OwS w B (.slice A (q + 1) c) P) (hq : P.length = q + 1) :
    ∃ g x y, A = some ⟨g, 0, none⟩ ∧ B ≤ g ∧ g < w.heap.size ∧ w.cell? ⟨g, q * 2, none⟩ = some (.int .i64 x) ∧ w.cell? ⟨g, q * 2 + 1, none⟩ = some (.int .i64 y) ∧ P.getLastD (0, 0) = (x, y) := by
  unfold OwS at h
  rw [hq] at h
  obtain ⟨g, rfl, hB, hg, hc, _⟩ := own_at h (by omega)
  have hlt : q < P.length := by omega
  obtain ⟨f1, f2⟩ := fl_at hlt
  refine ⟨g, P[q].1, P[q].2, rfl, hB, hg, by rw [hc _ (by omega), f1], by rw [hc _ (by omega), f2], ?_⟩
  have hne : P ≠ [] := by intro h; rw [h] at hq; simp at hq
  rw [last_form hne]
  simp [hq]

end Go.Proofs.Ytbbjgcagkmlngab
/- The program's search in a rising list, and the sums of a number. -/
namespace Go.Proofs.Ytbbjgcagkmlngab
open Go.RowKit

/-- How many numbers of the list are less than x. -/
def cnt (l : List Int) (x : Int) : Nat := l.countP fun y => decide (y < x)
theorem cnt_at {l : List Int} {x : Int} {i : Nat} (hi : i ≤ l.length) (h1 : ∀ t, t < i → l.getD t 0 < x) (h2 : ∀ t, i ≤ t → t < l.length → x ≤ l.getD t 0) : cnt l x = i := by
  unfold cnt
  rw [← List.take_append_drop i l, List.countP_append, count_at i hi h1]
  have : (l.drop i).countP (fun y => decide (y < x)) = 0 := by
    rw [List.countP_eq_zero]
    intro y hy
    obtain ⟨j, hj, rfl⟩ := List.mem_iff_getElem.1 hy
    rw [List.length_drop] at hj
    have := h2 (i + j) (by omega) (by omega)
    rw [List.getElem_drop]
    simp only [decide_eq_true_eq]
    have e : l.getD (i + j) 0 = l[i + j]'(by omega) := by simp [show i + j < l.length by omega]
    omega
  omega
theorem mem_at {l : List Int} (ha : Asc l) {x : Int} {i : Nat} (hi : i ≤ l.length) (h1 : ∀ t, t < i → l.getD t 0 < x) (h2 : ∀ t, i ≤ t → t < l.length → x ≤ l.getD t 0) : decide (x ∈ l) = decide (i < l.length ∧ l.getD i 0 = x) := by
  rw [decide_eq_decide]
  have e := mem_take_getD (l := l) (k := l.length) (x := x) (Nat.le_refl _)
  rw [List.take_length] at e
  rw [e]
  constructor
  · rintro ⟨j, hj, rfl⟩
    rcases Nat.lt_trichotomy j i with h | rfl | h
    · have := h1 j h; omega
    · exact ⟨hj, rfl⟩
    · have := h2 i (Nat.le_refl _) (by omega)
      have := ha i j h hj
      omega
  · rintro ⟨h, rfl⟩
    exact ⟨i, h, rfl⟩
theorem asc_le {l : List Int} (ha : Asc l) {i j : Nat} (h : i ≤ j) (hj : j < l.length) : l.getD i 0 ≤ l.getD j 0 := by
  rcases Nat.lt_or_eq_of_le h with h | rfl
  · exact Int.le_of_lt (ha i j h hj)
  · exact Int.le_refl _

end Go.Proofs.Ytbbjgcagkmlngab
/- The program's sums of a number. -/
namespace Go.Proofs.Ytbbjgcagkmlngab
open Go.RowKit

theorem Rd.take {w : World} {B : Nat} {A : Option Addr} {l : List Int} (h : Rd w B 1 A l.length (l.map I)) {n : Nat} (hn : n ≤ l.length) : Rd w B 1 A n ((l.take n).map I) := by
  refine ⟨by simp; omega, fun h0 => ?_⟩
  obtain ⟨b, off, e, hb, hc⟩ := h.2 (by omega)
  refine ⟨b, off, e, hb, fun j hj => ?_⟩
  rw [hc j (by omega), List.map_take, List.getElem?_take]
  simp [show j < n by omega]
theorem asc_take {l : List Int} (h : Asc l) (n : Nat) : Asc (l.take n) := by
  intro i j hij hj
  rw [List.length_take] at hj
  have e : ∀ t, t < n → t < l.length → (l.take n).getD t 0 = l.getD t 0 := fun t h1 h2 => by simp [h1, h2]
  rw [e i (by omega) (by omega), e j (by omega) (by omega)]
  exact h i j hij (by omega)

end Go.Proofs.Ytbbjgcagkmlngab
/- Whether a list is a chain, and its steps, by the program. -/
namespace Go.Proofs.Ytbbjgcagkmlngab
open Go.RowKit

/-- The steps that are answered: of no chain none. -/
def chS (l : List Int) : List (Int × Int) := if chG l then stepsK l l.length else []
theorem chS_true {l : List Int} (h : chG l = true) : chS l = stepsK l l.length := by unfold chS; rw [if_pos h]
theorem chS_false {l : List Int} (h : chG l = false) : chS l = [] := by unfold chS; rw [h]; rfl
theorem chS_le (l : List Int) : (chS l).length ≤ 1000 := by
  unfold chS
  split
  · rename_i h
    rw [stepsK_length]
    have := (chG_chn h).most
    omega
  · simp
theorem may_false {l : List Int} {k : Nat} (hk : k + 1 < l.length) (h : l.getD (k + 1) 0 ≤ l.getD k 0) : chB l = false := by
  unfold chB
  rw [risB_false (l := l) (lo := 1) (hi := 1000000) (k := k + 1) l.length hk (by
    rw [show k + 1 - 1 = k from rfl]
    have h1 : decide (l.getD k 0 < l.getD (k + 1) 0) = false := by rw [decide_eq_false_iff_not]; omega
    rw [h1]
    simp), Bool.and_false]
theorem may_end {l : List Int} (h1 : 1 ≤ l.length) (h2 : l.length ≤ 41) (h3 : l.getD 0 0 = 1) (h : ∀ i, i + 1 < l.length → l.getD i 0 < l.getD (i + 1) 0) : chB l = decide (l.getD (l.length - 1) 0 ≤ 1000000) := by
  have hup : ∀ j, j < l.length → ∀ i, i ≤ j → l.getD i 0 ≤ l.getD j 0 := by
    intro j
    induction j with
    | zero => intro _ i hi; rw [show i = 0 by omega]; exact Int.le_refl _
    | succ j ih =>
      intro hj i hi
      rcases Nat.lt_or_eq_of_le hi with hi | rfl
      · have := ih (by omega) i (by omega)
        have := h j hj
        omega
      · exact Int.le_refl _
  by_cases hle : l.getD (l.length - 1) 0 ≤ 1000000
  · rw [decide_eq_true hle]
    unfold chB
    rw [risB_of l.length (fun i hi => ⟨by have := hup i hi 0 (by omega); rw [h3] at this; exact this, by have := hup (l.length - 1) (by omega) i (by omega); omega⟩) h, h3]
    unfold inB
    rw [decide_eq_true (show (1 : Int) ≤ ((l.length : Nat) : Int) by omega), decide_eq_true (show ((l.length : Nat) : Int) ≤ 41 by omega)]
    rfl
  · rw [decide_eq_false hle]
    unfold chB
    rw [risB_false (l := l) (lo := 1) (hi := 1000000) (k := l.length - 1) l.length (by omega) (by
      unfold inB
      rw [decide_eq_false hle]
      simp), Bool.and_false]

/-- The last number of a list. -/
theorem endOf_any (B : Nat) (A : Option Addr) (c : Nat) (l : List Int) (w : World) (h1 : 1 ≤ l.length) (hl : l.length ≤ 1048576) (hr : Rd w B 1 A l.length (l.map I)) :
    Calls Try.prog 117 #[.slice A l.length c] w fun e w' => e = .returned (.int .i64 (l.getD (l.length - 1) 0)) ∧ w' = w := by
  obtain ⟨b, off, rfl, hbB, hc⟩ := hr.cells (by omega)
  have c1 := hc (l.length - 1) (by omega)
  obtain ⟨N, hN⟩ : ∃ N, l.length = N + 1 := ⟨l.length - 1, by omega⟩
  have hsub : IntKind.i64.wrap ((l.length : Int) - 1) = (N : Int) := by rw [IntWalk.i64_in _ (by omega)]; omega
  rw [show l.length - 1 = N by omega] at c1 ⊢
  have i1 : (N : Int) < (l.length : Int) := by omega
  obtain ⟨y, hy⟩ : ∃ y, l.getD N 0 = y := ⟨_, rfl⟩
  rw [hy] at c1 ⊢
  clear hc hr hy hN
  go_enter Try.func117, Try.ntmps117
  go_wp2
  go_ret
  exact ⟨rfl, rfl⟩

end Go.Proofs.Ytbbjgcagkmlngab
/- Copies of lists of integers. -/
namespace Go.Proofs.Ytbbjgcagkmlngab
open Go.RowKit

theorem eq_nil_I (A : Option Addr) (n c : Nat) (W : World) : (binOp .eql 22 (.slice A n c) (.slice none 0 0)).run Try.prog W = .ok (.bool A.isNone) W := by
  simp only [binOp]
  simp [run_equal_slice_nil W 22 3 A n c Try.underlying22]
theorem Rd.addr {w : World} {B : Nat} {A : Option Addr} {l : List Int} (h : Rd w B 1 A l.length (l.map I)) (h0 : 0 < l.length) : ∃ a, A = some a := by
  obtain ⟨b, off, e, _⟩ := h.2 (by omega)
  exact ⟨_, e⟩
set_option maxRecDepth 100000 in
set_option maxHeartbeats 1000000 in
theorem cloneI_any (B : Nat) (A : Option Addr) (c : Nat) (l : List Int) (w : World) (hm : l.length ≤ 1000000) (h0 : 0 < l.length) (hB : B ≤ w.heap.size) (hr : Rd w B 1 A l.length (l.map I)) :
    Calls Try.prog 110 #[.slice A l.length c] w fun e w' => ∃ A' c', e = .returned (.slice A' l.length c') ∧ OwI w' w.heap.size (.slice A' l.length c') l ∧ Below w.heap.size w w' := by
  obtain ⟨ad, rfl⟩ := hr.addr h0
  have H := Lib.hid hr
  clear hr
  have hnil := fun W => eq_nil_I (some ad) l.length c W
  go_enter Try.func110, Try.ntmps110
  go_wp2_with (first
    | (at_builtin; refine list_step (fun K hK => ?_); refine step_appM Try.underlying22 info_int rfl (by omega) (by omega) rfl (.tmp 5) (.tmp 6) rfl w.heap.size 0 _ [] rfl (own_empty 1 (Nat.le_refl _)) _ l.length c (l.map I) rfl (H.out.alloc hB _) (ints_one l) (by omega) (by simp) ?_; intro A2 c2 w2 hown2 hg2 hbel2; go_simp; refine hK _ _ ?_; clear hK K))
  go_ret
  simp only [Nat.zero_add, List.nil_append] at hown2
  exact ⟨A2, c2, by simp, hown2, ((Below.refl _ _).alloc (Nat.le_refl _) _).trans hbel2⟩
end Go.Proofs.Ytbbjgcagkmlngab
/- Lists of lists that the laws compare, mark and look at again. -/
namespace Go.Proofs.Ytbbjgcagkmlngab
open Go.RowKit

def TT (f : Nat → Option Addr × Nat) (N k : Nat) : List Value := (List.range k).map fun i => Value.slice (f i).1 N (f i).2
def upd (f : Nat → Option Addr × Nat) (k : Nat) (a : Option Addr × Nat) : Nat → Option Addr × Nat := fun i => if i = k then a else f i
def OwE (w : World) (B : Nat) (f : Nat → Option Addr × Nat) (N k : Nat) (r : Nat → List Int) : Prop := ∀ i, i < k → w.ownsRow B 3 1 (.slice (f i).1 N (f i).2) N ((r i).map I)
def Far (f : Nat → Option Addr × Nat) (N k : Nat) : Prop := ∀ i j, i < k → j < k → i ≠ j → (Value.slice (f i).1 N (f i).2).ownBlock = none ∨ (Value.slice (f i).1 N (f i).2).ownBlock ≠ (Value.slice (f j).1 N (f j).2).ownBlock
/-- A list of R lists of N numbers each, all of it own. -/
def OwL (w : World) (B : Nat) (A : Option Addr) (c : Nat) (f : Nat → Option Addr × Nat) (N R : Nat) (r : Nat → List Int) : Prop := w.ownsRow B 22 1 (.slice A R c) R (TT f N R) ∧ OwE w B f N R r
theorem TT_length (f : Nat → Option Addr × Nat) (N k : Nat) : (TT f N k).length = k := by simp [TT]
theorem TT_at (f : Nat → Option Addr × Nat) (N : Nat) {k i : Nat} (hi : i < k) : (TT f N k)[i]? = some (Value.slice (f i).1 N (f i).2) := by simp [TT, hi]
theorem TT_upd (f : Nat → Option Addr × Nat) (N k : Nat) (A : Option Addr) (c : Nat) : TT (upd f k (A, c)) N (k + 1) = TT f N k ++ [Value.slice A N c] := by
  unfold TT
  rw [List.range_succ, List.map_append]
  congr 1
  · apply List.map_congr_left
    intro i hi
    have : i ≠ k := by have := List.mem_range.1 hi; omega
    simp [upd, this]
  · simp [upd]
section
variable {w w' : World} {B B' : Nat} {A : Option Addr} {c N R k : Nat} {f : Nat → Option Addr × Nat} {r : Nat → List Int}
theorem OwE.below (h : OwE w B f N k r) (hb : Below w.heap.size w w') : OwE w' B f N k r := fun i hi => own_below (h i hi) hb
theorem OwE.base (h : OwE w B f N k r) (hB : B' ≤ B) : OwE w B' f N k r := fun i hi => own_base (h i hi) hB
theorem OwL.below (h : OwL w B A c f N R r) (hb : Below w.heap.size w w') : OwL w' B A c f N R r := ⟨own_below h.1 hb, h.2.below hb⟩
theorem OwL.base (h : OwL w B A c f N R r) (hB : B' ≤ B) : OwL w B' A c f N R r := ⟨own_base h.1 hB, h.2.base hB⟩
theorem OwL.drewN (h : OwL w B A c f N R r) (n : Nat) : OwL (w.drewN n) B A c f N R r := h
theorem OwL.win {lo hi : Nat} (hw : Win lo hi w w') (h : OwL w B A c f N R r) (hB : hi ≤ B) : OwL w' B A c f N R r := ⟨hw.own h.1 hB, fun i hi => hw.own (h.2 i hi) hB⟩
/-- Row i: its slice value's cell, and its numbers. -/
theorem OwL.at_ (h : OwL w B A c f N R r) {i : Nat} (hi : i < R) : ∃ g, A = some ⟨g, 0, none⟩ ∧ B ≤ g ∧ g < w.heap.size ∧ w.cell? ⟨g, i, none⟩ = some (Value.slice (f i).1 N (f i).2) ∧ Rd w w.heap.size 1 (f i).1 N ((r i).map I) ∧ (r i).length = N := by
  obtain ⟨g, rfl, hB, hg, hc, _⟩ := own_at h.1 (by omega)
  have h2 := h.2 i hi
  exact ⟨g, rfl, hB, hg, by rw [hc i (by omega), TT_at f N hi], Rd.of_own h2, by have := h2.1; simpa using this⟩
end

set_option maxRecDepth 100000 in
set_option maxHeartbeats 1000000 in
theorem eqIntSS_any (B B' : Nat) (A A' : Option Addr) (c c' N R : Nat) (f f' : Nat → Option Addr × Nat) (r : Nat → List Int) (w : World) (hN : N ≤ 1000) (hR : R ≤ 1000) (h : OwL w B A c f N R r) (h' : OwL w B' A' c' f' N R r) :
    Calls Try.prog 40 #[.slice A R c, .slice A' R c'] w fun e w' => e = .returned (.bool true) ∧ Dr w w' := by
  have H := Lib.hid h
  have H' := Lib.hid h'
  clear h h'
  go_enter Try.func40, Try.ntmps40
  go_wp2
  go_loopw [5] (fun i wr => ∃ k n : Nat, k ≤ R ∧ i = .int .i64 k ∧ wr = w.drewN n) (fun i _ => R - (intOf i).toNat)
  case atStart => exact ⟨0, 0, by omega, rfl, rfl⟩
  case round =>
    obtain ⟨k, n, hk, rfl, rfl⟩ := hrel
    by_cases hlt : k < R
    · obtain ⟨g, rfl, _, _, hc, hrd, hrl⟩ := H.out.at_ hlt
      obtain ⟨g', rfl, _, _, hc', hrd', _⟩ := H'.out.at_ hlt
      have hE := fun W hr1 hr2 => eqIntS_any w.heap.size w.heap.size (f k).1 (f' k).1 (f k).2 (f' k).2 (r k) (r k) W (by omega) (by omega) hr1 hr2
      rw [eqI_refl, hrl] at hE
      have HE := Lib.hid hE
      have HRD := Lib.hid hrd
      have HRD' := Lib.hid hrd'
      have ikR : (k : Int) < (R : Int) := by omega
      clear hE hrd hrd' hrl
      obtain ⟨a1, ha1⟩ : ∃ a, (f k).1 = a := ⟨_, rfl⟩
      obtain ⟨a2, ha2⟩ : ∃ a, (f k).2 = a := ⟨_, rfl⟩
      obtain ⟨b1, hb1⟩ : ∃ a, (f' k).1 = a := ⟨_, rfl⟩
      obtain ⟨b2, hb2⟩ : ∃ a, (f' k).2 = a := ⟨_, rfl⟩
      have he := HE.out
      have hr1 := HRD.out
      have hr2 := HRD'.out
      rw [ha1, ha2, hb1, hb2] at he
      rw [ha1] at hr1
      rw [hb1] at hr2
      rw [ha1, ha2] at hc
      rw [hb1, hb2] at hc'
      have HE2 := Lib.hid he
      have HR1 := Lib.hid hr1
      have HR2 := Lib.hid hr2
      clear he hr1 hr2 ha1 ha2 hb1 hb2 HE HRD HRD'
      go_wp2
      refine wp_region_Tw [0, 1, 2, 3, 4, 5, 6, 7, 9] [3, 7] (.lp 0 (.lp 1 (.lp 2 (.lp 4 (.lp 5 (.lp 6 (.ls 3 (.ls 7 (.hv 8 (.lp 9 (.done))))))))))) (by kernel_rfl) (by kernel_rfl) ?_
      (repeat (first | (refine T_lp rfl (fun K hK => ?_); go_simp; refine hK _ ?_; clear hK K) | (refine T_ls rfl rfl (fun K hK => ?_); go_simp; refine hK _ ?_; clear hK K)))
      (refine T_hv rfl (by kernel_rfl) (fun K hK => ?_); go_simp)
      go_at_call 26
      refine (HE2.out (w.drewN (n + 1)) (HR1.out.drewN _) (HR2.out.drewN _)).mono ?_
      rintro e w5 ⟨rfl, ⟨nd, rfl⟩⟩
      (go_simp; refine hK _ _ ?_; clear hK K)
      (repeat (first | (refine T_lp rfl (fun K hK => ?_); go_simp; refine hK _ ?_; clear hK K) | (refine T_ls rfl rfl (fun K hK => ?_); go_simp; refine hK _ ?_; clear hK K)))
      refine T_done ?_
      go_wp2
      go_roundw
      case rel => exact ⟨k + 1, _, by omega, by go_num, rfl⟩
      case measure => simp [intOf]; omega
    · go_wp2
      go_ret
      exact ⟨rfl, Dr.mk _ _⟩

def mkRw (m : Int) (N k : Nat) (r : Nat → List Int) : Nat → List Int := fun i => if i < k then marksI (m + (i : Int) * (N : Int)) N else r i
set_option maxRecDepth 100000 in
set_option maxHeartbeats 1000000 in
theorem markIntSS_any (B : Nat) (A : Option Addr) (c N R : Nat) (f : Nat → Option Addr × Nat) (r : Nat → List Int) (m : Int) (w : World) (hN : N ≤ 1000) (hR : R ≤ 1000) (hm0 : 0 ≤ m) (hm1 : m ≤ 10) (hB : B ≤ w.heap.size) (hf : Far f N R) (h : OwL w B A c f N R r) :
    Calls Try.prog 41 #[.slice A R c, .int .i64 m] w fun e w' => e = .returned (.int .i64 (m + (R : Int) * (N : Int))) ∧ OwL w' B A c f N R (mkRw m N R r) ∧ Below B w w' := by
  have H := Lib.hid h
  have HF := Lib.hid hf
  clear h hf
  have hbd : ∀ k : Nat, k ≤ R → (0 : Int) ≤ (k : Int) * (N : Int) ∧ (k : Int) * (N : Int) ≤ 1000000 := fun k hk => by
    have h1 : k * N ≤ 1000 * 1000 := Nat.mul_le_mul (by omega) hN
    have h2 : ((k * N : Nat) : Int) = (k : Int) * (N : Int) := by push_cast; rfl
    rw [← h2]
    omega
  have HBD := Lib.hid hbd
  clear hbd
  go_enter Try.func41, Try.ntmps41
  go_wp2
  go_loopw [1, 5] (fun kv i wr => ∃ (k : Nat) (x : Int), k ≤ R ∧ i = .int .i64 k ∧ kv = .int .i64 x ∧ x = m + (k : Int) * (N : Int) ∧ OwL wr B A c f N R (mkRw m N k r) ∧ Below B w wr) (fun _ i _ => R - (intOf i).toNat)
  case atStart => exact ⟨0, m, by omega, rfl, rfl, by simp, H.out, Below.refl _ _⟩
  case round =>
    obtain ⟨k, x, hk, rfl, rfl, hx, hown, hbel⟩ := hrel
    have hb := HBD.out k hk
    by_cases hlt : k < R
    · obtain ⟨g, rfl, hgB, hgs, hc, _, hrl⟩ := hown.at_ hlt
      have hrow := hown.2 k hlt
      have hmk := markIntS_any B (f k).1 (f k).2 (mkRw m N k r k) x wr (by omega) (by omega) (by omega) (by
        show World.ownsRow _ _ _ _ _ _ _
        rw [hrl]
        exact hrow)
      rw [hrl] at hmk
      obtain ⟨a1, ha1⟩ : ∃ a, (f k).1 = a := ⟨_, rfl⟩
      obtain ⟨a2, ha2⟩ : ∃ a, (f k).2 = a := ⟨_, rfl⟩
      rw [ha1, ha2] at hmk hc
      have HMK := Lib.hid hmk
      have OWN := Lib.hid hown
      have BEL := Lib.hid hbel
      have HXX := Lib.hid hx
      have HA1 := Lib.hid ha1
      have HA2 := Lib.hid ha2
      have ikR : (k : Int) < (R : Int) := by omega
      clear hmk hown hbel hrow hrl hx ha1 ha2
      go_wp2_with fail
      go_at_call 29
      refine HMK.out.mono ?_
      rintro e w5 ⟨rfl, ho5, hg5⟩
      have HO5 := Lib.hid ho5
      have HG5 := Lib.hid hg5
      clear ho5 hg5
      go_wp2
      go_roundw
      case rel =>
        have hown := OWN.out
        have hrow := hown.2 k hlt
        refine ⟨k + 1, _, by omega, by go_num, rfl, by rw [HXX.out]; push_cast; rw [Int.add_mul]; omega, ⟨?_, ?_⟩, ?_⟩
        · exact World.ownsRow.kept hown.1 HG5.out (by rw [← HA1.out, ← HA2.out]; exact own_ne hown.1 hrow (by decide))
        · intro i hi
          by_cases hik : i = k
          · subst hik
            have e : mkRw m N (i + 1) r i = marksI (m + (i : Int) * (N : Int)) N := by simp [mkRw]
            rw [e, HA1.out, HA2.out]
            have h' : w5.ownsRow _ _ _ _ _ _ := HO5.out
            rw [marksI_length, HXX.out] at h'
            exact h'
          · have e : mkRw m N (k + 1) r i = mkRw m N k r i := by
              unfold mkRw
              by_cases h1 : i < k
              · rw [if_pos h1, if_pos (by omega)]
              · rw [if_neg h1, if_neg (by omega)]
            rw [e]
            exact World.ownsRow.kept (hown.2 i hi) HG5.out (by rw [← HA1.out, ← HA2.out]; exact HF.out i k hi hlt hik)
        · exact BEL.out.trans (Below.grown (Below.refl _ _) HG5.out (by have := BEL.out.size; omega) (fun q hq => by rw [← HA1.out, ← HA2.out] at hq; exact (own_block hrow q hq).1))
      case measure => simp [intOf]; omega
    · have hk' : k = R := by omega
      subst hk'
      have hx' := hx
      subst hx'
      go_wp2
      go_ret
      exact ⟨rfl, hown, hbel⟩

set_option maxRecDepth 100000 in
set_option maxHeartbeats 1000000 in
theorem heldIntSS_any (B : Nat) (A : Option Addr) (c N R : Nat) (f : Nat → Option Addr × Nat) (r : Nat → List Int) (m : Int) (w : World) (hN : N ≤ 1000) (hR : R ≤ 1000) (hm0 : 0 ≤ m) (hm1 : m ≤ 10) (h : OwL w B A c f N R (mkRw m N R r)) :
    Calls Try.prog 42 #[.slice A R c, .int .i64 m] w fun e w' => e = .returned (.int .i64 (m + (R : Int) * (N : Int))) ∧ w = w' := by
  have H := Lib.hid h
  clear h
  have hbd : ∀ k : Nat, k ≤ R → (0 : Int) ≤ (k : Int) * (N : Int) ∧ (k : Int) * (N : Int) ≤ 1000000 := fun k hk => by
    have h1 : k * N ≤ 1000 * 1000 := Nat.mul_le_mul (by omega) hN
    have h2 : ((k * N : Nat) : Int) = (k : Int) * (N : Int) := by push_cast; rfl
    rw [← h2]
    omega
  have HBD := Lib.hid hbd
  clear hbd
  go_enter Try.func42, Try.ntmps42
  go_wp2
  go_loopw [1, 5] (fun kv i wr => ∃ (k : Nat) (x : Int), k ≤ R ∧ i = .int .i64 k ∧ kv = .int .i64 x ∧ x = m + (k : Int) * (N : Int) ∧ w = wr) (fun _ i _ => R - (intOf i).toNat)
  case atStart => exact ⟨0, m, by omega, rfl, rfl, by simp, rfl⟩
  case round =>
    obtain ⟨k, x, hk, rfl, rfl, hx, rfl⟩ := hrel
    have hb := HBD.out k hk
    by_cases hlt : k < R
    · obtain ⟨g, rfl, hgB, hgs, hc, hrd, hrl⟩ := H.out.at_ hlt
      have e : mkRw m N R r k = marksI x N := by simp [mkRw, hlt, hx]
      rw [e] at hrd
      have hh := heldIntS_any w.heap.size (f k).1 (f k).2 N x w (by omega) (by omega) (by omega) hrd
      obtain ⟨a1, ha1⟩ : ∃ a, (f k).1 = a := ⟨_, rfl⟩
      obtain ⟨a2, ha2⟩ : ∃ a, (f k).2 = a := ⟨_, rfl⟩
      rw [ha1, ha2] at hh hc
      have HH := Lib.hid hh
      have HXX := Lib.hid hx
      have ikR : (k : Int) < (R : Int) := by omega
      have hneg : ¬ (x + (N : Int) < 0) := by omega
      clear hh hrd hrl e ha1 ha2 hx
      go_wp2_with fail
      go_at_call 30
      refine HH.out.mono ?_
      rintro e w5 ⟨rfl, rfl⟩
      go_wp2
      go_roundw
      case rel => exact ⟨k + 1, _, by omega, by go_num, rfl, by rw [HXX.out]; push_cast; rw [Int.add_mul]; omega, trivial⟩
      case measure => simp [intOf]; omega
    · have hk' : k = R := by omega
      subst hk'
      have hx' := hx
      subst hx'
      go_wp2
      go_ret
      exact ⟨rfl, rfl⟩
end Go.Proofs.Ytbbjgcagkmlngab
