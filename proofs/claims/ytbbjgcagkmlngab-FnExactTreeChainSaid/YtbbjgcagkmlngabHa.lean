/- Star chains in order, as data: what a search meets when it goes on from a chain, one chain after the other. -/
import Derived.Test.YtbbjgcagkmlngabBase
namespace Go.Proofs.Ytbbjgcagkmlngab

def lastN (c : List Nat) : Nat := c.getD (c.length - 1) 0
theorem lastN_snoc (c : List Nat) (s : Nat) : lastN (c ++ [s]) = s := by
  unfold lastN
  rw [List.length_append, List.length_singleton, Nat.add_sub_cancel, List.getD_eq_getElem?_getD, List.getElem?_append_right (Nat.le_refl _)]
  simp
theorem lastN_take {c : List Nat} {e : Nat} (h : e < c.length) : lastN (c.take (e + 1)) = c.getD e 0 := by
  unfold lastN
  rw [List.length_take, Nat.min_eq_left h, show e.succ - 1 = e from rfl, List.getD_eq_getElem?_getD, List.getElem?_take_of_lt (Nat.lt_succ_self e), ← List.getD_eq_getElem?_getD]

/-- The chains that begin with c, in order, with at most d numbers more. -/
def pre (F : Nat → Nat → Bool) : Nat → List Nat → List (List Nat)
  | 0, c => [c]
  | d + 1, c => c :: c.flatMap fun a => if F (lastN c + a) c.length then pre F d (c ++ [lastN c + a]) else []
def kid (F : Nat → Nat → Bool) (d : Nat) (c : List Nat) (a : Nat) : List (List Nat) := if F (lastN c + a) c.length then pre F d (c ++ [lastN c + a]) else []
/-- Those that go on by the number with the index j, or a later one. -/
def sub (F : Nat → Nat → Bool) : Nat → List Nat → Nat → List (List Nat)
  | 0, _, _ => []
  | d + 1, c, j => (c.drop j).flatMap (kid F d c)
section
variable {F : Nat → Nat → Bool}
theorem pre_eq (d : Nat) (c : List Nat) : pre F d c = c :: sub F d c 0 := by
  cases d with
  | zero => rfl
  | succ d => rfl
theorem sub_at {d j : Nat} {c : List Nat} (h : j < c.length) : sub F (d + 1) c j = kid F d c (c.getD j 0) ++ sub F (d + 1) c (j + 1) := by
  show (c.drop j).flatMap (kid F d c) = _ ++ (c.drop (j + 1)).flatMap (kid F d c)
  rw [List.drop_eq_getElem_cons h, List.flatMap_cons]
  congr 1
  rw [List.getD_eq_getElem?_getD, List.getElem?_eq_getElem h]
  rfl
theorem sub_end {d j : Nat} {c : List Nat} (h : c.length ≤ j) : sub F d c j = [] := by
  cases d with
  | zero => rfl
  | succ d =>
    show (c.drop j).flatMap (kid F d c) = []
    rw [List.drop_eq_nil_of_le h]
    rfl
/-- What is still to be met, from the first e numbers on; x has the index that comes next behind each number. -/
def restTo (F : Nat → Nat → Bool) (L : Nat) (c x : List Nat) : Nat → List (List Nat)
  | 0 => []
  | e + 1 => sub F (L - e) (c.take (e + 1)) (x.getD e 0) ++ restTo F L c x e
theorem restTo_congr {L : Nat} {c x c' x' : List Nat} : ∀ e, c'.take e = c.take e → (∀ i, i < e → x'.getD i 0 = x.getD i 0) → restTo F L c' x' e = restTo F L c x e := by
  intro e
  induction e with
  | zero => intros; rfl
  | succ e ih =>
    intro h hx
    unfold restTo
    rw [h, hx e (by omega), ih ?_ (fun i hi => hx i (by omega))]
    have h2 := congrArg (List.take e) h
    rw [List.take_take, List.take_take, Nat.min_eq_left (by omega)] at h2
    exact h2
theorem restTo_done {L e : Nat} {c x : List Nat} (h : e < x.getD e 0) : restTo F L c x (e + 1) = restTo F L c x e := by
  show sub F (L - e) (c.take (e + 1)) (x.getD e 0) ++ restTo F L c x e = _
  rw [sub_end (by rw [List.length_take]; omega), List.nil_append]
theorem getD_set_eq {x : List Nat} {e v : Nat} (h : e < x.length) : (x.set e v).getD e 0 = v := by
  rw [List.getD_eq_getElem?_getD, List.getElem?_set_self h]
  rfl
theorem getD_set_ne {x : List Nat} {e i v : Nat} (h : e ≠ i) : (x.set e v).getD i 0 = x.getD i 0 := by
  rw [List.getD_eq_getElem?_getD, List.getElem?_set_ne h, ← List.getD_eq_getElem?_getD]
theorem take_last {c : List Nat} {e : Nat} {j : Nat} (hj : j ≤ e) : (c.take (e + 1)).getD j 0 = c.getD j 0 := by
  rw [List.getD_eq_getElem?_getD, List.getElem?_take_of_lt (by omega), ← List.getD_eq_getElem?_getD]
/-- A number that doesn't fit is passed over. -/
theorem restTo_skip {L e j : Nat} {c x : List Nat} (he : e < c.length) (hx : e < x.length) (hj : x.getD e 0 = j) (hje : j ≤ e) (hF : F (c.getD e 0 + c.getD j 0) (e + 1) = false) :
    restTo F L c x (e + 1) = restTo F L c (x.set e (j + 1)) (e + 1) := by
  show sub F (L - e) (c.take (e + 1)) (x.getD e 0) ++ restTo F L c x e = sub F (L - e) (c.take (e + 1)) ((x.set e (j + 1)).getD e 0) ++ restTo F L c (x.set e (j + 1)) e
  rw [restTo_congr (c := c) (x := x) (x' := x.set e (j + 1)) e rfl (fun i hi => getD_set_ne (by omega)), getD_set_eq hx, hj]
  congr 1
  have hl : (c.take (e + 1)).length = e + 1 := by rw [List.length_take]; omega
  rcases Nat.eq_zero_or_pos (L - e) with h0 | hp
  · rw [h0]; rfl
  · obtain ⟨d, hd⟩ : ∃ d, L - e = d + 1 := ⟨L - e - 1, by omega⟩
    rw [hd, sub_at (by omega)]
    unfold kid
    rw [hl, lastN_take he, take_last hje, hF]
    rfl
/-- A number that fits makes the next chain. -/
theorem restTo_take {L e j : Nat} {c x : List Nat} (he : e < c.length) (hx : e < x.length) (hL : e + 1 ≤ L) (hj : x.getD e 0 = j) (hje : j ≤ e) (hF : F (c.getD e 0 + c.getD j 0) (e + 1) = true) :
    restTo F L c x (e + 1) = (c.take (e + 1) ++ [c.getD e 0 + c.getD j 0]) :: restTo F L (c.take (e + 1) ++ [c.getD e 0 + c.getD j 0]) ((x.set e (j + 1)).take (e + 1) ++ [0]) (e + 2) := by
  have hl : (c.take (e + 1)).length = e + 1 := by rw [List.length_take]; omega
  have hlx : ((x.set e (j + 1)).take (e + 1)).length = e + 1 := by rw [List.length_take, List.length_set]; omega
  obtain ⟨s, hs⟩ : ∃ s, c.getD e 0 + c.getD j 0 = s := ⟨_, rfl⟩
  rw [hs] at hF ⊢
  have hX1 : ((x.set e (j + 1)).take (e + 1) ++ [0]).getD (e + 1) 0 = 0 := by
    rw [List.getD_eq_getElem?_getD, List.getElem?_append_right (by omega), hlx]
    simp
  have hXe : ∀ i, i ≤ e → ((x.set e (j + 1)).take (e + 1) ++ [0]).getD i 0 = (x.set e (j + 1)).getD i 0 := by
    intro i hi
    rw [List.getD_eq_getElem?_getD, List.getElem?_append_left (by omega), List.getElem?_take_of_lt (by omega), ← List.getD_eq_getElem?_getD]
  have hc2 : (c.take (e + 1) ++ [s]).take (e + 2) = c.take (e + 1) ++ [s] := List.take_of_length_le (by rw [List.length_append, hl]; simp)
  have hc1 : (c.take (e + 1) ++ [s]).take (e + 1) = c.take (e + 1) := by rw [List.take_append_of_le_length (by omega), List.take_take, Nat.min_self]
  show sub F (L - e) (c.take (e + 1)) (x.getD e 0) ++ restTo F L c x e = _ :: (sub F (L - (e + 1)) ((c.take (e + 1) ++ [s]).take (e + 2)) _ ++ (sub F (L - e) ((c.take (e + 1) ++ [s]).take (e + 1)) _ ++ restTo F L _ _ e))
  rw [hX1, hXe e (Nat.le_refl _), getD_set_eq hx, hc2, hc1, restTo_congr (c := c) (x := x) (c' := c.take (e + 1) ++ [s]) (x' := (x.set e (j + 1)).take (e + 1) ++ [0]) e (by rw [List.take_append_of_le_length (by omega), List.take_take, Nat.min_eq_left (by omega)]) (fun i hi => by rw [hXe i (by omega), getD_set_ne (by omega)]), hj]
  obtain ⟨d, hd⟩ : ∃ d, L - e = d + 1 := ⟨L - e - 1, by omega⟩
  rw [hd, sub_at (by omega), show L - (e + 1) = d by omega]
  unfold kid
  rw [hl, lastN_take he, take_last hje, hs, hF, if_pos rfl, pre_eq]
  simp
/-- At the start all chains but the first are to be met. -/
theorem restTo_start (L : Nat) : pre F L [1] = [1] :: restTo F L [1] [0] 1 := by
  rw [pre_eq]
  show _ = [1] :: (sub F (L - 0) _ 0 ++ [])
  rw [List.append_nil]
  rfl

/-- How many chains there are at most. -/
def preN : Nat → Nat → Nat
  | 0, _ => 1
  | d + 1, m => 1 + m * preN d (m + 1)
theorem pre_most : ∀ d (c : List Nat), (pre F d c).length ≤ preN d c.length := by
  intro d
  induction d with
  | zero => intro c; exact Nat.le_refl _
  | succ d ih =>
    intro c
    have key : ∀ ys : List Nat, (ys.flatMap fun a => if F (lastN c + a) c.length then pre F d (c ++ [lastN c + a]) else []).length ≤ ys.length * preN d (c.length + 1) := by
      intro ys
      induction ys with
      | nil => simp
      | cons a ys iha =>
        rw [List.flatMap_cons, List.length_append, List.length_cons, Nat.succ_mul]
        have h1 : (if F (lastN c + a) c.length then pre F d (c ++ [lastN c + a]) else []).length ≤ preN d (c.length + 1) := by
          split
          · have := ih (c ++ [lastN c + a])
            rw [List.length_append, List.length_singleton] at this
            exact this
          · simp
        omega
    show (_ :: _).length ≤ 1 + c.length * preN d (c.length + 1)
    rw [List.length_cons]
    have := key c
    omega
/-- What is met begins with c, and has at most d numbers more. -/
theorem pre_len : ∀ d (c : List Nat), ∀ l ∈ pre F d c, c.length ≤ l.length ∧ l.length ≤ c.length + d := by
  intro d
  induction d with
  | zero => intro c l hl; have := List.mem_singleton.1 hl; subst this; omega
  | succ d ih =>
    intro c l hl
    rcases List.mem_cons.1 hl with rfl | hl
    · omega
    · obtain ⟨a, _, ha⟩ := List.mem_flatMap.1 hl
      split at ha
      · have := ih _ l ha
        rw [List.length_append, List.length_singleton] at this
        omega
      · exact absurd ha (by simp)
end

/-- The whole chains of the search. -/
def leafs (F : Nat → Nat → Bool) (L d : Nat) (c : List Nat) : List (List Nat) := (pre F d c).filter fun l => l.length == L + 1
theorem leafs_zero {F : Nat → Nat → Bool} {L : Nat} {c : List Nat} (h : c.length = L + 1) : leafs F L 0 c = [c] := by
  unfold leafs pre
  rw [List.filter_cons_of_pos (by simpa using h)]
  rfl
theorem filter_flatMap' {α β : Type} (p : β → Bool) (f : α → List β) : ∀ l : List α, (l.flatMap f).filter p = l.flatMap fun a => (f a).filter p := by
  intro l
  induction l with
  | nil => rfl
  | cons a l ih => rw [List.flatMap_cons, List.filter_append, ih, List.flatMap_cons]
theorem leafs_succ {F : Nat → Nat → Bool} {L d : Nat} {c : List Nat} (h : c.length ≤ L) : leafs F L (d + 1) c = c.flatMap fun a => if F (lastN c + a) c.length then leafs F L d (c ++ [lastN c + a]) else [] := by
  show List.filter _ (_ :: _) = _
  rw [List.filter_cons_of_neg (by simp only [beq_iff_eq]; omega), filter_flatMap']
  congr 1
  funext a
  split <;> rfl

/-- The fits of a search for the end n by L steps. -/
def fitN (n L s i : Nat) : Bool := decide (i ≤ L ∧ s ≤ n ∧ n ≤ s * 2 ^ (L - i))
/-- The model's search. -/
def shS (n : Nat) : Nat → Nat → List Nat → List (List Nat)
  | 0, _, c => if lastN c = n then [c] else []
  | k + 1, most, c => c.foldl (fun out a => if n < lastN c + a ∨ (lastN c + a) * 2 ^ k < n ∨ most ≤ out.length then out else out ++ shS n k (most - out.length) (c ++ [lastN c + a])) []
def shJ (n k most : Nat) (c : List Nat) (out : List (List Nat)) (a : Nat) : List (List Nat) :=
  if n < lastN c + a ∨ (lastN c + a) * 2 ^ k < n ∨ most ≤ out.length then out else out ++ shS n k (most - out.length) (c ++ [lastN c + a])
theorem shS_succ (n k most : Nat) (c : List Nat) : shS n (k + 1) most c = c.foldl (shJ n k most c) [] := rfl

theorem take_cut {α : Type} (X Q : List α) (m : Nat) : (X.take m ++ Q).take m = (X ++ Q).take m := by
  rw [List.take_append, List.take_append, List.take_take, Nat.min_self, List.length_take]
  congr 2
  omega

theorem shS_eq {n L : Nat} : ∀ k most (c : List Nat), c.length + k = L + 1 → 1 ≤ most → lastN c ≤ n → n ≤ lastN c * 2 ^ k → shS n k most c = (leafs (fitN n L) L k c).take most := by
  intro k
  induction k with
  | zero =>
    intro most c hc hm h1 h2
    rw [Nat.pow_zero, Nat.mul_one] at h2
    rw [leafs_zero (by omega), List.take_of_length_le (by simpa using hm)]
    show (if lastN c = n then [c] else []) = _
    rw [if_pos (by omega)]
  | succ k ih =>
    intro most c hc hm h1 h2
    rw [leafs_succ (by omega), shS_succ]
    have key : ∀ (ys : List Nat) (out : List (List Nat)), out.length ≤ most →
        ys.foldl (shJ n k most c) out = (out ++ ys.flatMap fun a => if fitN n L (lastN c + a) c.length then leafs (fitN n L) L k (c ++ [lastN c + a]) else []).take most := by
      intro ys
      induction ys with
      | nil => intro out ho; simp [List.take_of_length_le ho]
      | cons a ys iha =>
        intro out ho
        rw [List.foldl_cons, List.flatMap_cons]
        have hk : L - c.length = k := by omega
        by_cases hf : fitN n L (lastN c + a) c.length = true
        · rw [if_pos hf]
          unfold fitN at hf
          rw [decide_eq_true_eq, hk] at hf
          obtain ⟨_, f1, f2⟩ := hf
          by_cases hmo : most ≤ out.length
          · have e : shJ n k most c out a = out := if_pos (Or.inr (Or.inr hmo))
            have ee : out.length = most := by omega
            rw [e, iha out ho, List.take_append_of_le_length (by omega), List.take_append_of_le_length (by omega)]
          · have e : shJ n k most c out a = out ++ shS n k (most - out.length) (c ++ [lastN c + a]) := if_neg (by omega)
            have hL : lastN (c ++ [lastN c + a]) = lastN c + a := lastN_snoc _ _
            rw [e, ih (most - out.length) (c ++ [lastN c + a]) (by rw [List.length_append, List.length_singleton]; omega) (by omega) (by rw [hL]; exact f1) (by rw [hL]; exact f2)]
            rw [iha _ (by rw [List.length_append, List.length_take]; omega)]
            generalize leafs (fitN n L) L k (c ++ [lastN c + a]) = P
            generalize (ys.flatMap fun a => if fitN n L (lastN c + a) c.length = true then leafs (fitN n L) L k (c ++ [lastN c + a]) else []) = Q
            rw [← List.append_assoc out P Q]
            have e1 : out ++ P.take (most - out.length) = (out ++ P).take most := by
              rw [List.take_append, List.take_of_length_le ho]
            rw [e1, take_cut]
        · rw [if_neg hf, List.nil_append]
          unfold fitN at hf
          rw [decide_eq_true_eq, hk] at hf
          have e : shJ n k most c out a = out := if_pos (by
            rcases Nat.lt_or_ge n (lastN c + a) with h | h
            · exact Or.inl h
            · right; left
              rcases Nat.lt_or_ge ((lastN c + a) * 2 ^ k) n with h' | h'
              · exact h'
              · exact absurd ⟨by omega, h, h'⟩ hf)
          rw [e, iha out ho]
    have := key c [] (by simp)
    rw [List.nil_append] at this
    exact this
/-- The first ones of the whole chains, at most so many. -/
def firstsN (n L most : Nat) : List (List Nat) := if fitN n L 1 0 then (leafs (fitN n L) L L [1]).take most else []
theorem shS_first {n L most : Nat} (hn : 1 ≤ n) (hm : 1 ≤ most) : shS n L most [1] = firstsN n L most := by
  unfold firstsN
  by_cases hf : fitN n L 1 0 = true
  · rw [if_pos hf]
    unfold fitN at hf
    rw [decide_eq_true_eq] at hf
    exact shS_eq L most [1] (by simp; omega) hm hf.2.1 hf.2.2
  · rw [if_neg hf]
    unfold fitN at hf
    rw [decide_eq_true_eq] at hf
    cases L with
    | zero =>
      show (if lastN [1] = n then _ else _) = _
      rw [if_neg]
      intro h
      apply hf
      have : lastN [1] = 1 := rfl
      refine ⟨by omega, hn, ?_⟩
      rw [Nat.pow_zero]
      omega
    | succ k =>
      rw [shS_succ]
      show shJ n k most [1] [] 1 = _
      unfold shJ
      rw [if_pos]
      have h1 : lastN [1] = 1 := rfl
      rw [h1]
      by_cases h2 : (1 + 1) * 2 ^ k < n
      · exact Or.inr (Or.inl h2)
      · exfalso
        apply hf
        refine ⟨by omega, hn, ?_⟩
        rw [Nat.sub_zero, Nat.pow_succ]
        omega
end Go.Proofs.Ytbbjgcagkmlngab
