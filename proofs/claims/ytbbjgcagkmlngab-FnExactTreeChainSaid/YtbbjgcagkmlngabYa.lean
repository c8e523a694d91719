/- The tree of powers, as data: a run up to a greatest number, one number after the other. -/
import Derived.Test.YtbbjgcagkmlngabBase
namespace Go.Proofs.Ytbbjgcagkmlngab

/-- The ways, and the numbers in the order in which they were added. -/
@[ext] structure TS where
  W : Nat → List Nat
  Q : List Nat
def updW (W : Nat → List Nat) (i : Nat) (l : List Nat) : Nat → List Nat := fun j => if j = i then l else W j
def tA (C m : Nat) (s : TS) (a : Nat) : TS := if m + a ≤ C ∧ s.W (m + a) = [] then ⟨updW s.W (m + a) (s.W m ++ [m + a]), s.Q ++ [m + a]⟩ else s
def tJ (C m : Nat) (s : TS) (j : Nat) : TS := ((s.W m).take j).foldl (tA C m) s
def tM (C m : Nat) (s : TS) : TS := (s.W m).foldl (tA C m) s
def tZ : TS := ⟨fun j => if j = 1 then [1] else [], [1]⟩
def tR (C : Nat) : Nat → TS
  | 0 => tZ
  | t + 1 => tM C ((tR C t).Q.getD t 0) (tR C t)

theorem tA_yes {C m a : Nat} {s : TS} (h : m + a ≤ C) (h2 : s.W (m + a) = []) : tA C m s a = ⟨updW s.W (m + a) (s.W m ++ [m + a]), s.Q ++ [m + a]⟩ := if_pos ⟨h, h2⟩
theorem tA_big {C m a : Nat} {s : TS} (h : ¬ m + a ≤ C) : tA C m s a = s := if_neg fun h' => h h'.1
theorem tA_has {C m a : Nat} {s : TS} (h : s.W (m + a) ≠ []) : tA C m s a = s := if_neg fun h' => h h'.2
theorem tJ_end (C m : Nat) (s : TS) : tJ C m s (s.W m).length = tM C m s := by unfold tJ tM; rw [List.take_of_length_le (Nat.le_refl _)]
theorem tJ_succ (C m : Nat) (s : TS) {j : Nat} (h : j < (s.W m).length) : tJ C m s (j + 1) = tA C m (tJ C m s j) (s.W m)[j] := by
  unfold tJ
  rw [List.take_succ_eq_append_getElem h, List.foldl_append]
  rfl

structure TI (C : Nat) (s : TS) : Prop where
  one : s.W 1 = [1]
  mem : ∀ j, j ∈ s.Q ↔ s.W j ≠ []
  nd : s.Q.Nodup
  rng : ∀ j, s.W j ≠ [] → 1 ≤ j ∧ j ≤ C
  els : ∀ j, ∀ a ∈ s.W j, 1 ≤ a ∧ a ≤ j
  hd : ∀ j, s.W j ≠ [] → 1 ∈ s.W j
  len : ∀ j, (s.W j).length ≤ j
/-- What was there stays. -/
structure TLe (s s' : TS) : Prop where
  w : ∀ j, s.W j ≠ [] → s'.W j = s.W j
  q : ∃ r, s'.Q = s.Q ++ r
theorem TLe.refl (s : TS) : TLe s s := ⟨fun _ _ => rfl, [], by simp⟩
theorem TLe.trans {a b c : TS} (h : TLe a b) (h' : TLe b c) : TLe a c := by
  obtain ⟨r, hr⟩ := h.q
  obtain ⟨r', hr'⟩ := h'.q
  exact ⟨fun j hj => (h'.w j (by rw [h.w j hj]; exact hj)).trans (h.w j hj), r ++ r', by rw [hr', hr, List.append_assoc]⟩
theorem TLe.qlen {a b : TS} (h : TLe a b) : a.Q.length ≤ b.Q.length := by
  obtain ⟨r, hr⟩ := h.q
  rw [hr, List.length_append]
  omega
theorem TLe.qat {a b : TS} (h : TLe a b) {i : Nat} (hi : i < a.Q.length) : b.Q.getD i 0 = a.Q.getD i 0 := by
  obtain ⟨r, hr⟩ := h.q
  rw [hr, List.getD_eq_getElem?_getD, List.getElem?_append_left hi, ← List.getD_eq_getElem?_getD]
theorem tA_le (C m : Nat) (s : TS) (a : Nat) : TLe s (tA C m s a) := by
  unfold tA
  split
  · rename_i h
    refine ⟨fun j hj => ?_, [m + a], rfl⟩
    show updW _ _ _ j = _
    unfold updW
    rw [if_neg]
    intro e
    rw [e] at hj
    exact hj h.2
  · exact TLe.refl s
theorem tA_keep (C : Nat) {m a : Nat} (s : TS) (h1 : 1 ≤ a) : (tA C m s a).W m = s.W m := by
  unfold tA
  split
  · show updW _ _ _ m = _
    unfold updW
    rw [if_neg (by omega)]
  · rfl
theorem tA_inv {C m a : Nat} {s : TS} (h : TI C s) (hm : s.W m ≠ []) (h1 : 1 ≤ a) : TI C (tA C m s a) := by
  by_cases hc : m + a ≤ C ∧ s.W (m + a) = []
  · have hm1 := (h.rng m hm).1
    have hnq : m + a ∉ s.Q := fun hq => (h.mem (m + a)).1 hq hc.2
    rw [tA_yes hc.1 hc.2]
    have hu : ∀ j, (updW s.W (m + a) (s.W m ++ [m + a])) j = if j = m + a then s.W m ++ [m + a] else s.W j := fun j => rfl
    refine ⟨?_, ?_, ?_, ?_, ?_, ?_, ?_⟩
    · show updW _ _ _ 1 = _
      rw [hu, if_neg (by omega), h.one]
    · intro j
      show j ∈ s.Q ++ [m + a] ↔ updW _ _ _ j ≠ []
      rw [hu, List.mem_append, List.mem_singleton, h.mem j]
      split
      · rename_i e
        simp [e]
      · rename_i e
        simp [e]
    · show (s.Q ++ [m + a]).Nodup
      rw [List.nodup_append]
      refine ⟨h.nd, by simp, ?_⟩
      intro x hx y hy
      rw [List.mem_singleton] at hy
      rintro rfl
      rw [hy] at hx
      exact hnq hx
    · intro j hj
      have hj : updW s.W (m + a) (s.W m ++ [m + a]) j ≠ [] := hj
      rw [hu] at hj
      split at hj
      · omega
      · exact h.rng j hj
    · intro j x hx
      have hx : x ∈ updW s.W (m + a) (s.W m ++ [m + a]) j := hx
      rw [hu] at hx
      split at hx
      · rcases List.mem_append.1 hx with h' | h'
        · have := h.els m x h'
          omega
        · have := List.mem_singleton.1 h'
          omega
      · exact h.els j x hx
    · intro j hj
      have hj : updW s.W (m + a) (s.W m ++ [m + a]) j ≠ [] := hj
      show 1 ∈ updW _ _ _ j
      rw [hu] at hj ⊢
      split at hj
      · rename_i e
        rw [if_pos e]
        exact List.mem_append_left _ (h.hd m hm)
      · rename_i e
        rw [if_neg e]
        exact h.hd j hj
    · intro j
      show (updW _ _ _ j).length ≤ j
      rw [hu]
      split
      · have := h.len m
        rw [List.length_append, List.length_singleton]
        omega
      · exact h.len j
  · unfold tA
    rw [if_neg hc]
    exact h
theorem fold_facts {C m : Nat} : ∀ (l : List Nat) (s : TS), TI C s → s.W m ≠ [] → (∀ a ∈ l, 1 ≤ a) → TI C (l.foldl (tA C m) s) ∧ TLe s (l.foldl (tA C m) s) ∧ (l.foldl (tA C m) s).W m = s.W m ∧ ∀ a ∈ l, m + a ≤ C → (l.foldl (tA C m) s).W (m + a) ≠ [] := by
  intro l
  induction l with
  | nil => intro s h _ _; exact ⟨h, TLe.refl s, rfl, fun a ha => absurd ha (by simp)⟩
  | cons a l ih =>
    intro s h hm hl
    have ha := hl a (by simp)
    have hk := tA_keep C (m := m) s ha
    obtain ⟨i1, i2, i3, i4⟩ := ih (tA C m s a) (tA_inv h hm ha) (by rw [hk]; exact hm) (fun x hx => hl x (by simp [hx]))
    rw [List.foldl_cons]
    refine ⟨i1, (tA_le C m s a).trans i2, i3.trans hk, fun x hx hC => ?_⟩
    rcases List.mem_cons.1 hx with rfl | hx
    · have hne : (tA C m s x).W (m + x) ≠ [] := by
        by_cases h0 : s.W (m + x) = []
        · rw [tA_yes hC h0]
          show updW _ _ _ (m + x) ≠ []
          unfold updW
          rw [if_pos rfl]
          simp
        · rw [tA_has h0]; exact h0
      rw [i2.w _ hne]
      exact hne
    · exact i4 x hx hC
theorem tJ_facts {C m : Nat} {s : TS} (h : TI C s) (hm : s.W m ≠ []) (j : Nat) : TI C (tJ C m s j) ∧ TLe s (tJ C m s j) ∧ (tJ C m s j).W m = s.W m := by
  obtain ⟨a, b, c, _⟩ := fold_facts ((s.W m).take j) s h hm (fun a ha => (h.els m a (List.mem_of_mem_take ha)).1)
  exact ⟨a, b, c⟩
theorem tZ_inv {C : Nat} (hC : 1 ≤ C) : TI C tZ := by
  have hu : ∀ j, tZ.W j = if j = 1 then [1] else [] := fun j => rfl
  refine ⟨rfl, fun j => ?_, by simp [tZ], fun j hj => ?_, fun j a ha => ?_, fun j hj => ?_, fun j => ?_⟩
  · rw [hu]
    show j ∈ [1] ↔ _
    rw [List.mem_singleton]
    split <;> simp_all
  · rw [hu] at hj
    split at hj
    · omega
    · exact absurd rfl hj
  · rw [hu] at ha
    split at ha
    · have := List.mem_singleton.1 ha
      omega
    · exact absurd ha (by simp)
  · rw [hu] at hj ⊢
    split at hj
    · rename_i e; rw [if_pos e]; simp
    · exact absurd rfl hj
  · rw [hu]
    split
    · rename_i e; simp [e]
    · simp
theorem getD_mem {l : List Nat} {i : Nat} (h : i < l.length) : l.getD i 0 ∈ l := by
  rw [List.getD_eq_getElem?_getD, List.getElem?_eq_getElem h]
  exact List.getElem_mem h
theorem tM_facts {C t : Nat} {s : TS} (h : TI C s) : TI C (tM C (s.Q.getD t 0) s) ∧ TLe s (tM C (s.Q.getD t 0) s) := by
  rcases Nat.lt_or_ge t s.Q.length with hlt | hge
  · have hm := (h.mem _).1 (getD_mem hlt)
    have := tJ_facts h hm (s.W (s.Q.getD t 0)).length
    rw [tJ_end] at this
    exact ⟨this.1, this.2.1⟩
  · have e : s.Q.getD t 0 = 0 := by rw [List.getD_eq_getElem?_getD, List.getElem?_eq_none hge]; rfl
    have e0 : s.W 0 = [] := by
      have := h.len 0
      exact List.eq_nil_of_length_eq_zero (by omega)
    rw [e]
    unfold tM
    rw [e0]
    exact ⟨h, TLe.refl s⟩
theorem tR_inv {C : Nat} (hC : 1 ≤ C) : ∀ t, TI C (tR C t) := by
  intro t
  induction t with
  | zero => exact tZ_inv hC
  | succ t ih => exact (tM_facts ih).1
theorem tR_le {C : Nat} (hC : 1 ≤ C) (t : Nat) : ∀ d, TLe (tR C t) (tR C (t + d)) := by
  intro d
  induction d with
  | zero => exact TLe.refl _
  | succ d ih => exact ih.trans (tM_facts (t := t + d) (tR_inv hC (t + d))).2
theorem tR_stall {C t : Nat} (hC : 1 ≤ C) (h : (tR C t).Q.length ≤ t) : ∀ d, tR C (t + d) = tR C t := by
  intro d
  induction d with
  | zero => rfl
  | succ d ih =>
    show tM C ((tR C (t + d)).Q.getD (t + d) 0) (tR C (t + d)) = _
    rw [ih]
    have e : (tR C t).Q.getD (t + d) 0 = 0 := by rw [List.getD_eq_getElem?_getD, List.getElem?_eq_none (by omega)]; rfl
    have e0 : (tR C t).W 0 = [] := by
      have := (tR_inv hC t).len 0
      exact List.eq_nil_of_length_eq_zero (by omega)
    rw [e]
    unfold tM
    rw [e0]
    rfl
theorem tR_proper {C t : Nat} (hC : 1 ≤ C) (h : t ≤ (tR C t).Q.length) : ∀ i, i < t → i < (tR C i).Q.length := by
  intro i hi
  rcases Nat.lt_or_ge i (tR C i).Q.length with h' | h'
  · exact h'
  · have := tR_stall hC h' (t - i)
    rw [show i + (t - i) = t by omega] at this
    rw [this] at h
    omega
theorem nodup_len : ∀ (n : Nat) (l : List Nat), l.Nodup → (∀ x ∈ l, 1 ≤ x ∧ x ≤ n) → l.length ≤ n := by
  intro n
  induction n with
  | zero =>
    intro l _ h
    cases l with
    | nil => exact Nat.le_refl _
    | cons a l => have := h a (by simp); omega
  | succ n ih =>
    intro l hnd h
    by_cases hm : n + 1 ∈ l
    · have h1 := List.length_erase_of_mem hm
      have h2 := ih (l.erase (n + 1)) (hnd.erase _) (fun x hx => by
        have h3 := (hnd.mem_erase_iff).1 hx
        have h4 := h x h3.2
        omega)
      omega
    · have := ih l hnd (fun x hx => by
        have h4 := h x hx
        have : x ≠ n + 1 := fun e => hm (e ▸ hx)
        omega)
      omega
theorem tI_len {C : Nat} {s : TS} (h : TI C s) : s.Q.length ≤ C := nodup_len C s.Q h.nd fun x hx => h.rng x ((h.mem x).1 hx)
/-- As long as a number is missing there is one more to go on from. -/
theorem tR_more {C t n : Nat} (h1 : 1 ≤ n) (hn : n ≤ C) (h : t ≤ (tR C t).Q.length) (hW : (tR C t).W n = []) : t < (tR C t).Q.length := by
  have hC : 1 ≤ C := by omega
  rcases Nat.lt_or_eq_of_le h with h' | h'
  · exact h'
  · exfalso
    have hpr := tR_proper hC h
    have hI := tR_inv hC t
    have hall : ∀ x, 1 ≤ x → x ≤ C → (tR C t).W x ≠ [] := by
      intro x
      induction x with
      | zero => intro h; omega
      | succ x ih =>
        intro _ hx
        rcases Nat.eq_zero_or_pos x with rfl | hx0
        · rw [show 0 + 1 = 1 from rfl, hI.one]; simp
        · have hm := (hI.mem x).2 (ih hx0 (by omega))
          obtain ⟨i, hi, e⟩ := List.mem_iff_getElem.1 hm
          have hit : i < t := by omega
          have hp := hpr i hit
          have hle := tR_le hC i (t - i)
          rw [show i + (t - i) = t by omega] at hle
          have hq : (tR C i).Q.getD i 0 = x := by
            rw [← hle.qat hp, List.getD_eq_getElem?_getD, List.getElem?_eq_getElem hi, e]
            rfl
          have hIi := tR_inv hC i
          have hxi : (tR C i).W x ≠ [] := (hIi.mem x).1 (by rw [← hq]; exact getD_mem hp)
          have hf := (fold_facts ((tR C i).W x) (tR C i) hIi hxi (fun a ha => (hIi.els x a ha).1)).2.2.2 1 (hIi.hd x hxi) hx
          have hs : (tR C (i + 1)).W (x + 1) ≠ [] := by
            show (tM C ((tR C i).Q.getD i 0) (tR C i)).W (x + 1) ≠ []
            rw [hq]
            exact hf
          have hle2 := tR_le hC (i + 1) (t - (i + 1))
          rw [show i + 1 + (t - (i + 1)) = t by omega] at hle2
          rw [hle2.w _ hs]
          exact hs
    exact hall n h1 hn hW

/-- Only the numbers up to n. -/
def tF (n : Nat) (s : TS) : TS := ⟨fun j => if j ≤ n then s.W j else [], s.Q.filter fun j => decide (j ≤ n)⟩
theorem tF_A {n C m a : Nat} {s : TS} (hn : n ≤ C) (hm : m ≤ n) : tF n (tA C m s a) = tA n m (tF n s) a := by
  by_cases hb : m + a ≤ n
  · by_cases h0 : s.W (m + a) = []
    · rw [tA_yes (by omega) h0, tA_yes hb (by show (if m + a ≤ n then s.W (m + a) else []) = []; rw [if_pos hb]; exact h0)]
      apply TS.ext
      · funext j
        show (if j ≤ n then updW s.W (m + a) (s.W m ++ [m + a]) j else []) = updW (fun j => if j ≤ n then s.W j else []) (m + a) ((if m ≤ n then s.W m else []) ++ [m + a]) j
        unfold updW
        rw [if_pos hm]
        by_cases hj : j = m + a
        · rw [if_pos hj, if_pos hj, if_pos (by omega)]
        · rw [if_neg hj, if_neg hj]
      · show (s.Q ++ [m + a]).filter _ = s.Q.filter _ ++ [m + a]
        rw [List.filter_append]
        simp [hb]
    · rw [tA_has h0, tA_has (by show (if m + a ≤ n then s.W (m + a) else []) ≠ []; rw [if_pos hb]; exact h0)]
  · rw [tA_big (C := n) hb]
    by_cases hc : m + a ≤ C ∧ s.W (m + a) = []
    · rw [tA_yes hc.1 hc.2]
      apply TS.ext
      · funext j
        show (if j ≤ n then updW s.W (m + a) (s.W m ++ [m + a]) j else []) = if j ≤ n then s.W j else []
        unfold updW
        by_cases hj : j ≤ n
        · rw [if_pos hj, if_pos hj, if_neg (by omega)]
        · rw [if_neg hj, if_neg hj]
      · show (s.Q ++ [m + a]).filter _ = s.Q.filter _
        rw [List.filter_append]
        simp [hb]
    · unfold tA
      rw [if_neg hc]
theorem tF_A' {n C m a : Nat} {s : TS} (hm : n < m) : tF n (tA C m s a) = tF n s := by
  by_cases hc : m + a ≤ C ∧ s.W (m + a) = []
  · rw [tA_yes hc.1 hc.2]
    apply TS.ext
    · funext j
      show (if j ≤ n then updW s.W (m + a) (s.W m ++ [m + a]) j else []) = if j ≤ n then s.W j else []
      unfold updW
      by_cases hj : j ≤ n
      · rw [if_pos hj, if_pos hj, if_neg (by omega)]
      · rw [if_neg hj, if_neg hj]
    · show (s.Q ++ [m + a]).filter _ = s.Q.filter _
      rw [List.filter_append]
      simp [show ¬ m + a ≤ n by omega]
  · unfold tA
    rw [if_neg hc]
theorem tF_fold {n C m : Nat} (hn : n ≤ C) : ∀ (l : List Nat) (s : TS), tF n (l.foldl (tA C m) s) = if m ≤ n then l.foldl (tA n m) (tF n s) else tF n s := by
  intro l
  induction l with
  | nil => intro s; split <;> rfl
  | cons a l ih =>
    intro s
    rw [List.foldl_cons, ih]
    by_cases hm : m ≤ n
    · rw [if_pos hm, if_pos hm, List.foldl_cons, tF_A hn hm]
    · rw [if_neg hm, if_neg hm, tF_A' (by omega)]
theorem tF_M {n C m : Nat} (hn : n ≤ C) (s : TS) : tF n (tM C m s) = if m ≤ n then tM n m (tF n s) else tF n s := by
  unfold tM
  rw [tF_fold hn]
  split
  · rename_i hm
    rw [show (tF n s).W m = s.W m by show (if m ≤ n then s.W m else []) = _; rw [if_pos hm]]
  · rfl
theorem tF_R {n C : Nat} (h1 : 1 ≤ n) (hn : n ≤ C) : ∀ t, t ≤ (tR C t).Q.length → tF n (tR C t) = tR n (((tR C t).Q.take t).filter fun j => decide (j ≤ n)).length := by
  have hC : 1 ≤ C := by omega
  intro t
  induction t with
  | zero =>
    intro _
    apply TS.ext
    · funext j
      show (if j ≤ n then (if j = 1 then [1] else []) else []) = if j = 1 then [1] else []
      by_cases hj : j = 1
      · rw [if_pos hj, if_pos (by omega)]
      · rw [if_neg hj]; split <;> rfl
    · show [1].filter (fun j => decide (j ≤ n)) = [1]
      simp [h1]
  | succ t ih =>
    intro ht
    have hlt := tR_proper hC ht t (by omega)
    have ih := ih (by omega)
    have hle := tR_le hC t 1
    obtain ⟨m, hm⟩ : ∃ m, (tR C t).Q.getD t 0 = m := ⟨_, rfl⟩
    have hstep : tR C (t + 1) = tM C m (tR C t) := by rw [← hm]; rfl
    have hQ : (tR C t).Q = (tR C t).Q.take t ++ m :: (tR C t).Q.drop (t + 1) := by
      have e : (tR C t).Q[t] = m := by rw [← hm, List.getD_eq_getElem?_getD, List.getElem?_eq_getElem hlt]; rfl
      rw [← e, List.getElem_cons_drop, List.take_append_drop]
    have htake : (tR C (t + 1)).Q.take (t + 1) = (tR C t).Q.take t ++ [m] := by
      obtain ⟨r, hr⟩ := hle.q
      rw [hr, List.take_append_of_le_length (by omega), List.take_succ_eq_append_getElem hlt]
      congr 2
      rw [← hm, List.getD_eq_getElem?_getD, List.getElem?_eq_getElem hlt]
      rfl
    rw [htake, hstep, tF_M hn, List.filter_append]
    by_cases hmn : m ≤ n
    · rw [if_pos hmn]
      rw [show ([m].filter fun j => decide (j ≤ n)) = [m] by simp [hmn], List.length_append, List.length_singleton]
      obtain ⟨c, hc⟩ : ∃ c, (((tR C t).Q.take t).filter fun j => decide (j ≤ n)).length = c := ⟨_, rfl⟩
      rw [hc] at ih ⊢
      show _ = tM n ((tR n c).Q.getD c 0) (tR n c)
      have hg : (tR n c).Q.getD c 0 = m := by
        rw [← ih]
        show ((tR C t).Q.filter fun j => decide (j ≤ n)).getD c 0 = m
        rw [hQ, List.filter_append, List.filter_cons, if_pos (by simp [hmn]), List.getD_eq_getElem?_getD, List.getElem?_append_right (by omega), hc]
        simp
      rw [hg, ih]
    · rw [if_neg hmn, ih]
      rw [show ([m].filter fun j => decide (j ≤ n)) = [] by simp [hmn], List.append_nil]

/-- The way to a number. -/
def twN (n : Nat) : List Nat := (tR n n).W n
theorem tw_spec {n t : Nat} (h1 : 1 ≤ n) (ht : t ≤ n) (h : (tR n t).W n ≠ []) : (tR n t).W n = twN n := by
  have hle := tR_le h1 t (n - t)
  rw [show t + (n - t) = n by omega] at hle
  exact (hle.w n h).symm
theorem tw_impl {n C t : Nat} (h1 : 1 ≤ n) (hn : n ≤ C) (ht : t ≤ (tR C t).Q.length) (h : (tR C t).W n ≠ []) : (tR C t).W n = twN n := by
  have hF := tF_R h1 hn t ht
  obtain ⟨c, hc⟩ : ∃ c, (((tR C t).Q.take t).filter fun j => decide (j ≤ n)).length = c := ⟨_, rfl⟩
  rw [hc] at hF
  have e : (tR n c).W n = (tR C t).W n := by
    rw [← hF]
    show (if n ≤ n then (tR C t).W n else []) = _
    rw [if_pos (Nat.le_refl _)]
  have hcl : c ≤ n := by
    have h2 : (tR n c).Q.length = ((tR C t).Q.filter fun j => decide (j ≤ n)).length := by rw [← hF]; rfl
    have h3 : c ≤ ((tR C t).Q.filter fun j => decide (j ≤ n)).length := by
      rw [← hc]
      exact (List.Sublist.filter _ (List.take_sublist _ _)).length_le
    have h4 := tI_len (tR_inv h1 c)
    omega
  rw [← e]
  exact tw_spec h1 hcl (by rw [e]; exact h)
theorem twN_len {n : Nat} (h1 : 1 ≤ n) : (twN n).length ≤ n := (tR_inv h1 n).len n
end Go.Proofs.Ytbbjgcagkmlngab
