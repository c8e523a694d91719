/- Joined: Ya Yg Yc Yd Yh Gf Gg Gh. -/
import Derived.Test.YtbbjgcagkmlngabTT0
import Derived.Test.YtbbjgcagkmlngabTT2
import Derived.Deep.LoopGhost
import Derived.Test.YtbbjgcagkmlngabTT3
/- The tree of powers, as data: a run up to a greatest number, one number after the other. -/
namespace Go.Proofs.Ytbbjgcagkmlngab

/-- The ways, and the numbers in the order in which they were added. -/
@[ext] structure TS where
  W : Nat → List Nat
  Q : List Nat
def updW (W : Nat → List Nat) (i : Nat) (l : List Nat) : Nat → List Nat := fun j => if j = i then l else W j
def tA (C m : Nat) (s : TS) (a : Nat) : TS := if m + a ≤ C ∧ s.W (m + a) = [] then ⟨updW s.W (m + a) (s.W m ++ [m + a]), s.Q ++ [m + a]⟩ else s
def tJ (C m : Nat) (s : TS) (j : Nat) : TS := ((s.W m).take j).foldl (tA C m) s
def tM (C m : Nat) (s : TS) : TS := (s.W m).foldl (tA C m) s
def tZ : TS := ⟨fun j => if j = 1 then [1] else [], [1]⟩
def tR (C : Nat) : Nat → TS
  | 0 => tZ
  | t + 1 => tM C ((tR C t).Q.getD t 0) (tR C t)

theorem tA_yes {C m a : Nat} {s : TS} (h : m + a ≤ C) (h2 : s.W (m + a) = []) : tA C m s a = ⟨updW s.W (m + a) (s.W m ++ [m + a]), s.Q ++ [m + a]⟩ := if_pos ⟨h, h2⟩
theorem tA_big {C m a : Nat} {s : TS} (h : ¬ m + a ≤ C) : tA C m s a = s := if_neg fun h' => h h'.1
theorem tA_has {C m a : Nat} {s : TS} (h : s.W (m + a) ≠ []) : tA C m s a = s := if_neg fun h' => h h'.2
theorem tJ_end (C m : Nat) (s : TS) : tJ C m s (s.W m).length = tM C m s := by unfold tJ tM; rw [List.take_of_length_le (Nat.le_refl _)]
theorem tJ_succ (C m : Nat) (s : TS) {j : Nat} (h : j < (s.W m).length) : tJ C m s (j + 1) = tA C m (tJ C m s j) (s.W m)[j] := by
  unfold tJ
  rw [List.take_succ_eq_append_getElem h, List.foldl_append]
  rfl

structure TI (C : Nat) (s : TS) : Prop where
  one : s.W 1 = [1]
  mem : ∀ j, j ∈ s.Q ↔ s.W j ≠ []
  nd : s.Q.Nodup
  rng : ∀ j, s.W j ≠ [] → 1 ≤ j ∧ j ≤ C
  els : ∀ j, ∀ a ∈ s.W j, 1 ≤ a ∧ a ≤ j
  hd : ∀ j, s.W j ≠ [] → 1 ∈ s.W j
  len : ∀ j, (s.W j).length ≤ j
/-- What was there stays. -/
structure TLe (s s' : TS) : Prop where
  w : ∀ j, s.W j ≠ [] → s'.W j = s.W j
  q : ∃ r, s'.Q = s.Q ++ r
theorem TLe.refl (s : TS) : TLe s s := ⟨fun _ _ => rfl, [], by simp⟩
theorem TLe.trans {a b c : TS} (h : TLe a b) (h' : TLe b c) : TLe a c := by
  obtain ⟨r, hr⟩ := h.q
  obtain ⟨r', hr'⟩ := h'.q
  exact ⟨fun j hj => (h'.w j (by rw [h.w j hj]; exact hj)).trans (h.w j hj), r ++ r', by rw [hr', hr, List.append_assoc]⟩
theorem TLe.qlen {a b : TS} (h : TLe a b) : a.Q.length ≤ b.Q.length := by
  obtain ⟨r, hr⟩ := h.q
  rw [hr, List.length_append]
  omega
theorem TLe.qat {a b : TS} (h : TLe a b) {i : Nat} (hi : i < a.Q.length) : b.Q.getD i 0 = a.Q.getD i 0 := by
  obtain ⟨r, hr⟩ := h.q
  rw [hr, List.getD_eq_getElem?_getD, List.getElem?_append_left hi, ← List.getD_eq_getElem?_getD]
theorem tA_le (C m : Nat) (s : TS) (a : Nat) : TLe s (tA C m s a) := by
  unfold tA
  split
  · rename_i h
    refine ⟨fun j hj => ?_, [m + a], rfl⟩
    show updW _ _ _ j = _
    unfold updW
    rw [if_neg]
    intro e
    rw [e] at hj
    exact hj h.2
  · exact TLe.refl s
theorem tA_keep (C : Nat) {m a : Nat} (s : TS) (h1 : 1 ≤ a) : (tA C m s a).W m = s.W m := by
  unfold tA
  split
  · show updW _ _ _ m = _
    unfold updW
    rw [if_neg (by omega)]
  · rfl
theorem tA_inv {C m a : Nat} {s : TS} (h : TI C s) (hm : s.W m ≠ []) (h1 : 1 ≤ a) : TI C (tA C m s a) := by
  by_cases hc : m + a ≤ C ∧ s.W (m + a) = []
  · have hm1 := (h.rng m hm).1
    have hnq : m + a ∉ s.Q := fun hq => (h.mem (m + a)).1 hq hc.2
    rw [tA_yes hc.1 hc.2]
    have hu : ∀ j, (updW s.W (m + a) (s.W m ++ [m + a])) j = if j = m + a then s.W m ++ [m + a] else s.W j := fun j => rfl
    refine ⟨?_, ?_, ?_, ?_, ?_, ?_, ?_⟩
    · show updW _ _ _ 1 = _
      rw [hu, if_neg (by omega), h.one]
    · intro j
      show j ∈ s.Q ++ [m + a] ↔ updW _ _ _ j ≠ []
      rw [hu, List.mem_append, List.mem_singleton, h.mem j]
      split
      · rename_i e
        simp [e]
      · rename_i e
        simp [e]
    · show (s.Q ++ [m + a]).Nodup
      rw [List.nodup_append]
      refine ⟨h.nd, by simp, ?_⟩
      intro x hx y hy
      rw [List.mem_singleton] at hy
      rintro rfl
      rw [hy] at hx
      exact hnq hx
    · intro j hj
      have hj : updW s.W (m + a) (s.W m ++ [m + a]) j ≠ [] := hj
      rw [hu] at hj
      split at hj
      · omega
      · exact h.rng j hj
    · intro j x hx
      have hx : x ∈ updW s.W (m + a) (s.W m ++ [m + a]) j := hx
      rw [hu] at hx
      split at hx
      · rcases List.mem_append.1 hx with h' | h'
        · have := h.els m x h'
          omega
        · have := List.mem_singleton.1 h'
          omega
      · exact h.els j x hx
    · intro j hj
      have hj : updW s.W (m + a) (s.W m ++ [m + a]) j ≠ [] := hj
      show 1 ∈ updW _ _ _ j
      rw [hu] at hj ⊢
      split at hj
      · rename_i e
        rw [if_pos e]
        exact List.mem_append_left _ (h.hd m hm)
      · rename_i e
        rw [if_neg e]
        exact h.hd j hj
    · intro j
      show (updW _ _ _ j).length ≤ j
      rw [hu]
      split
      · have := h.len m
        rw [List.length_append, List.length_singleton]
        omega
      · exact h.len j
  · unfold tA
    rw [if_neg hc]
    exact h
theorem fold_facts {C m : Nat} : ∀ (l : List Nat) (s : TS), TI C s → s.W m ≠ [] → (∀ a ∈ l, 1 ≤ a) → TI C (l.foldl (tA C m) s) ∧ TLe s (l.foldl (tA C m) s) ∧ (l.foldl (tA C m) s).W m = s.W m ∧ ∀ a ∈ l, m + a ≤ C → (l.foldl (tA C m) s).W (m + a) ≠ [] := by
  intro l
  induction l with
  | nil => intro s h _ _; exact ⟨h, TLe.refl s, rfl, fun a ha => absurd ha (by simp)⟩
  | cons a l ih =>
    intro s h hm hl
    have ha := hl a (by simp)
    have hk := tA_keep C (m := m) s ha
    obtain ⟨i1, i2, i3, i4⟩ := ih (tA C m s a) (tA_inv h hm ha) (by rw [hk]; exact hm) (fun x hx => hl x (by simp [hx]))
    rw [List.foldl_cons]
    refine ⟨i1, (tA_le C m s a).trans i2, i3.trans hk, fun x hx hC => ?_⟩
    rcases List.mem_cons.1 hx with rfl | hx
    · have hne : (tA C m s x).W (m + x) ≠ [] := by
        by_cases h0 : s.W (m + x) = []
        · rw [tA_yes hC h0]
          show updW _ _ _ (m + x) ≠ []
          unfold updW
          rw [if_pos rfl]
          simp
        · rw [tA_has h0]; exact h0
      rw [i2.w _ hne]
      exact hne
    · exact i4 x hx hC
theorem tJ_facts {C m : Nat} {s : TS} (h : TI C s) (hm : s.W m ≠ []) (j : Nat) : TI C (tJ C m s j) ∧ TLe s (tJ C m s j) ∧ (tJ C m s j).W m = s.W m := by
  obtain ⟨a, b, c, _⟩ := fold_facts ((s.W m).take j) s h hm (fun a ha => (h.els m a (List.mem_of_mem_take ha)).1)
  exact ⟨a, b, c⟩
theorem tZ_inv {C : Nat} (hC : 1 ≤ C) : TI C tZ := by
  have hu : ∀ j, tZ.W j = if j = 1 then [1] else [] := fun j => rfl
  refine ⟨rfl, fun j => ?_, by simp [tZ], fun j hj => ?_, fun j a ha => ?_, fun j hj => ?_, fun j => ?_⟩
  · rw [hu]
    show j ∈ [1] ↔ _
    rw [List.mem_singleton]
    split <;> simp_all
  · rw [hu] at hj
    split at hj
    · omega
    · exact absurd rfl hj
  · rw [hu] at ha
    split at ha
    · have := List.mem_singleton.1 ha
      omega
    · exact absurd ha (by simp)
  · rw [hu] at hj ⊢
    split at hj
    · rename_i e; rw [if_pos e]; simp
    · exact absurd rfl hj
  · rw [hu]
    split
    · rename_i e; simp [e]
    · simp
theorem getD_mem {l : List Nat} {i : Nat} (h : i < l.length) : l.getD i 0 ∈ l := by
  rw [List.getD_eq_getElem?_getD, List.getElem?_eq_getElem h]
  exact List.getElem_mem h
theorem tM_facts {C t : Nat} {s : TS} (h : TI C s) : TI C (tM C (s.Q.getD t 0) s) ∧ TLe s (tM C (s.Q.getD t 0) s) := by
  rcases Nat.lt_or_ge t s.Q.length with hlt | hge
  · have hm := (h.mem _).1 (getD_mem hlt)
    have := tJ_facts h hm (s.W (s.Q.getD t 0)).length
    rw [tJ_end] at this
    exact ⟨this.1, this.2.1⟩
  · have e : s.Q.getD t 0 = 0 := by rw [List.getD_eq_getElem?_getD, List.getElem?_eq_none hge]; rfl
    have e0 : s.W 0 = [] := by
      have := h.len 0
      exact List.eq_nil_of_length_eq_zero (by omega)
    rw [e]
    unfold tM
    rw [e0]
    exact ⟨h, TLe.refl s⟩
theorem tR_inv {C : Nat} (hC : 1 ≤ C) : ∀ t, TI C (tR C t) := by
  intro t
  induction t with
  | zero => exact tZ_inv hC
  | succ t ih => exact (tM_facts ih).1
theorem tR_le {C : Nat} (hC : 1 ≤ C) (t : Nat) : ∀ d, TLe (tR C t) (tR C (t + d)) := by
  intro d
  induction d with
  | zero => exact TLe.refl _
  | succ d ih => exact ih.trans (tM_facts (t := t + d) (tR_inv hC (t + d))).2
theorem tR_stall {C t : Nat} (hC : 1 ≤ C) (h : (tR C t).Q.length ≤ t) : ∀ d, tR C (t + d) = tR C t := by
  intro d
  induction d with
  | zero => rfl
  | succ d ih =>
    show tM C ((tR C (t + d)).Q.getD (t + d) 0) (tR C (t + d)) = _
    rw [ih]
    have e : (tR C t).Q.getD (t + d) 0 = 0 := by rw [List.getD_eq_getElem?_getD, List.getElem?_eq_none (by omega)]; rfl
    have e0 : (tR C t).W 0 = [] := by
      have := (tR_inv hC t).len 0
      exact List.eq_nil_of_length_eq_zero (by omega)
    rw [e]
    unfold tM
    rw [e0]
    rfl
theorem tR_proper {C t : Nat} (hC : 1 ≤ C) (h : t ≤ (tR C t).Q.length) : ∀ i, i < t → i < (tR C i).Q.length := by
  intro i hi
  rcases Nat.lt_or_ge i (tR C i).Q.length with h' | h'
  · exact h'
  · have := tR_stall hC h' (t - i)
    rw [show i + (t - i) = t by omega] at this
    rw [this] at h
    omega
theorem nodup_len : ∀ (n : Nat) (l : List Nat), l.Nodup → (∀ x ∈ l, 1 ≤ x ∧ x ≤ n) → l.length ≤ n := by
  intro n
  induction n with
  | zero =>
    intro l _ h
    cases l with
    | nil => exact Nat.le_refl _
    | cons a l => have := h a (by simp); omega
  | succ n ih =>
    intro l hnd h
    by_cases hm : n + 1 ∈ l
    · have h1 := List.length_erase_of_mem hm
      have h2 := ih (l.erase (n + 1)) (hnd.erase _) (fun x hx => by
        have h3 := (hnd.mem_erase_iff).1 hx
        have h4 := h x h3.2
        omega)
      omega
    · have := ih l hnd (fun x hx => by
        have h4 := h x hx
        have : x ≠ n + 1 := fun e => hm (e ▸ hx)
        omega)
      omega
theorem tI_len {C : Nat} {s : TS} (h : TI C s) : s.Q.length ≤ C := nodup_len C s.Q h.nd fun x hx => h.rng x ((h.mem x).1 hx)
/-- As long as a number is missing there is one more to go on from. -/
theorem tR_more {C t n : Nat} (h1 : 1 ≤ n) (hn : n ≤ C) (h : t ≤ (tR C t).Q.length) (hW : (tR C t).W n = []) : t < (tR C t).Q.length := by
  have hC : 1 ≤ C := by omega
  rcases Nat.lt_or_eq_of_le h with h' | h'
  · exact h'
  · exfalso
    have hpr := tR_proper hC h
    have hI := tR_inv hC t
    have hall : ∀ x, 1 ≤ x → x ≤ C → (tR C t).W x ≠ [] := by
      intro x
      induction x with
      | zero => intro h; omega
      | succ x ih =>
        intro _ hx
        rcases Nat.eq_zero_or_pos x with rfl | hx0
        · rw [show 0 + 1 = 1 from rfl, hI.one]; simp
        · have hm := (hI.mem x).2 (ih hx0 (by omega))
          obtain ⟨i, hi, e⟩ := List.mem_iff_getElem.1 hm
          have hit : i < t := by omega
          have hp := hpr i hit
          have hle := tR_le hC i (t - i)
          rw [show i + (t - i) = t by omega] at hle
          have hq : (tR C i).Q.getD i 0 = x := by
            rw [← hle.qat hp, List.getD_eq_getElem?_getD, List.getElem?_eq_getElem hi, e]
            rfl
          have hIi := tR_inv hC i
          have hxi : (tR C i).W x ≠ [] := (hIi.mem x).1 (by rw [← hq]; exact getD_mem hp)
          have hf := (fold_facts ((tR C i).W x) (tR C i) hIi hxi (fun a ha => (hIi.els x a ha).1)).2.2.2 1 (hIi.hd x hxi) hx
          have hs : (tR C (i + 1)).W (x + 1) ≠ [] := by
            show (tM C ((tR C i).Q.getD i 0) (tR C i)).W (x + 1) ≠ []
            rw [hq]
            exact hf
          have hle2 := tR_le hC (i + 1) (t - (i + 1))
          rw [show i + 1 + (t - (i + 1)) = t by omega] at hle2
          rw [hle2.w _ hs]
          exact hs
    exact hall n h1 hn hW

/-- Only the numbers up to n. -/
def tF (n : Nat) (s : TS) : TS := ⟨fun j => if j ≤ n then s.W j else [], s.Q.filter fun j => decide (j ≤ n)⟩
theorem tF_A {n C m a : Nat} {s : TS} (hn : n ≤ C) (hm : m ≤ n) : tF n (tA C m s a) = tA n m (tF n s) a := by
  by_cases hb : m + a ≤ n
  · by_cases h0 : s.W (m + a) = []
    · rw [tA_yes (by omega) h0, tA_yes hb (by show (if m + a ≤ n then s.W (m + a) else []) = []; rw [if_pos hb]; exact h0)]
      apply TS.ext
      · funext j
        show (if j ≤ n then updW s.W (m + a) (s.W m ++ [m + a]) j else []) = updW (fun j => if j ≤ n then s.W j else []) (m + a) ((if m ≤ n then s.W m else []) ++ [m + a]) j
        unfold updW
        rw [if_pos hm]
        by_cases hj : j = m + a
        · rw [if_pos hj, if_pos hj, if_pos (by omega)]
        · rw [if_neg hj, if_neg hj]
      · show (s.Q ++ [m + a]).filter _ = s.Q.filter _ ++ [m + a]
        rw [List.filter_append]
        simp [hb]
    · rw [tA_has h0, tA_has (by show (if m + a ≤ n then s.W (m + a) else []) ≠ []; rw [if_pos hb]; exact h0)]
  · rw [tA_big (C := n) hb]
    by_cases hc : m + a ≤ C ∧ s.W (m + a) = []
    · rw [tA_yes hc.1 hc.2]
      apply TS.ext
      · funext j
        show (if j ≤ n then updW s.W (m + a) (s.W m ++ [m + a]) j else []) = if j ≤ n then s.W j else []
        unfold updW
        by_cases hj : j ≤ n
        · rw [if_pos hj, if_pos hj, if_neg (by omega)]
        · rw [if_neg hj, if_neg hj]
      · show (s.Q ++ [m + a]).filter _ = s.Q.filter _
        rw [List.filter_append]
        simp [hb]
    · unfold tA
      rw [if_neg hc]
theorem tF_A' {n C m a : Nat} {s : TS} (hm : n < m) : tF n (tA C m s a) = tF n s := by
  by_cases hc : m + a ≤ C ∧ s.W (m + a) = []
  · rw [tA_yes hc.1 hc.2]
    apply TS.ext
    · funext j
      show (if j ≤ n then updW s.W (m + a) (s.W m ++ [m + a]) j else []) = if j ≤ n then s.W j else []
      unfold updW
      by_cases hj : j ≤ n
      · rw [if_pos hj, if_pos hj, if_neg (by omega)]
      · rw [if_neg hj, if_neg hj]
    · show (s.Q ++ [m + a]).filter _ = s.Q.filter _
      rw [List.filter_append]
      simp [show ¬ m + a ≤ n by omega]
  · unfold tA
    rw [if_neg hc]
theorem tF_fold {n C m : Nat} (hn : n ≤ C) : ∀ (l : List Nat) (s : TS), tF n (l.foldl (tA C m) s) = if m ≤ n then l.foldl (tA n m) (tF n s) else tF n s := by
  intro l
  induction l with
  | nil => intro s; split <;> rfl
  | cons a l ih =>
    intro s
    rw [List.foldl_cons, ih]
    by_cases hm : m ≤ n
    · rw [if_pos hm, if_pos hm, List.foldl_cons, tF_A hn hm]
    · rw [if_neg hm, if_neg hm, tF_A' (by omega)]
theorem tF_M {n C m : Nat} (hn : n ≤ C) (s : TS) : tF n (tM C m s) = if m ≤ n then tM n m (tF n s) else tF n s := by
  unfold tM
  rw [tF_fold hn]
  split
  · rename_i hm
    rw [show (tF n s).W m = s.W m by show (if m ≤ n then s.W m else []) = _; rw [if_pos hm]]
  · rfl
theorem tF_R {n C : Nat} (h1 : 1 ≤ n) (hn : n ≤ C) : ∀ t, t ≤ (tR C t).Q.length → tF n (tR C t) = tR n (((tR C t).Q.take t).filter fun j => decide (j ≤ n)).length := by
  have hC : 1 ≤ C := by omega
  intro t
  induction t with
  | zero =>
    intro _
    apply TS.ext
    · funext j
      show (if j ≤ n then (if j = 1 then [1] else []) else []) = if j = 1 then [1] else []
      by_cases hj : j = 1
      · rw [if_pos hj, if_pos (by omega)]
      · rw [if_neg hj]; split <;> rfl
    · show [1].filter (fun j => decide (j ≤ n)) = [1]
      simp [h1]
  | succ t ih =>
    intro ht
    have hlt := tR_proper hC ht t (by omega)
    have ih := ih (by omega)
    have hle := tR_le hC t 1
    obtain ⟨m, hm⟩ : ∃ m, (tR C t).Q.getD t 0 = m := ⟨_, rfl⟩
    have hstep : tR C (t + 1) = tM C m (tR C t) := by rw [← hm]; rfl
    have hQ : (tR C t).Q = (tR C t).Q.take t ++ m :: (tR C t).Q.drop (t + 1) := by
      have e : (tR C t).Q[t] = m := by rw [← hm, List.getD_eq_getElem?_getD, List.getElem?_eq_getElem hlt]; rfl
      rw [← e, List.getElem_cons_drop, List.take_append_drop]
    have htake : (tR C (t + 1)).Q.take (t + 1) = (tR C t).Q.take t ++ [m] := by
      obtain ⟨r, hr⟩ := hle.q
      rw [hr, List.take_append_of_le_length (by omega), List.take_succ_eq_append_getElem hlt]
      congr 2
      rw [← hm, List.getD_eq_getElem?_getD, List.getElem?_eq_getElem hlt]
      rfl
    rw [htake, hstep, tF_M hn, List.filter_append]
    by_cases hmn : m ≤ n
    · rw [if_pos hmn]
      rw [show ([m].filter fun j => decide (j ≤ n)) = [m] by simp [hmn], List.length_append, List.length_singleton]
      obtain ⟨c, hc⟩ : ∃ c, (((tR C t).Q.take t).filter fun j => decide (j ≤ n)).length = c := ⟨_, rfl⟩
      rw [hc] at ih ⊢
      show _ = tM n ((tR n c).Q.getD c 0) (tR n c)
      have hg : (tR n c).Q.getD c 0 = m := by
        rw [← ih]
        show ((tR C t).Q.filter fun j => decide (j ≤ n)).getD c 0 = m
        rw [hQ, List.filter_append, List.filter_cons, if_pos (by simp [hmn]), List.getD_eq_getElem?_getD, List.getElem?_append_right (by omega), hc]
        simp
      rw [hg, ih]
    · rw [if_neg hmn, ih]
      rw [show ([m].filter fun j => decide (j ≤ n)) = [] by simp [hmn], List.append_nil]

/-- The way to a number. -/
def twN (n : Nat) : List Nat := (tR n n).W n
theorem tw_spec {n t : Nat} (h1 : 1 ≤ n) (ht : t ≤ n) (h : (tR n t).W n ≠ []) : (tR n t).W n = twN n := by
  have hle := tR_le h1 t (n - t)
  rw [show t + (n - t) = n by omega] at hle
  exact (hle.w n h).symm
theorem tw_impl {n C t : Nat} (h1 : 1 ≤ n) (hn : n ≤ C) (ht : t ≤ (tR C t).Q.length) (h : (tR C t).W n ≠ []) : (tR C t).W n = twN n := by
  have hF := tF_R h1 hn t ht
  obtain ⟨c, hc⟩ : ∃ c, (((tR C t).Q.take t).filter fun j => decide (j ≤ n)).length = c := ⟨_, rfl⟩
  rw [hc] at hF
  have e : (tR n c).W n = (tR C t).W n := by
    rw [← hF]
    show (if n ≤ n then (tR C t).W n else []) = _
    rw [if_pos (Nat.le_refl _)]
  have hcl : c ≤ n := by
    have h2 : (tR n c).Q.length = ((tR C t).Q.filter fun j => decide (j ≤ n)).length := by rw [← hF]; rfl
    have h3 : c ≤ ((tR C t).Q.filter fun j => decide (j ≤ n)).length := by
      rw [← hc]
      exact (List.Sublist.filter _ (List.take_sublist _ _)).length_le
    have h4 := tI_len (tR_inv h1 c)
    omega
  rw [← e]
  exact tw_spec h1 hcl (by rw [e]; exact h)
theorem twN_len {n : Nat} (h1 : 1 ≤ n) : (twN n).length ≤ n := (tR_inv h1 n).len n
end Go.Proofs.Ytbbjgcagkmlngab
/- All ways of the tree are the ways of the run, one for each number. -/
namespace Go.Proofs.Ytbbjgcagkmlngab

theorem lastN_one (c : List Nat) (s : Nat) : lastN (c ++ [s]) = s := lastN_snoc c s
/-- The program's list of ways is the model's run. -/
structure Rl (s : TS) (T : List (List Nat)) : Prop where
  eq : T = s.Q.map s.W
  las : ∀ x ∈ s.Q, lastN (s.W x) = x
theorem Rl.add {s : TS} {T : List (List Nat)} {m a : Nat} (h : Rl s T) (I : TI 400 s) (hm : s.W m ≠ []) : Rl (tA 400 m s a) (addW (s.W m) T a) := by
  have hl : lastN (s.W m) = m := h.las m ((I.mem m).2 hm)
  have hall : T.all (fun q => !(lastN q == m + a)) = true ↔ s.W (m + a) = [] := by
    rw [List.all_eq_true, h.eq]
    constructor
    · intro H
      apply Classical.byContradiction
      intro hne
      have hq := (I.mem (m + a)).2 hne
      have := H _ (List.mem_map_of_mem hq)
      rw [h.las _ hq] at this
      simp at this
    · intro h0 q hq
      obtain ⟨x, hx, rfl⟩ := List.mem_map.1 hq
      rw [h.las x hx]
      have : x ≠ m + a := fun e => (I.mem x).1 hx (by rw [e]; exact h0)
      simpa using this
  unfold addW tA
  rw [hl]
  by_cases hc : m + a ≤ 400 ∧ s.W (m + a) = []
  · rw [if_pos hc, if_pos ⟨hc.1, hall.2 hc.2⟩]
    have hnq : ∀ x ∈ s.Q, x ≠ m + a := fun x hx e => (I.mem x).1 hx (by rw [e]; exact hc.2)
    refine ⟨?_, fun x hx => ?_⟩
    · show T ++ _ = (s.Q ++ [m + a]).map (updW s.W (m + a) (s.W m ++ [m + a]))
      rw [List.map_append, h.eq]
      congr 1
      · refine List.map_congr_left fun x hx => ?_
        unfold updW
        rw [if_neg (hnq x hx)]
      · simp [updW]
    · show lastN (updW s.W (m + a) (s.W m ++ [m + a]) x) = x
      have hx' : x ∈ s.Q ++ [m + a] := hx
      rw [List.mem_append, List.mem_singleton] at hx'
      unfold updW
      rcases hx' with hx' | rfl
      · rw [if_neg (hnq x hx')]
        exact h.las x hx'
      · rw [if_pos rfl, lastN_snoc]
  · rw [if_neg hc, if_neg (fun h' => hc ⟨h'.1, hall.1 h'.2⟩)]
    exact h
theorem Rl.fold {m : Nat} : ∀ (l : List Nat) (s : TS) (T : List (List Nat)) (p : List Nat), Rl s T → TI 400 s → s.W m = p → p ≠ [] → (∀ a ∈ l, 1 ≤ a) → Rl (l.foldl (tA 400 m) s) (l.foldl (addW p) T) := by
  intro l
  induction l with
  | nil => intro s T p h _ _ _ _; exact h
  | cons a l ih =>
    intro s T p h I hp hne h1
    have hm : s.W m ≠ [] := by rw [hp]; exact hne
    have ha := h1 a List.mem_cons_self
    rw [List.foldl_cons, List.foldl_cons]
    refine ih _ _ p ?_ (tA_inv I hm ha) ((tA_keep 400 s ha).trans hp) hne fun b hb => h1 b (List.mem_cons_of_mem _ hb)
    have := h.add (a := a) I hm
    rw [hp] at this
    exact this
theorem Rl.proc {s : TS} {T : List (List Nat)} {i : Nat} (h : Rl s T) (I : TI 400 s) (hi : i < s.Q.length) : Rl (tM 400 (s.Q.getD i 0) s) (procW T i) := by
  have hq := getD_mem hi
  have e : T.getD i [] = s.W (s.Q.getD i 0) := by
    rw [h.eq, List.getD_eq_getElem?_getD, List.getElem?_map, List.getElem?_eq_getElem hi, List.getD_eq_getElem?_getD, List.getElem?_eq_getElem hi]
    rfl
  unfold procW tM
  rw [e]
  exact Rl.fold _ s T _ h I rfl ((I.mem _).1 hq) fun a ha => (I.els _ a ha).1
theorem Rl.run : ∀ (f i : Nat) (T : List (List Nat)), i ≤ (tR 400 i).Q.length → Rl (tR 400 i) T → ∃ t, t ≤ (tR 400 t).Q.length ∧ Rl (tR 400 t) (runW f i T) := by
  intro f
  induction f with
  | zero => intro i T hi h; exact ⟨i, hi, h⟩
  | succ f ih =>
    intro i T hi h
    have hl : T.length = (tR 400 i).Q.length := by rw [h.eq, List.length_map]
    by_cases hlt : i < T.length
    · rw [runW_step hlt]
      refine ih (i + 1) _ ?_ (h.proc (tR_inv (by omega) i) (by omega))
      have := (tR_le (C := 400) (by omega) i 1).qlen
      omega
    · rw [runW_end hlt]
      exact ⟨i, hi, h⟩
/-- Each row of the list is the way to its end. -/
theorem tree_row {i : Nat} (hi : i < treeT.length) : treeT.getD i [] = twN (lastN (treeT.getD i [])) ∧ 1 ≤ lastN (treeT.getD i []) := by
  obtain ⟨t, ht, h⟩ := Rl.run 400 0 [[1]] (Nat.zero_le _) ⟨rfl, fun x hx => by
    have : x = 1 := List.mem_singleton.1 hx
    subst this
    rfl⟩
  have h : Rl (tR 400 t) treeT := h
  have I := tR_inv (C := 400) (by omega) t
  have hlen : treeT.length = (tR 400 t).Q.length := by rw [h.eq, List.length_map]
  have hiq : i < (tR 400 t).Q.length := by omega
  have hq := getD_mem hiq
  have e : treeT.getD i [] = (tR 400 t).W ((tR 400 t).Q.getD i 0) := by
    rw [h.eq, List.getD_eq_getElem?_getD, List.getElem?_map, List.getElem?_eq_getElem hiq, List.getD_eq_getElem?_getD, List.getElem?_eq_getElem hiq]
    rfl
  have hw := (I.mem _).1 hq
  have hr := I.rng _ hw
  rw [e, h.las _ hq]
  exact ⟨tw_impl hr.1 hr.2 ht hw, hr.1⟩
theorem ends_ok : ((List.range 400).all fun n => tL14.any fun q => lastN q == n + 1) = true := by decide +kernel
/-- The first row whose end is n: it is there. -/
theorem tree_has {n : Nat} (h1 : 1 ≤ n) (hn : n ≤ 400) : (treeT.all fun q => !(lastN q == n)) = false := by
  have h := List.all_eq_true.1 ends_ok (n - 1) (by simp; omega)
  rw [show n - 1 + 1 = n by omega, ← treeT_eq, List.any_eq_true] at h
  obtain ⟨q, hq, he⟩ := h
  rw [List.all_eq_false]
  exact ⟨q, hq, by rw [he]; decide⟩
end Go.Proofs.Ytbbjgcagkmlngab
/- The way to a number in the tree of powers, by the model. -/
namespace Go.Proofs.Ytbbjgcagkmlngab
open Go.RowKit


/-- The number above each number. -/
structure Ab (n : Nat) (s : TS) (ab : List Int) : Prop where
  len : ab.length = n + 1
  no : ∀ j, s.W j = [] → ab.getD j 0 = 0
  one : ab.getD 1 0 = 0
  yes : ∀ j, 2 ≤ j → s.W j ≠ [] → ∃ m : Nat, 1 ≤ m ∧ m < j ∧ ab.getD j 0 = (m : Int) ∧ s.W m ≠ [] ∧ s.W j = s.W m ++ [j]
theorem getD_rep (n j : Nat) : (List.replicate n (0 : Int)).getD j 0 = 0 := by
  rw [List.getD_eq_getElem?_getD, List.getElem?_replicate]
  split <;> rfl
theorem Ab.start (n : Nat) : Ab n tZ (List.replicate (n + 1) (0 : Int)) := by
  refine ⟨by simp, fun j _ => getD_rep _ _, getD_rep _ _, fun j hj h => ?_⟩
  exfalso
  apply h
  show (if j = 1 then [1] else []) = []
  rw [if_neg (by omega)]
theorem getD_set {l : List Int} {i j : Nat} {x : Int} (hi : i < l.length) : (l.set i x).getD j 0 = if j = i then x else l.getD j 0 := by
  rw [List.getD_eq_getElem?_getD, List.getElem?_set]
  split
  · subst_vars
    rw [if_pos rfl]
    simp
  · rw [if_neg (by omega), List.getD_eq_getElem?_getD]
theorem Ab.add {n m a : Nat} {s : TS} {ab : List Int} (h : Ab n s ab) (hm : s.W m ≠ []) (h1 : 1 ≤ a) (hm1 : 1 ≤ m) (hle : m + a ≤ n) (h0 : s.W (m + a) = []) : Ab n (tA n m s a) (ab.set (m + a) (m : Int)) := by
  rw [tA_yes hle h0]
  have hlt : m + a < ab.length := by rw [h.len]; omega
  have hu : ∀ j, (updW s.W (m + a) (s.W m ++ [m + a])) j = if j = m + a then s.W m ++ [m + a] else s.W j := fun j => rfl
  refine ⟨by rw [List.length_set, h.len], fun j hj => ?_, ?_, fun j hj2 hj => ?_⟩
  · have hj : updW s.W (m + a) (s.W m ++ [m + a]) j = [] := hj
    rw [hu] at hj
    rw [getD_set hlt]
    split at hj
    · simp at hj
    · rename_i e
      rw [if_neg e]
      exact h.no j hj
  · rw [getD_set hlt, if_neg (by omega)]
    exact h.one
  · have hj : updW s.W (m + a) (s.W m ++ [m + a]) j ≠ [] := hj
    show ∃ m' : Nat, 1 ≤ m' ∧ m' < j ∧ _ ∧ updW s.W (m + a) (s.W m ++ [m + a]) m' ≠ [] ∧ updW s.W (m + a) (s.W m ++ [m + a]) j = updW s.W (m + a) (s.W m ++ [m + a]) m' ++ [j]
    rw [hu] at hj
    by_cases e : j = m + a
    · refine ⟨m, hm1, by omega, ?_, ?_, ?_⟩
      · rw [getD_set hlt, if_pos e]
      · rw [hu, if_neg (by omega)]; exact hm
      · rw [hu, hu, if_pos e, if_neg (by omega), e]
    · rw [if_neg e] at hj
      obtain ⟨m', q1, q2, q3, q4, q5⟩ := h.yes j hj2 hj
      have hne : m' ≠ m + a := fun e' => q4 (by rw [e']; exact h0)
      refine ⟨m', q1, q2, ?_, ?_, ?_⟩
      · rw [getD_set hlt, if_neg e, q3]
      · rw [hu, if_neg hne]; exact q4
      · rw [hu, hu, if_neg e, if_neg hne, q5]

set_option maxRecDepth 100000 in
set_option maxHeartbeats 2000000 in
theorem meWay_any (B : Nat) (A : Option Addr) (c n m : Nat) (s : TS) (ab : List Int) (w : World) (hB : B ≤ w.heap.size) (hn : n ≤ 400) (hab : Ab n s ab) (hI : TI n s) (hm : s.W m ≠ []) (hr : Rd w B 1 A (n + 1) (ab.map I)) :
    Calls Try.prog 151 #[.slice A (n + 1) c, .int .i64 (m : Int)] w fun e w' => ∃ A' c', e = .returned (.slice A' (s.W m).length c') ∧ OwI w' w.heap.size (.slice A' (s.W m).length c') (cs (s.W m)) ∧ Below w.heap.size w w' := by
  have hmr := hI.rng m hm
  have hlen := hab.len
  rw [← hlen] at hr
  obtain ⟨b, off, rfl, hbB, hc⟩ := hr.cells (by omega)
  have HC := Lib.hid (show ∀ j, j ≤ n → w.cell? ⟨b, off + j, none⟩ = some (.int .i64 (ab.getD j 0)) from fun j hj => hc j (by omega))
  have HAB := Lib.hid hab
  have HI := Lib.hid hI
  have HM := Lib.hid hm
  have HL := Lib.hid hlen
  clear hr hc hab hI hm hlen
  go_enter Try.func151, Try.ntmps151
  go_wp2
  go_loopw [1, 5] (fun mv ov wr => ∃ (i k : Nat) (l : List Nat) (A1 : Option Addr) (c1 : Nat), mv = .int .i64 (i : Int) ∧ ov = .slice A1 k c1 ∧ k = l.length ∧ i ≤ n ∧ l.length ≤ 401 ∧ OwI wr w.heap.size (.slice A1 k c1) (cs l) ∧ Below w.heap.size w wr ∧ ((i = 0 ∧ s.W m = l) ∨ (1 ≤ i ∧ s.W i ≠ [] ∧ s.W m = s.W i ++ l))) (fun mv _ _ => (intOf mv).toNat)
  case atStart => exact ⟨m, 0, [], none, 0, rfl, rfl, rfl, hmr.2, by simp, show OwI _ _ _ [] from OwI.nil _ _, Below.refl _ _, .inr ⟨hmr.1, HM.out, by simp⟩⟩
  case round =>
    obtain ⟨i, k, l, A1, c1, rfl, rfl, hk, hin, hl, hown, hbel, hrest⟩ := hrel
    have OWN := Lib.hid hown
    have BEL := Lib.hid hbel
    have HK := Lib.hid hk
    have hs : w.heap.size ≤ wr.heap.size := hbel.size
    clear hown hbel hk
    rcases hrest with ⟨h0, hW⟩ | ⟨h1, hWi, hW⟩
    · have i0 : ¬ (0 : Int) < (i : Int) := by omega
      have HW := Lib.hid hW
      clear hW h0
      go_wp2
      go_ret
      exact ⟨A1, c1, by rw [HW.out, ← HK.out]; rfl, by rw [HW.out, ← HK.out]; exact OWN.out, BEL.out⟩
    · have i0 : (0 : Int) < (i : Int) := by omega
      obtain ⟨p, hp, hpi, hstep⟩ : ∃ p : Nat, ab.getD i 0 = (p : Int) ∧ p < i ∧ ((p = 0 ∧ s.W m = i :: l) ∨ (1 ≤ p ∧ s.W p ≠ [] ∧ s.W m = s.W p ++ (i :: l))) := by
        rcases Nat.lt_or_eq_of_le h1 with h2 | h2
        · obtain ⟨p, q1, q2, q3, q4, q5⟩ := HAB.out.yes i (by omega) hWi
          exact ⟨p, q3, q2, .inr ⟨q1, q4, by rw [hW, q5, List.append_assoc]; rfl⟩⟩
        · subst h2
          exact ⟨0, HAB.out.one, by omega, .inl ⟨rfl, by rw [hW, HI.out.one]; rfl⟩⟩
      have hll : l.length + 1 ≤ 401 := by
        have h3 := HI.out.len m
        have h4 : (s.W i).length ≠ 0 := fun e => hWi (List.eq_nil_of_length_eq_zero e)
        rw [hW, List.length_append] at h3
        omega
      have hcell := HC.out i hin
      rw [hp] at hcell
      have HCI := Lib.hid hcell
      clear hcell
      have hkb : k ≤ 401 := by rw [HK.out]; omega
      have hil : (i : Int) < (n : Int) + 1 := by omega
      have HST := Lib.hid hstep
      clear hstep hW hWi hp
      go_wp2_with (at_builtin; refine list_step (fun K hK => ?_); refine step_appM Try.underlying22 info_int rfl (by omega) (by omega) rfl (.tmp 13) (.tmp 14) rfl w.heap.size 1 _ [I (i : Int)] rfl (show World.ownsRow _ _ _ _ _ _ _ from own_one (i : Int) (by omega)) A1 k c1 ((cs l).map I) rfl (show Rd _ _ 1 A1 k _ from by have h := (OWN.out.alloc (.cells #[.int .i64 (i : Int)] 3)); exact Rd.of_own (by have h2 := h; unfold OwI at h2; rw [cs_len, ← HK.out] at h2; exact h2)) (ints_one _) (by omega) (by simp; omega) ?_; intro A2 c2 w2 hown2 hg2 hbel2; have hcell2 := (((BEL.out.alloc hs _).trans hbel2).cell (p := ⟨b, off + i, none⟩) (by simp only []; omega)).trans HCI.out; go_simp; refine hK _ _ ?_; clear hK K)
      go_roundw
      case rel =>
        refine ⟨p, 1 + k, i :: l, A2, c2, rfl, rfl, by rw [HK.out, List.length_cons]; omega, by omega, hll, ?_, ?_, HST.out⟩
        · unfold OwI
          rw [cs_len, List.length_cons, show l.length + 1 = 1 + k by rw [HK.out]; omega]
          exact hown2
        · exact (BEL.out.alloc hs _).trans hbel2
      case measure => simp [intOf]; omega
end Go.Proofs.Ytbbjgcagkmlngab
/- The tree of powers, by the model. -/
namespace Go.Proofs.Ytbbjgcagkmlngab
open Go.RowKit

theorem ab_zero {n j : Nat} {s : TS} {ab : List Int} (h : Ab n s ab) (h2 : 2 ≤ j) : s.W j = [] ∧ ab.getD j 0 = 0 ∨ s.W j ≠ [] ∧ 1 ≤ ab.getD j 0 ∧ ab.getD j 0 < j := by
  by_cases h0 : s.W j = []
  · exact .inl ⟨h0, h.no j h0⟩
  · obtain ⟨m, q1, q2, q3, _⟩ := h.yes j h2 h0
    exact .inr ⟨h0, by rw [q3]; omega, by rw [q3]; omega⟩
theorem drop_app {l r : List Nat} {k : Nat} (h : k ≤ l.length) : (l ++ r).drop k = l.drop k ++ r := List.drop_append_of_le_length h

/-- Where the work stands: the numbers above, the numbers added behind the first q. -/
structure Tw (w wr : World) (n q : Nat) (s : TS) (nv : Value) (k : Nat) : Prop where
  ab : ∃ ab, Ab n s ab ∧ OwI wr w.heap.size (.slice (some ⟨w.heap.size, 0, none⟩) (n + 1) (n + 1)) ab
  nx : OwI wr (w.heap.size + 1) nv (cs (s.Q.drop q))
  len : (s.Q.drop q).length = k
  bel : Below w.heap.size w wr
  sz : w.heap.size + 1 ≤ wr.heap.size
  le : q ≤ s.Q.length
/-- A row beside the work that does not change. -/
def Ro (wr : World) (B : Nat) (v nv : Value) (l : List Int) : Prop := OwI wr B v l ∧ Apt v nv

theorem Tw.more {w wr w' : World} {n q k : Nat} {s : TS} {nv : Value} (h : Tw w wr n q s nv k) (hb : Below wr.heap.size wr w') : Tw w w' n q s nv k := by
  obtain ⟨⟨ab, h1, h2⟩, h3, h4, h5, h6, h7⟩ := h
  have := hb.size
  exact ⟨⟨ab, h1, h2.below hb⟩, h3.below hb, h4, h5.trans (hb.mono (by omega)), by omega, h7⟩
theorem Ro.more {wr w' : World} {B : Nat} {v nv : Value} {l : List Int} (h : Ro wr B v nv l) (hb : Below wr.heap.size wr w') : Ro w' B v nv l := ⟨h.1.below hb, h.2⟩
theorem Tw.add {w wr w2 : World} {n q k m a g cap : Nat} {s : TS} {nv : Value} {o : Obj} (h : Tw w wr n q s nv k) (hm : s.W m ≠ []) (h1 : 1 ≤ a) (hm1 : 1 ≤ m) (hle : m + a ≤ n) (h0 : s.W (m + a) = [])
    (hown : OwI w2 (w.heap.size + 1) (.slice (some ⟨g, 0, none⟩) (k + 1) cap) (cs (s.Q.drop q) ++ [(m : Int) + (a : Int)]))
    (hg : ((wr.setCell ⟨w.heap.size, m + a, none⟩ (.int .i64 (m : Int))).alloc o).grownBy w2 nv.ownBlock) (hb : Below (w.heap.size + 1) ((wr.setCell ⟨w.heap.size, m + a, none⟩ (.int .i64 (m : Int))).alloc o) w2) :
    Tw w w2 n q (tA n m s a) (.slice (some ⟨g, 0, none⟩) (k + 1) cap) (k + 1) := by
  obtain ⟨⟨ab, q1, q2⟩, q3, q4, q5, q6, q7⟩ := h
  have hset := (own_store (i := m + a) (x := (m : Int)) q2 q1.len).2
  have e : tA n m s a = ⟨updW s.W (m + a) (s.W m ++ [m + a]), s.Q ++ [m + a]⟩ := tA_yes hle h0
  have hQ : (tA n m s a).Q.drop q = s.Q.drop q ++ [m + a] := by rw [e]; exact drop_app q7
  refine ⟨⟨_, q1.add hm h1 hm1 hle h0, ?_⟩, ?_, ?_, ?_, ?_, ?_⟩
  · refine World.ownsRow.kept (hset.alloc _) hg (.inr fun e' => ?_)
    have := own_block q3 w.heap.size (by rw [← e']; rfl)
    omega
  · rw [hQ, cs_snoc]
    have e2 : ((m + a : Nat) : Int) = (m : Int) + (a : Int) := by omega
    rw [e2]
    exact hown
  · rw [hQ, List.length_append, q4]
    rfl
  · have z : wr.heap.size ≤ (wr.setCell ⟨w.heap.size, m + a, none⟩ (.int .i64 (m : Int))).heap.size := by simp
    exact (q5.setCell (Nat.le_refl _) _).trans (((Below.refl _ _).alloc (by simp; omega) _).trans (hb.mono (by omega)))
  · have := hb.size
    simp at this
    omega
  · rw [e]
    show q ≤ (s.Q ++ [m + a]).length
    rw [List.length_append]
    omega
theorem Ro.add {w wr w2 : World} {k' m a g cap B : Nat} {v nv : Value} {l : List Int} {o : Obj} (hr : Ro wr B v nv l) (hB : w.heap.size + 1 ≤ B)
    (hg : ((wr.setCell ⟨w.heap.size, m + a, none⟩ (.int .i64 (m : Int))).alloc o).grownBy w2 nv.ownBlock) (hat : nv.ownBlock = some g ∨ wr.heap.size ≤ g) :
    Ro w2 B v (.slice (some ⟨g, 0, none⟩) k' cap) l := by
  obtain ⟨r1, r2⟩ := hr
  exact ⟨Apt.kept ((own_lo r1 (by omega) _).alloc _) r2 hg, Apt.next r1 r2 hat⟩

theorem Tw.fresh {w wr : World} {n q k : Nat} {s : TS} {nv : Value} (h : Tw w wr n q s nv k) : Tw w wr n s.Q.length s (.slice none 0 0) 0 := by
  obtain ⟨h1, _, _, h2, h3, _⟩ := h
  have e : s.Q.drop s.Q.length = [] := List.drop_length
  exact ⟨h1, by rw [e]; exact OwI.nil _ _, by rw [e]; rfl, h2, h3, Nat.le_refl _⟩
theorem Apt.nil (v : Value) : Apt v (.slice none 0 0) := fun _ _ e => by cases e
theorem Apt.fresh {w : World} {B B' n c n' c' e : Nat} {e' : TypeId} {A : Option Addr} {nv : Value} {xs ys : List Value} (h : w.ownsRow B e' 1 (.slice A n c) n xs) {w0 : World} (h' : w0.ownsRow B' e n' nv c' ys) (hle : w0.heap.size ≤ B) : Apt (.slice A n c) nv := by
  intro k hk e
  have h1 := own_block h k hk
  have h2 := own_block h' k e
  omega
theorem drop_at {l : List Nat} {t i : Nat} : (l.drop t).getD i 0 = l.getD (t + i) 0 := by
  rw [List.getD_eq_getElem?_getD, List.getElem?_drop, ← List.getD_eq_getElem?_getD]

set_option maxRecDepth 100000 in
set_option maxHeartbeats 4000000 in
theorem meTree_any (n : Nat) (w : World) (h1 : 1 ≤ n) (hn : n ≤ 400) :
    Calls Try.prog 121 #[.int .i64 (n : Int)] w fun e w' => ∃ A' c', e = .returned (.slice A' (twN n).length c') ∧ OwI w' w.heap.size (.slice A' (twN n).length c') (cs (twN n)) ∧ Below w.heap.size w w' := by
  have hmk : ∀ W : World, (Instr.makeSlice 22 (.int .i64 ((n : Int) + 1)) (.int .i64 ((n : Int) + 1))).run Try.prog W = .ok (.slice (some ⟨W.heap.size, 0, none⟩) (n + 1) (n + 1)) (W.alloc (.cells (madeCells #[.int .i64 0] (n + 1)) 3)) := run_make_row' (P := Try.prog) 22 3 (.int .i64 0) 8 Try.underlying22 info_int rfl .i64 .i64 (n + 1) (by omega) (by omega)
  have hz := zeros_ownB (w := w) (B := w.heap.size) (n + 1) (by omega) (Nat.le_refl _)
  have HZ := Lib.hid hz
  clear hz
  go_enter Try.func121, Try.ntmps121
  go_wp2
  clear hmk
  generalize hw1 : World.alloc (World.alloc w _) _ = w1
  have hT : Tw w w1 n 0 tZ (.slice (some ⟨w.heap.size + 1, 0, none⟩) 1 1) 1 := by
    rw [← hw1]
    refine ⟨⟨_, Ab.start n, HZ.out.alloc _⟩, ?_, rfl, ((Below.refl _ _).alloc (Nat.le_refl _) _).alloc (by simp) _, by simp, Nat.zero_le _⟩
    have := own_one (w := w.alloc (.cells (madeCells #[Value.int .i64 0] (n + 1)) 3)) (B := w.heap.size + 1) 1 (by simp)
    simp only [World.size_alloc] at this
    exact this
  have HT := Lib.hid hT
  clear hw1 hT HZ
  go_loopg [4] n (fun g lv wr => ∃ (t k : Nat) (AL : Option Addr) (cL : Nat), g = n - t ∧ t ≤ (tR n t).Q.length ∧ lv = .slice AL k cL ∧ Tw w wr n t (tR n t) (.slice AL k cL) k)
  case atStart => exact ⟨0, 1, _, 1, rfl, Nat.zero_le _, rfl, HT.out⟩
  case round =>
    obtain ⟨t, k, AL, cL, hg, htQ, rfl, hT⟩ := hrel
    have hI := tR_inv h1 t
    have hQn := tI_len hI
    obtain ⟨s, hs⟩ : ∃ s, tR n t = s := ⟨_, rfl⟩
    rw [hs] at htQ hT hI hQn
    have HG := Lib.hid hg
    have HS := Lib.hid hs
    have HTW := Lib.hid hT
    have HI := Lib.hid hI
    obtain ⟨ab, hab, hown⟩ := hT.ab
    have BEL := Lib.hid hT.bel
    clear hT
    have hsz := HTW.out.sz
    obtain ⟨g0, hg0, _, hg2, hcells⟩ := own_cells hown hab.len (by omega)
    injection hg0 with hg0
    injection hg0 with hg0 _ _
    subst hg0
    by_cases hdone : s.W n ≠ []
    · have RD := Lib.hid (show Rd wr wr.heap.size 1 (some ⟨w.heap.size, 0, none⟩) (n + 1) (ab.map I) from by
        have h := OwI.rd (by rw [hab.len]; exact hown)
        rw [hab.len] at h
        exact h)
      have HW := Lib.hid (fun W (hr : Rd W wr.heap.size 1 (some ⟨w.heap.size, 0, none⟩) (n + 1) (ab.map I)) (hz : wr.heap.size ≤ W.heap.size) => meWay_any wr.heap.size (some ⟨w.heap.size, 0, none⟩) (n + 1) n n s ab W hz hn hab hI hdone hr)
      have E := Lib.hid (show s.W n = twN n from by
        rw [← hs] at hdone ⊢
        exact tw_spec h1 (by omega) hdone)
      rcases Nat.lt_or_eq_of_le h1 with hn2 | hn2
      · have hz := ab_zero hab hn2
        rcases hz with ⟨h0, hq1⟩ | ⟨hq1, hp, hq2⟩
        · exact absurd h0 hdone
        have hc := hcells n (by omega)
        obtain ⟨p, hpp⟩ : ∃ p, ab.getD n 0 = p := ⟨_, rfl⟩
        rw [hpp] at hc hp
        have hpb : (p == 0) = false := by simp; omega
        have in2 : (1 : Int) < (n : Int) := by omega
        clear hcells hown hab hdone hs hg hpp hq1 hq2 hI
        go_wp2_with (go_at_call 151; refine (HW.out _ RD.out (Nat.le_refl _)).mono ?_; rintro e w2 ⟨A2, c2, rfl, ho2, hb2⟩)
        go_ret
        refine ⟨A2, c2, by rw [E.out]; rfl, ?_, ?_⟩
        · rw [← E.out]; exact ho2.base (by omega)
        · exact BEL.out.trans (hb2.mono (by omega))
      · have in2 : ¬ (1 : Int) < (n : Int) := by omega
        clear hcells hown hab hdone hs hg hI hn2
        go_wp2_with (go_at_call 151; refine (HW.out _ RD.out (Nat.le_refl _)).mono ?_; rintro e w2 ⟨A2, c2, rfl, ho2, hb2⟩)
        go_ret
        refine ⟨A2, c2, by rw [E.out]; rfl, ?_, ?_⟩
        · rw [← E.out]; exact ho2.base (by omega)
        · exact BEL.out.trans (hb2.mono (by omega))
    · have h0 : s.W n = [] := Classical.not_not.1 hdone
      have hn2 : 2 ≤ n := by
        rcases Nat.lt_or_eq_of_le h1 with h' | h'
        · exact h'
        · rw [← h', hI.one] at h0
          cases h0
      have htk : t < s.Q.length := by
        have h := tR_more h1 (Nat.le_refl n) (t := t) (by rw [hs]; exact htQ) (by rw [hs]; exact h0)
        rw [hs] at h
        exact h
      have hc := hcells n (by omega)
      rw [hab.no n h0] at hc
      have in2 : (1 : Int) < (n : Int) := by omega
      have hkl := HTW.out.len
      have hk1 : t + k = s.Q.length := by rw [← hkl, List.length_drop]; omega
      obtain ⟨gL, hgL0, hgL1, hgL2, hcL⟩ := own_cells HTW.out.nx (by rw [cs_len]; exact hkl) (by omega)
      subst hgL0
      obtain ⟨q, hq⟩ : ∃ q, s.Q.length = q := ⟨_, rfl⟩
      have hkq : t + k = q := by omega
      have HQ := Lib.hid hq
      have HKQ := Lib.hid hkq
      have HLE := Lib.hid (show ∀ i, TLe s (tR n (t + i)) from fun i => by rw [← hs]; exact tR_le h1 t i)
      have hqn : t + k ≤ n := by omega
      have hk1' : 1 ≤ k := by omega
      obtain ⟨wo, rfl⟩ : ∃ wo, wo = wr := ⟨_, rfl⟩
      clear hcells hown hab hdone h0 hcL hkl hk1 hq hs hg hI htQ htk hkq
      go_wp2
      clear hc
      go_loopw [5, 25] (fun nv iv wq => ∃ (i kn : Nat) (AN : Option Addr) (cN : Nat), i ≤ k ∧ iv = .int .i64 (i : Int) ∧ nv = .slice AN kn cN ∧ Tw w wq n q (tR n (t + i)) (.slice AN kn cN) kn ∧ Ro wq (w.heap.size + 1) (.slice (some ⟨gL, 0, none⟩) k cL) (.slice AN kn cN) (cs (s.Q.drop t))) (fun _ i _ => k - (intOf i).toNat)
      case atStart =>
        refine ⟨0, 0, none, 0, by omega, rfl, rfl, ?_, HTW.out.nx, Apt.nil _⟩
        have h := HTW.out.fresh
        rw [HQ.out] at h
        rw [Nat.add_zero, HS.out]
        exact h
      case round =>
        obtain ⟨i, kn, AN, cN, hik, rfl, rfl, hT, hR⟩ := hrel
        obtain ⟨s', hs'⟩ : ∃ s', tR n (t + i) = s' := ⟨_, rfl⟩
        have hI' := tR_inv h1 (t + i)
        have hle' := HLE.out i
        have hnext : tR n (t + (i + 1)) = tM n ((tR n (t + i)).Q.getD (t + i) 0) (tR n (t + i)) := rfl
        rw [hs'] at hT hI' hle' hnext
        have HT' := Lib.hid hT
        have HR' := Lib.hid hR
        have HI' := Lib.hid hI'
        have HS' := Lib.hid hs'
        have hszr := HT'.out.sz
        clear hT hs'
        by_cases hlt : i < k
        · obtain ⟨m, hm⟩ : ∃ m, (s.Q.drop t).getD i 0 = m := ⟨_, rfl⟩
          have hmq : s'.Q.getD (t + i) 0 = m := by rw [hle'.qat (by rw [HQ.out, ← HKQ.out]; omega), ← drop_at]; exact hm
          rw [hmq] at hnext
          have hlt' : t + i < s'.Q.length := by have := hle'.qlen; rw [HQ.out, ← HKQ.out] at this; omega
          have hWm : s'.W m ≠ [] := (hI'.mem m).1 (by rw [← hmq]; exact getD_mem hlt')
          have hmr := hI'.rng m hWm
          obtain ⟨gL', hgL0, _, hgL3, hcL⟩ := own_cells hR.1 (by rw [cs_len]; exact HTW.out.len) (by omega)
          injection hgL0 with hgL0
          injection hgL0 with hgL0 _ _
          subst hgL0
          have hcl := hcL i hlt
          rw [cs_getD, hm] at hcl
          obtain ⟨ab', hab', hown'⟩ := HT'.out.ab
          have RD := Lib.hid (show Rd wr wr.heap.size 1 (some ⟨w.heap.size, 0, none⟩) (n + 1) (ab'.map I) from by
            have h := OwI.rd (by rw [hab'.len]; exact hown')
            rw [hab'.len] at h
            exact h)
          have HW := Lib.hid (fun W (hr : Rd W wr.heap.size 1 (some ⟨w.heap.size, 0, none⟩) (n + 1) (ab'.map I)) (hz : wr.heap.size ≤ W.heap.size) => meWay_any wr.heap.size (some ⟨w.heap.size, 0, none⟩) (n + 1) n m s' ab' W hz hn hab' hI' hWm hr)
          have HN := Lib.hid hnext
          have HWM := Lib.hid hWm
          have ilk : (i : Int) < (k : Int) := by omega
          obtain ⟨lw, hlw⟩ : ∃ lw, (s'.W m).length = lw := ⟨_, rfl⟩
          have HLW := Lib.hid hlw
          have hlw1 : 1 ≤ lw ∧ lw ≤ 400 := by
            have := hI'.len m
            have : (s'.W m).length ≠ 0 := fun e => hWm (List.eq_nil_of_length_eq_zero e)
            omega
          rw [hlw] at HW
          clear hI' hle' hnext hm hmq hlt' hWm hcL hab' hown' hR hlw
          go_wp2_with (go_at_call 151; refine (HW.out _ RD.out (Nat.le_refl _)).mono ?_; rintro e w2 ⟨A2, c2, rfl, ho2, hb2⟩)
          have hT2 := HT'.out.more hb2
          have hR2 := HR'.out.more hb2
          have hap : Apt (.slice A2 lw c2) (.slice AN kn cN) := by
            have h' := ho2
            unfold OwI at h'
            rw [cs_len, HLW.out] at h'
            have h := HT'.out.nx
            unfold OwI at h
            exact Apt.fresh h' h (Nat.le_refl _)
          have hR3 : Ro w2 (w.heap.size + 1) (.slice A2 lw c2) (.slice AN kn cN) (cs (s'.W m)) := ⟨ho2.base (by omega), hap⟩
          have hs2 := hb2.size
          obtain ⟨gW, hgW0, hgW1, hgW2, hcW⟩ := own_cells ho2 (by rw [cs_len]; exact HLW.out) (by omega)
          subst hgW0
          have HT2 := Lib.hid hT2
          have HR2 := Lib.hid hR2
          have HR3 := Lib.hid hR3
          clear hT2 hR2 hR3 hap ho2 hb2 hcW hcl
          obtain ⟨wm, rfl⟩ : ∃ wm, wm = wr := ⟨_, rfl⟩
          go_loopw [5, 33] (fun nv jv wq => ∃ (j kq : Nat) (AQ : Option Addr) (cQ : Nat), j ≤ lw ∧ jv = .int .i64 (j : Int) ∧ nv = .slice AQ kq cQ ∧ Tw w wq n q (tJ n m s' j) (.slice AQ kq cQ) kq ∧ Ro wq (w.heap.size + 1) (.slice (some ⟨gL, 0, none⟩) k cL) (.slice AQ kq cQ) (cs (s.Q.drop t)) ∧ Ro wq (w.heap.size + 1) (.slice (some ⟨gW, 0, none⟩) lw c2) (.slice AQ kq cQ) (cs (s'.W m))) (fun _ j _ => lw - (intOf j).toNat)
          case atStart => exact ⟨0, kn, AN, cN, by omega, rfl, rfl, HT2.out, HR2.out, HR3.out⟩
          case round =>
            obtain ⟨j, kq, AQ, cQ, hj, rfl, rfl, hTq, hRq, hSq⟩ := hrel
            have hJ := tJ_facts HI'.out HWM.out j
            have hJs := fun h => tJ_succ n m s' (j := j) h
            obtain ⟨S, hS⟩ : ∃ S, tJ n m s' j = S := ⟨_, rfl⟩
            rw [hS] at hTq hJ hJs
            obtain ⟨hSI, hSle, hSm⟩ := hJ
            have HTq := Lib.hid hTq
            have HRq := Lib.hid hRq
            have HSq := Lib.hid hSq
            have HSS := Lib.hid hS
            clear hTq hRq hS
            by_cases hjl : j < lw
            · obtain ⟨a, ha⟩ : ∃ a, (s'.W m).getD j 0 = a := ⟨_, rfl⟩
              have hjl' : j < (s'.W m).length := by rw [HLW.out]; exact hjl
              have hae : (s'.W m)[j] = a := by rw [← ha, List.getD_eq_getElem?_getD, List.getElem?_eq_getElem hjl']; rfl
              have har := HI'.out.els m a (by rw [← ha]; exact getD_mem hjl')
              have hstep := hJs hjl'
              rw [hae] at hstep
              obtain ⟨gW', hgW0, _, hgW3, hcW⟩ := own_cells hSq.1 (by rw [cs_len]; exact HLW.out) (by omega)
              injection hgW0 with hgW0
              injection hgW0 with hgW0 _ _
              subst hgW0
              have hcw := hcW j hjl
              rw [cs_getD, ha] at hcw
              obtain ⟨ab', hab', hown'⟩ := HTq.out.ab
              obtain ⟨g0, hg0, _, hg3, hcells⟩ := own_cells hown' hab'.len (by omega)
              injection hg0 with hg0
              injection hg0 with hg0 _ _
              subst hg0
              have ijl : (j : Int) < (lw : Int) := by omega
              have HSM : S.W m ≠ [] := by rw [hSm]; exact HWM.out
              by_cases hle : m + a ≤ n
              · have ile : (m : Int) + (a : Int) ≤ (n : Int) := by omega
                have hca := hcells (m + a) (by omega)
                rcases ab_zero hab' (show 2 ≤ m + a by omega) with ⟨hz0, hz1⟩ | ⟨hz0, hz1, hz2⟩
                · rw [hz1] at hca
                  have hfz := (own_store (i := m + a) (x := (m : Int)) hown' hab'.len).1
                  have HST := Lib.hid hstep
                  have HZ0 := Lib.hid hz0
                  have hkq := tI_len hSI
                  have hkq2 := HTq.out.len
                  rw [List.length_drop] at hkq2
                  have hkq3 : kq ≤ 400 := by omega
                  have NX := Lib.hid ((own_lo (o := m + a) HTq.out.nx (show w.heap.size < w.heap.size + 1 by omega) (.int .i64 (m : Int))))
                  have hszq := HTq.out.sz
                  clear hcells hab' hown' hz0 hz1 hstep hae ha hcW hSq hjl' hSI hSle hSm hJs hkq hkq2
                  go_wp2_with (at_builtin; go_loud (refine wpList_app_intH rfl (.tmp 57) (.tmp 61) rfl (w.heap.size + 1) kq _ (cs (S.Q.drop q)) rfl (NX.out.alloc _) (by rw [cs_len]; exact HTq.out.len) wr.heap.size 1 ((m : Int) + (a : Int)) rfl (by rw [World.cell?_alloc_at _ _ _ _ (by simp)]; rfl) (by omega) (by simp; omega) ?_; intro g3 c3 w3 hown3 hg3 hbel3 hat3))
                  go_roundw
                  case rel =>
                    refine ⟨j + 1, kq + 1, some ⟨g3, 0, none⟩, c3, by omega, by go_num, rfl, ?_, ?_, ?_⟩
                    · rw [HST.out]
                      exact Tw.add HTq.out HSM (by omega) (by omega) hle HZ0.out hown3 hg3 hbel3
                    · exact Ro.add HRq.out (Nat.le_refl _) hg3 (hat3.imp id fun h => by rw [h]; simp)
                    · exact Ro.add HSq.out (Nat.le_refl _) hg3 (hat3.imp id fun h => by rw [h]; simp)
                  case measure => simp [intOf]; omega
                · obtain ⟨p, hp⟩ : ∃ p, ab'.getD (m + a) 0 = p := ⟨_, rfl⟩
                  rw [hp] at hca hz1
                  have hpb : (p == 0) = false := by simp; omega
                  have HST := Lib.hid (hstep.trans (tA_has hz0))
                  clear hcells hab' hown' hz0 hz1 hz2 hstep hae ha hcW hSq hjl' hSI hSle hSm hJs hp
                  go_wp2
                  go_roundw
                  case rel => exact ⟨j + 1, kq, AQ, cQ, by omega, by go_num, rfl, by rw [HST.out]; exact HTq.out, HRq.out, HSq.out⟩
                  case measure => simp [intOf]; omega
              · have ile : ¬ (m : Int) + (a : Int) ≤ (n : Int) := by omega
                have HST := Lib.hid (hstep.trans (tA_big hle))
                clear hcells hab' hown' hstep hae ha hcW hSq hjl' hSI hSle hSm hJs
                go_wp2
                go_roundw
                case rel => exact ⟨j + 1, kq, AQ, cQ, by omega, by go_num, rfl, by rw [HST.out]; exact HTq.out, HRq.out, HSq.out⟩
                case measure => simp [intOf]; omega
            · have hje : j = lw := by omega
              have HE := Lib.hid (show tR n (t + (i + 1)) = S from by
                rw [HN.out, ← tJ_end, HLW.out, ← hje]
                exact HSS.out)
              have ijl : ¬ (j : Int) < (lw : Int) := by omega
              clear hje hSq hSI hSle hSm hJs
              go_wp2
              go_roundw
              case rel => exact ⟨i + 1, kq, AQ, cQ, by omega, by go_num, rfl, by rw [HE.out]; exact HTq.out, HRq.out⟩
              case measure => simp [intOf]; omega
        · have hik2 : i = k := by omega
          have hF := HT'.out
          have hE : tR n (t + k) = s' := by rw [← hik2]; exact HS'.out
          have HE := Lib.hid hE
          have hq1 := tI_len HI'.out
          have hq2 := HT'.out.le
          have ilk : ¬ (i : Int) < (k : Int) := by omega
          clear hI' hle' hnext hR hE hF hik2
          go_wp2
          go_roundg (n - (t + k))
          case measure => rw [HG.out]; omega
          case rel =>
            refine ⟨t + k, kn, AN, cN, rfl, ?_, rfl, ?_⟩
            · rw [HE.out, HKQ.out]; exact hq2
            · rw [HE.out, HKQ.out]; exact HT'.out
end Go.Proofs.Ytbbjgcagkmlngab
/- TreeChain of both sides: the program finds the way among all ways of the tree. -/
namespace Go.Proofs.Ytbbjgcagkmlngab
open Go.RowKit

def trB (x : Int) : Bool := inB x 1 400
def trR (x : Int) : List Int := if trB x then cs (twN x.toNat) else []
theorem trB_rng {x : Int} (h : trB x = true) : 1 ≤ x ∧ x ≤ 400 := by simpa [trB, inB] using h
theorem trR_le (x : Int) : (trR x).length ≤ 1000 := by
  unfold trR
  split
  · rename_i h
    have ⟨h1, h2⟩ := trB_rng h
    rw [cs_len]
    have := twN_len (n := x.toNat) (by omega)
    omega
  · simp
theorem trR_true {n : Nat} (h : trB (n : Int) = true) : trR (n : Int) = cs (twN n) := by unfold trR; rw [if_pos h]; rfl
theorem trR_false {x : Int} (h : trB x = false) : trR x = [] := by unfold trR; rw [h]; rfl

set_option maxRecDepth 100000 in
set_option maxHeartbeats 1000000 in
theorem specTree_any (x : Int) (w : World) : Calls Try.prog 65 #[.int .i64 x] w fun e w' =>
    ∃ A' c', e = .returned (.tuple #[.slice A' (trR x).length c', .bool (trB x)]) ∧ OwI w' w.heap.size (.slice A' (trR x).length c') (trR x) ∧ Below w.heap.size w w' := by
  cases hg : trB x with
  | false =>
    have HG := Lib.hid hg
    have E := Lib.hid (trR_false hg)
    clear hg
    go_enter Try.func65, Try.ntmps65
    go_wp2_with (go_at_call 85; refine (l1In_any _ _ _ _).mono ?_; rw [show inB x 1 400 = false from HG.out]; rintro e w' ⟨rfl, rfl⟩)
    go_ret2
    exact ⟨none, 0, by rw [E.out]; rfl, by rw [E.out]; exact OwI.nil _ _, Below.refl _ _⟩
  | true =>
    have ⟨h1, h2⟩ := trB_rng hg
    obtain ⟨n, rfl⟩ : ∃ n : Nat, x = n := ⟨x.toNat, by omega⟩
    have HM := Lib.hid (fun W => meTree_any n W (by omega) (by omega))
    have E := Lib.hid (trR_true hg)
    have HG := Lib.hid hg
    clear hg
    go_enter Try.func65, Try.ntmps65
    go_wp2_with (first | (go_at_call 85; refine (l1In_any _ _ _ _).mono ?_; rw [show inB (n : Int) 1 400 = true from HG.out]; rintro e w' ⟨rfl, rfl⟩) | (go_at_call 121; refine (HM.out _).mono ?_; rintro e w' ⟨A2, c2, rfl, ho2, hb2⟩))
    go_ret2
    exact ⟨A2, c2, by rw [E.out, cs_len]; rfl, by rw [E.out, cs_len]; exact ho2, hb2⟩

set_option maxRecDepth 100000 in
set_option maxHeartbeats 2000000 in
theorem treeEnd_any (g : Nat) (A : Option Addr) (c : Nat) (p : List Nat) (n : Nat) (w : World) (h1 : 1 ≤ p.length) (hl : p.length ≤ 40) (hg : w.cell? ⟨g, 0, none⟩ = some (.int .i64 (n : Int))) (hr : Rd w w.heap.size 1 A p.length ((cs p).map I)) :
    Calls Try.prog 123 #[.slice A p.length c, .pointer (some ⟨g, 0, none⟩)] w fun e w' => e = .returned (.bool (((lastN p : Nat) : Int) == (n : Int))) ∧ Below w.heap.size w w' := by
  have he := endOf_any w.heap.size A c (cs p) w.drew (by rw [cs_len]; exact h1) (by rw [cs_len]; omega) (by rw [cs_len]; exact hr.drew)
  rw [cs_getD, cs_len] at he
  have HEND := Lib.hid he
  have HG := Lib.hid hg
  clear hr hg he
  obtain ⟨y, hy⟩ : ∃ y : Int, ((lastN p : Nat) : Int) = y := ⟨_, rfl⟩
  have HEND := Lib.hid (show Calls Try.prog 117 #[.slice A p.length c] w.drew fun e w' => e = .returned (.int .i64 y) ∧ w' = w.drew by rw [← hy]; exact HEND.out)
  rw [hy]
  clear hy
  go_enter Try.func123, Try.ntmps123
  go_wp2
  have HS := Lib.hid (show (fun x : World => x.cell? ⟨g, 0, none⟩ = some (.int .i64 (n : Int))) w.drew from HG.out)
  refine wp_region_T (fun x : World => x.cell? ⟨g, 0, none⟩ = some (.int .i64 (n : Int))) [0, 2, 3, 4] [2] (.lp 0 (.ls 2 (.hv 1 (.lp 3 (.lp 4 (.done)))))) (by kernel_rfl) (by kernel_rfl) ?_
  (repeat (refine T_lp rfl (fun K hK => ?_); go_simp; refine hK _ ?_; clear hK K))
  refine T_ls1 (v := .int .i64 (n : Int)) rfl rfl HS.out (fun x hx => (by go_simp)) (fun K hK => ?_)
  (go_simp; refine hK _ ?_; clear hK K)
  refine T_hvS rfl (fun K hK => ?_)
  go_simp
  go_at_call 117
  refine HEND.out.mono ?_
  rintro e w2 ⟨rfl, rfl⟩
  go_simp
  refine hK _ _ HS.out ?_
  clear hK K
  (repeat (refine T_lp rfl (fun K hK => ?_); go_simp; refine hK _ ?_; clear hK K))
  (repeat (refine T_lp rfl (fun K hK => ?_); go_simp; refine hK _ ?_; clear hK K))
  refine T_done ?_
  go_wp2
  go_ret
  exact ⟨rfl, (Below.refl _ _).drew⟩

set_option maxRecDepth 100000 in
set_option maxHeartbeats 2000000 in
theorem treeIdx_any (B g : Nat) (A : Option Addr) (c : Nat) (f : Nat → Option Addr × Nat) (T : List (List Nat)) (n : Nat) (w : World) (hT : T.length ≤ 400) (hrow : ∀ i, i < T.length → 1 ≤ (T.getD i []).length ∧ (T.getD i []).length ≤ 40) (hhas : (T.all fun q => !(lastN q == n)) = false)
    (hgs : g < w.heap.size) (hg : w.cell? ⟨g, 0, none⟩ = some (.int .i64 (n : Int))) (hown : OwN w B A c f T) :
    Calls Try.prog 122 #[.slice A T.length c, .func (.func 123) #[] #[.pointer (some ⟨g, 0, none⟩)]] w fun e w' => (∃ i : Nat, i < T.length ∧ e = .returned (.int .i64 (i : Int)) ∧ lastN (T.getD i []) = n) ∧ Below w.heap.size w w' := by
  have OWN := Lib.hid hown
  have HG := Lib.hid hg
  have HROW := Lib.hid hrow
  have HHAS := Lib.hid hhas
  clear hown hg hrow hhas
  go_enter Try.func122, Try.ntmps122
  go_wp2
  go_loopw [8] (fun iv wr => ∃ j : Nat, j ≤ T.length ∧ iv = .int .i64 j ∧ (T.take j).all (fun q => !(lastN q == n)) = true ∧ Below w.heap.size w wr) (fun i _ => T.length - (intOf i).toNat)
  case atStart => exact ⟨0, by omega, rfl, rfl, Below.refl _ _⟩
  case round =>
    obtain ⟨j, hj, rfl, hno, hbel⟩ := hrel
    by_cases hlt : j < T.length
    · have iqk : (j : Int) < (T.length : Int) := by omega
      have ow := OWN.out.below hbel
      obtain ⟨b, rfl, hb, hc⟩ := ow.at_ hlt
      have hrd := ow.2 j hlt
      unfold OwI at hrd
      rw [cs_len] at hrd
      obtain ⟨r1, r40⟩ := HROW.out j hlt
      have hno2 : (T.take (j + 1)).all (fun q => !(lastN q == n)) = !(lastN (T.getD j []) == n) := by
        rw [List.take_succ_eq_append_getElem hlt, List.all_append, hno]
        simp [hlt]
      have HB := treeEnd_any g (f j).1 (f j).2 (T.getD j []) n wr r1 r40 ((hbel.cell (p := ⟨g, 0, none⟩) hgs).trans HG.out) (Rd.of_own hrd)
      obtain ⟨p, hp⟩ : ∃ p, T.getD j [] = p := ⟨_, rfl⟩
      have HP := Lib.hid hp
      rw [hp] at HB hno2 hc r1 r40
      obtain ⟨F, hF⟩ : ∃ F, f j = F := ⟨_, rfl⟩
      rw [hF] at HB hc
      have heq : (((lastN p : Nat) : Int) == (n : Int)) = (lastN p == n) := by
        rw [Bool.eq_iff_iff, beq_iff_eq, beq_iff_eq]
        omega
      rw [heq] at HB
      obtain ⟨t, ht⟩ : ∃ t, (lastN p == n) = t := ⟨_, rfl⟩
      rw [ht] at HB hno2
      have HB := Lib.hid HB
      have NO2 := Lib.hid hno2
      have HT := Lib.hid ht
      have BEL := Lib.hid hbel
      have hsz := hbel.size
      clear hno hno2 hp hF ht hbel heq hrd ow
      go_wp2_with fail
      refine HB.out.mono ?_
      rintro e w5 ⟨rfl, hb5⟩
      have BEL5 := Lib.hid (BEL.out.trans (hb5.mono hsz))
      clear hb5
      cases t with
      | true =>
        go_wp2
        go_ret
        refine ⟨⟨j, hlt, rfl, ?_⟩, BEL5.out⟩
        rw [HP.out]
        exact beq_iff_eq.1 HT.out
      | false =>
        go_wp2
        go_roundw
        case rel => exact ⟨j + 1, by omega, by go_num, NO2.out, BEL5.out⟩
        case measure => simp [intOf]; omega
    · have hj' : j = T.length := by omega
      subst hj'
      rw [List.take_length, HHAS.out] at hno
      cases hno

set_option maxRecDepth 100000 in
set_option maxHeartbeats 4000000 in
theorem implTree2_some (n : Nat) (w : World) (h1 : 1 ≤ n) (hn : n ≤ 400) : Calls Try.prog 66 #[.int .i64 (n : Int)] w fun e w' =>
    ∃ A' c', e = .returned (.tuple #[.slice A' (twN n).length c', .bool true]) ∧ OwI w' w.heap.size (.slice A' (twN n).length c') (cs (twN n)) ∧ Below w.heap.size w w' := by
  obtain ⟨hl, hrows⟩ := tree_facts (T := treeT) (List.prefix_refl _)
  have hhas := tree_has h1 hn
  have hTR := fun (i : Nat) (hi : i < treeT.length) => tree_row hi
  have hW := fun W => treeWays_any W
  obtain ⟨T, hT⟩ : ∃ T, treeT = T := ⟨_, rfl⟩
  rw [hT] at hl hrows hhas hTR
  have hW : ∀ W, Calls Try.prog 116 #[] W fun e w' => ∃ A c f, e = .returned (.slice A T.length c) ∧ OwN w' W.heap.size A c f T ∧ Below W.heap.size W w' := by
    intro W
    rw [← hT]
    exact hW W
  have HW := Lib.hid hW
  have HTR := Lib.hid hTR
  have HROW := Lib.hid (fun i hi => (⟨(hrows i hi).1, (hrows i hi).2.1⟩ : 1 ≤ (T.getD i []).length ∧ (T.getD i []).length ≤ 40))
  have HHAS := Lib.hid hhas
  have i1 : ¬ (n : Int) < 1 := by omega
  have i2 : ¬ (400 : Int) < (n : Int) := by omega
  clear hW hTR hrows hhas hT
  go_enter Try.func66, Try.ntmps66
  go_wp2_with fail
  go_at_call 116
  generalize hw1 : World.alloc w _ = w1
  have x0 : w1.cell? ⟨w.heap.size, 0, none⟩ = some (.int .i64 (n : Int)) := by rw [← hw1, World.cell?_alloc_at _ _ _ _ rfl]; rfl
  have xs : w1.heap.size = w.heap.size + 1 := by rw [← hw1]; simp
  have xb : Below w.heap.size w w1 := by rw [← hw1]; exact (Below.refl _ _).alloc (Nat.le_refl _) _
  clear hw1
  have HB1 := Lib.hid xb
  clear xb
  refine (HW.out w1).mono ?_
  rintro e w2 ⟨A, c, f, rfl, hown, hb2⟩
  have OWN := Lib.hid hown
  have x0 := (hb2.cell (p := ⟨w.heap.size, 0, none⟩) (by simp only []; omega)).trans x0
  have HB2 := Lib.hid (HB1.out.trans (hb2.mono (by omega)))
  have hs2 := hb2.size
  clear hown hb2
  go_wp2_with fail
  go_at_call 122
  refine (treeIdx_any w1.heap.size w.heap.size A c f T n w2 hl HROW.out HHAS.out (by omega) x0 OWN.out).mono ?_
  rintro e w3 ⟨⟨i, hi, rfl, hla⟩, hb3⟩
  have ow := OWN.out.below hb3
  obtain ⟨b, rfl, hb, hc⟩ := ow.at_ hi
  have hrow := ow.2 i hi
  obtain ⟨htw, _⟩ := HTR.out i hi
  rw [hla] at htw
  rw [htw] at hc hrow
  have HR := Lib.hid hrow
  have HB3 := Lib.hid (HB2.out.trans (hb3.mono (by omega)))
  have ii : (i : Int) < (T.length : Int) := by omega
  obtain ⟨F, hF⟩ : ∃ F, f i = F := ⟨_, rfl⟩
  rw [hF] at hc HR
  clear hb3 ow hrow hla htw hF x0
  go_wp2
  go_ret2
  exact ⟨F.1, F.2, rfl, own_base HR.out (by omega), HB3.out⟩

set_option maxRecDepth 100000 in
set_option maxHeartbeats 1000000 in
theorem implTree2_any (x : Int) (w : World) : Calls Try.prog 66 #[.int .i64 x] w fun e w' =>
    ∃ A' c', e = .returned (.tuple #[.slice A' (trR x).length c', .bool (trB x)]) ∧ OwI w' w.heap.size (.slice A' (trR x).length c') (trR x) ∧ Below w.heap.size w w' := by
  cases hg : trB x with
  | false =>
    have E := Lib.hid (trR_false hg)
    have hb : x < 1 ∨ 400 < x := by
      by_cases h1 : x < 1
      · exact .inl h1
      · refine .inr ?_
        by_cases h2 : 400 < x
        · exact h2
        · have : trB x = true := by unfold trB inB; simp; omega
          rw [this] at hg
          cases hg
    clear hg
    by_cases h1 : x < 1
    · go_enter Try.func66, Try.ntmps66
      go_wp2
      go_ret2
      exact ⟨none, 0, by rw [E.out]; rfl, by rw [E.out]; exact OwI.nil _ _, (Below.refl _ _).alloc (Nat.le_refl _) _⟩
    · have h2 : 400 < x := by omega
      clear hb
      go_enter Try.func66, Try.ntmps66
      go_wp2
      go_ret2
      exact ⟨none, 0, by rw [E.out]; rfl, by rw [E.out]; exact OwI.nil _ _, (Below.refl _ _).alloc (Nat.le_refl _) _⟩
  | true =>
    have ⟨h1, h2⟩ := trB_rng hg
    obtain ⟨n, rfl⟩ : ∃ n : Nat, x = n := ⟨x.toNat, by omega⟩
    have E := trR_true hg
    refine (implTree2_some n w (by omega) (by omega)).mono ?_
    rintro e w' ⟨A2, c2, rfl, ho, hb⟩
    exact ⟨A2, c2, by rw [E, cs_len], by rw [E, cs_len]; exact ho, hb⟩
end Go.Proofs.Ytbbjgcagkmlngab
/- Paths in the model's tree, as data. -/
namespace Go.Proofs.Ytbbjgcagkmlngab
open Go.RowKit

def lvpOk (k : Nat) (st : List (List Nat) × List Int) (T : List (List Nat)) : Bool := decide (st.1.length ≤ 500) && decide (st.2.length ≤ 500) && (st.1.all fun p => (p.length == k + 1) && p.all fun a => decide (a ≤ 1024)) && st.1.all fun p => decide (100 < lastN p) || T.contains p
def lvpsOk (T : List (List Nat)) : Nat → Nat → (List (List Nat) × List Int) → Bool
  | 0, _, _ => true
  | f + 1, k, st => lvpOk k st T && lvpsOk T f (k + 1) (growD st)
def endsUp : Nat → (List (List Nat) × List Int) → List Nat
  | 0, _ => []
  | f + 1, st => st.1.map lastN ++ endsUp f (growD st)
theorem lvps_ok : lvpsOk tL14 10 0 (grK 0) = true := by decide +kernel
theorem endsUp_ok : ((List.range 100).all fun n => (endsUp 10 (grK 0)).contains (n + 1)) = true := by decide +kernel
theorem lvps_all {T : List (List Nat)} : ∀ (f k : Nat), lvpsOk T f k (grK k) = true → ∀ d, d < f → lvpOk (k + d) (grK (k + d)) T = true := by
  intro f
  induction f with
  | zero => intro k _ d hd; omega
  | succ f ih =>
    intro k h d hd
    unfold lvpsOk at h
    rw [Bool.and_eq_true] at h
    rcases Nat.eq_zero_or_pos d with rfl | hp
    · exact h.1
    · have := ih (k + 1) h.2 (d - 1) (by omega)
      rw [show k + 1 + (d - 1) = k + d by omega] at this
      exact this
theorem endsUp_at {n : Nat} : ∀ (f k : Nat), n ∈ endsUp f (grK k) → ∃ d, d < f ∧ n ∈ (grK (k + d)).1.map lastN := by
  intro f
  induction f with
  | zero => intro k h; cases h
  | succ f ih =>
    intro k h
    unfold endsUp at h
    rw [List.mem_append] at h
    rcases h with h | h
    · exact ⟨0, by omega, h⟩
    · obtain ⟨d, hd, h2⟩ := ih (k + 1) h
      exact ⟨d + 1, by omega, by rw [show k + (d + 1) = k + 1 + d by omega]; exact h2⟩
structure PthF (k : Nat) (st : List (List Nat) × List Int) : Prop where
  l5 : st.1.length ≤ 500
  a5 : st.2.length ≤ 500
  rows : ∀ i, i < st.1.length → (st.1.getD i []).length = k + 1 ∧ ∀ j, j < (st.1.getD i []).length → (st.1.getD i []).getD j 0 ≤ 1024
  way : ∀ i, i < st.1.length → lastN (st.1.getD i []) ≤ 100 → st.1.getD i [] = twN (lastN (st.1.getD i []))
theorem pth_of {T : List (List Nat)} (hT : ∀ j, j < T.length → T.getD j [] = twN (lastN (T.getD j []))) {k : Nat} {st : List (List Nat) × List Int} (h : lvpOk k st T = true) : PthF k st := by
  unfold lvpOk at h
  simp only [Bool.and_eq_true, decide_eq_true_eq] at h
  obtain ⟨⟨⟨a, b⟩, c⟩, d⟩ := h
  refine ⟨a, b, fun i hi => ?_, fun i hi hl => ?_⟩
  · have e : st.1.getD i [] = st.1[i] := by simp [hi]
    have hc := List.all_eq_true.1 c _ (List.getElem_mem hi)
    rw [Bool.and_eq_true, beq_iff_eq, List.all_eq_true] at hc
    rw [e]
    refine ⟨hc.1, fun j hj => ?_⟩
    have e2 : (st.1[i]).getD j 0 = (st.1[i])[j] := by simp [hj]
    have := hc.2 _ (List.getElem_mem hj)
    rw [decide_eq_true_eq] at this
    rw [e2]
    exact this
  · have e : st.1.getD i [] = st.1[i] := by simp [hi]
    have hd := List.all_eq_true.1 d _ (List.getElem_mem hi)
    rw [Bool.or_eq_true, decide_eq_true_eq] at hd
    rw [e] at hl ⊢
    rcases hd with hd | hd
    · omega
    · rw [List.contains_iff_mem] at hd
      obtain ⟨j, hj, ej⟩ := List.mem_iff_getElem.1 hd
      have := hT j hj
      have e3 : T.getD j [] = T[j] := by simp [hj]
      rw [e3, ej] at this
      exact this
theorem pth_ok {k : Nat} (hk : k ≤ 9) : lvpOk k (grK k) tL14 = true := by
  have h := lvps_all 10 0 lvps_ok k (by omega)
  rw [Nat.zero_add] at h
  exact h
theorem row_ok : ∀ j, j < tL14.length → tL14.getD j [] = twN (lastN (tL14.getD j [])) := by
  rw [← treeT_eq]
  exact fun j hj => (tree_row hj).1
theorem pth_facts {k : Nat} (hk : k ≤ 9) : PthF k (grK k) := pth_of row_ok (pth_ok hk)
theorem pth_has {n : Nat} (h1 : 1 ≤ n) (hn : n ≤ 100) : ∃ d, d ≤ 9 ∧ n ∈ (grK d).1.map lastN := by
  have h := List.all_eq_true.1 endsUp_ok (n - 1) (by simp; omega)
  rw [show n - 1 + 1 = n by omega, List.contains_iff_mem] at h
  obtain ⟨d, hd, h2⟩ := endsUp_at 10 0 h
  rw [Nat.zero_add] at h2
  exact ⟨d, by omega, h2⟩
end Go.Proofs.Ytbbjgcagkmlngab
/- The path to a number, by the model and by the program. -/
namespace Go.Proofs.Ytbbjgcagkmlngab
open Go.RowKit

set_option maxRecDepth 100000 in
set_option maxHeartbeats 8000000 in
theorem shPath_any (n : Nat) (w : World) (h1 : 1 ≤ n) (hn : n ≤ 100) : Calls Try.prog 119 #[.int .i64 (n : Int)] w fun e w' =>
    ∃ A' c', e = .returned (.slice A' (twN n).length c') ∧ OwI w' w.heap.size (.slice A' (twN n).length c') (cs (twN n)) ∧ Below w.heap.size w w' := by
  obtain ⟨D, hD9, hDn⟩ := pth_has h1 hn
  have HD := Lib.hid hDn
  have LF := Lib.hid (fun k (hk : k ≤ 9) => pth_facts hk)
  have RT := Lib.hid (fun W => shRoot_any W)
  clear hDn
  go_enter Try.func119, Try.ntmps119
  go_wp2_with fail
  go_at_call 114
  refine (RT.out w).mono ?_
  rintro e w2 ⟨L0, c0, f0, A0, d0, rfl, hr0, ha0, hb2⟩
  have HR0 := Lib.hid hr0
  have HA0 := Lib.hid ha0
  have HB2 := Lib.hid hb2
  clear hr0 ha0 hb2
  go_wp2
  generalize hw3 : World.alloc w2 _ = w3
  have q0 : w3.heap[w2.heap.size]? = some (.cells #[.slice L0 (grK 0).1.length c0, .slice A0 (grK 0).2.length d0] 143 (0, 0)) := by rw [← hw3]; exact heap_alloc_newG rfl _
  have hb3 : Below w2.heap.size w2 w3 := by rw [← hw3]; exact (Below.refl _ _).alloc (Nat.le_refl _) _
  have hb3' : Below w.heap.size w w3 := HB2.out.trans (hb3.mono HB2.out.size)
  have hr3 : OwN w3 w.heap.size L0 c0 f0 (grK 0).1 := HR0.out.below hb3
  have ha3 : Rd w3 w3.heap.size 1 A0 (grK 0).2.length ((grK 0).2.map I) := Rd.of_own (own_below (show World.ownsRow _ _ _ _ _ _ _ from HA0.out) hb3)
  have hc3 : (grK 0).2.length ≤ d0 := own_capG (show World.ownsRow _ _ _ _ _ _ _ from HA0.out)
  have hsX : w.heap.size ≤ w2.heap.size := HB2.out.size
  have HQ0 := Lib.hid (And.intro q0 (And.intro hr3 (And.intro ha3 (And.intro hc3 (And.intro hb3' hsX)))))
  clear hw3 q0 hb3 hb3' hr3 ha3 hc3 HR0 HA0
  go_loopg [3] 10 (fun gk v3 wr => ∃ (k : Nat) (L : Option Addr) (cL : Nat) (f : Nat → Option Addr × Nat) (Aa : Option Addr) (ca bX : Nat), v3 = .pointer (some ⟨bX, 0, none⟩) ∧ 10 ≤ gk + k ∧ k ≤ D ∧ w.heap.size ≤ bX ∧
    Aside (wr.heap[bX]? = some (.cells #[.slice L (grK k).1.length cL, .slice Aa (grK k).2.length ca] 143 (0, 0)) ∧ OwN wr w.heap.size L cL f (grK k).1 ∧ Rd wr wr.heap.size 1 Aa (grK k).2.length ((grK k).2.map I) ∧ (grK k).2.length ≤ ca ∧ Below w.heap.size w wr))
  case atStart => exact ⟨0, L0, c0, f0, A0, d0, w2.heap.size, rfl, by omega, by omega, hsX, HQ0.out.1, HQ0.out.2.1, HQ0.out.2.2.1, HQ0.out.2.2.2.1, HQ0.out.2.2.2.2.1⟩
  case round =>
    obtain ⟨k, L, cL, f, Aa, ca, bX, rfl, hgk, hkD, hwX, AS⟩ := hrel
    obtain ⟨hx, hrows, hall, hcap, hbel⟩ := AS
    have x0 : wr.cell? ⟨bX, 0, none⟩ = some (.slice L (grK k).1.length cL) := by rw [cell_of_row wr bX 0 _ _ (0, 0) hx]; rfl
    have x1 : wr.cell? ⟨bX, 1, none⟩ = some (.slice Aa (grK k).2.length ca) := by rw [cell_of_row wr bX 1 _ _ (0, 0) hx]; rfl
    have fk := LF.out k (by omega)
    have hTR := fk.rows
    have hTW := fk.way
    have hT5 := fk.l5
    have HKD := Lib.hid (show k = D → n ∈ (grK k).1.map lastN from fun e => by rw [e]; exact HD.out)
    have hkd := HKD.out
    have GR := fun (hk9 : k + 1 ≤ 9) (W : World) (hb : Below wr.heap.size wr W) => by
      have fk1 := LF.out (k + 1) hk9
      exact grow_any w.heap.size L cL f (grK k).1 Aa ca (grK k).2 W (grK (k + 1)).1 (grK (k + 1)).2 rfl fk1.l5 fk1.a5 fk.l5 (fun i hi => ⟨by have := (fk.rows i hi).1; omega, by have := (fk.rows i hi).1; omega, (fk.rows i hi).2⟩) (grK_asc k) hcap (hrows.below hb) ((hall.below' hb (Nat.le_refl _)).more hb.size)
    obtain ⟨T, hT⟩ : ∃ T, (grK k).1 = T := ⟨_, rfl⟩
    obtain ⟨l, hl⟩ : ∃ l, (grK k).2 = l := ⟨_, rfl⟩
    rw [hT] at hTR hTW hT5 hkd x0 hrows
    rw [hl] at x1
    rw [hT, hl] at GR
    have HTR := Lib.hid hTR
    have HTW := Lib.hid hTW
    have HKD := Lib.hid hkd
    have GR := Lib.hid GR
    have HROWS := Lib.hid hrows
    have BEL := Lib.hid hbel
    have HG := Lib.hid hgk
    have hXlt : bX < wr.heap.size := (Array.getElem?_eq_some_iff.1 hx).1
    have hsz := hbel.size
    obtain ⟨wz, hwz⟩ : ∃ wz, wz = wr := ⟨_, rfl⟩
    subst hwz
    clear fk hTR hTW hkd hx hrows hall hcap hbel hT hl hgk
    go_wp2
    go_loopw [12] (fun iv wr => ∃ i : Nat, i ≤ T.length ∧ iv = .int .i64 i ∧ (∀ q ∈ T.take i, lastN q ≠ n) ∧ wz = wr) (fun i _ => T.length - (intOf i).toNat)
    case atStart => exact ⟨0, by omega, rfl, fun q hq => by simp at hq, rfl⟩
    case round =>
      obtain ⟨i, hi, rfl, hno, rfl⟩ := hrel
      have NO := Lib.hid hno
      clear hno
      by_cases hit : i < T.length
      · have iqi : (i : Int) < (T.length : Int) := by omega
        obtain ⟨gA, rfl, hgB, hcell⟩ := HROWS.out.at_ hit
        have hrw := HROWS.out.2 i hit
        unfold OwI at hrw
        rw [cs_len] at hrw
        obtain ⟨hpl, _⟩ := HTR.out i hit
        have hway := HTW.out i hit
        have hge : T.getD i [] = T[i] := by simp [hit]
        have htk : T.take (i + 1) = T.take i ++ [T.getD i []] := by rw [List.take_succ_eq_append_getElem hit, hge]
        obtain ⟨p, hp⟩ : ∃ p, T.getD i [] = p := ⟨_, rfl⟩
        obtain ⟨⟨F1, F2⟩, hF⟩ : ∃ F, f i = F := ⟨_, rfl⟩
        rw [hp] at hpl hway htk
        rw [hF, hp] at hcell hrw
        simp only at hcell hrw
        have HRW := Lib.hid hrw
        have rdw : Rd wz wz.heap.size 1 F1 (cs p).length ((cs p).map I) := by rw [cs_len]; exact Rd.of_own hrw
        obtain ⟨gr, off, rfl, hgr, hcs⟩ := rdw.cells (by rw [cs_len]; omega)
        have hl1 := hcs k (by rw [cs_len]; omega)
        rw [cs_getD] at hl1
        obtain ⟨lp, hlp⟩ : ∃ lp, lastN p = lp := ⟨_, rfl⟩
        have hlN : p.getD k 0 = lp := by rw [← hlp]; unfold lastN; rw [show p.length - 1 = k by omega]
        rw [hlN] at hl1
        rw [hlp] at hway
        have hsub : IntKind.i64.wrap ((p.length : Int) - 1) = (k : Int) := by rw [IntWalk.i64_in _ (by omega)]; omega
        have i1 : (k : Int) < (p.length : Int) := by omega
        have HWAY := Lib.hid hway
        have HTK := Lib.hid htk
        have HLP := Lib.hid hlp
        clear hrw rdw hcs hpl hlN hlp hF hp hway hge htk
        by_cases he : lp = n
        · subst he
          have ibe : ((lp : Int) == (lp : Int)) = true := by simp
          have HPW := Lib.hid (HWAY.out hn)
          go_wp2
          go_ret
          have e := HPW.out
          have hr := HRW.out
          rw [← e]
          exact ⟨some ⟨gr, off, none⟩, F2, rfl, by show World.ownsRow _ _ _ _ _ _ _; rw [cs_len]; exact hr, BEL.out⟩
        · have ibe : ((lp : Int) == (n : Int)) = false := by rw [beq_eq_false_iff_ne]; omega
          go_wp2
          go_roundw
          case rel => exact ⟨i + 1, by omega, by go_num, fun q hq => by
            rw [HTK.out, List.mem_append, List.mem_singleton] at hq
            rcases hq with hq | rfl
            · exact NO.out q hq
            · rw [HLP.out]; exact he, trivial⟩
          case measure => simp [intOf]; omega
      · have hi' : i = T.length := by omega
        subst hi'
        have hkD' : k ≠ D := fun e => by
          obtain ⟨q, hq, eq⟩ := List.mem_map.1 (HKD.out e)
          exact NO.out q (by rw [List.take_length]; exact hq) eq
        have hk9 : k + 1 ≤ 9 := by omega
        have gr := GR.out hk9
        obtain ⟨T1, hT1⟩ : ∃ T, (grK (k + 1)).1 = T := ⟨_, rfl⟩
        obtain ⟨l1, hl1⟩ : ∃ l, (grK (k + 1)).2 = l := ⟨_, rfl⟩
        rw [hT1, hl1] at gr
        have GR2 := Lib.hid gr
        have HT1 := Lib.hid hT1
        have HL1 := Lib.hid hl1
        clear gr hT1 hl1
        go_wp2_with fail
        go_at_call 115
        generalize hw4 : World.alloc wz _ = w4
        have q4 : w4.heap[wz.heap.size]? = some (.cells #[.slice L T.length cL, .slice Aa l.length ca] 143 (0, 0)) := by rw [← hw4]; exact heap_alloc_newG rfl _
        have hb4 : Below wz.heap.size wz w4 := by rw [← hw4]; exact (Below.refl _ _).alloc (Nat.le_refl _) _
        have hs4 : w4.heap.size = wz.heap.size + 1 := by rw [← hw4]; simp
        clear hw4
        refine (GR2.out w4 hb4).mono ?_
        rintro e w6 ⟨L1, d1, f1, A1, e1, rfl, hr1, ha1, hb6⟩
        have hx6 := (hb6.block wz.heap.size (by omega)).trans q4
        have y0 : w6.cell? ⟨wz.heap.size, 0, none⟩ = some (.slice L T.length cL) := by rw [cell_of_row w6 wz.heap.size 0 _ _ (0, 0) hx6]; rfl
        have y1 : w6.cell? ⟨wz.heap.size, 1, none⟩ = some (.slice Aa l.length ca) := by rw [cell_of_row w6 wz.heap.size 1 _ _ (0, 0) hx6]; rfl
        have g0 : w6.frozen? ⟨wz.heap.size, 0, none⟩ = false := frozen_of_row w6 wz.heap.size 0 _ _ hx6
        have g1 : w6.frozen? ⟨wz.heap.size, 1, none⟩ = false := frozen_of_row w6 wz.heap.size 1 _ _ hx6
        have HX6 := Lib.hid hx6
        have HR1 := Lib.hid hr1
        have HA1 := Lib.hid ha1
        have HB6 := Lib.hid hb6
        have HB4 := Lib.hid hb4
        clear hr1 ha1 hb6 hx6 x0 x1 q4 hb4
        go_wp2
        go_roundg (9 - k)
        case measure => have := HG.out; omega
        case rel =>
          have k1 := heap_setCell_same w6 wz.heap.size 0 _ _ (.slice L1 T1.length d1) HX6.out
          have k2 := heap_setCell_same _ wz.heap.size 1 _ _ (.slice A1 l1.length e1) k1
          have hs6 := HB6.out.size
          refine ⟨k + 1, L1, d1, f1, A1, e1, wz.heap.size, rfl, by omega, by omega, hsz, ?_, ?_, ?_, ?_, ?_⟩
          · rw [HT1.out, HL1.out]; exact k2
          · rw [HT1.out]
            have r := (HR1.out.setO HX6.out (by decide) (by decide) (o := 0) (.slice L1 T1.length d1)).setO k1 (by decide) (by decide) (o := 1) (.slice A1 l1.length e1)
            exact ⟨own_base r.1 (by omega), fun i hi => own_base (show World.ownsRow _ _ _ _ _ _ _ from r.2 i hi) (by omega)⟩
          · rw [HL1.out]
            have r0 := HA1.out.rd hs6
            have r1 := rd_setX (o := 0) r0 rfl HX6.out (.slice L1 T1.length d1)
            have r2 := rd_setX (o := 1) r1 rfl k1 (.slice A1 l1.length e1)
            simpa using r2
          · rw [HL1.out]; exact HA1.out.1
          · exact (((BEL.out.trans (HB4.out.mono hsz)).trans (HB6.out.mono (by omega))).setCell hsz _).setCell hsz _
end Go.Proofs.Ytbbjgcagkmlngab
/- TreePath and TreeParent, of both sides. -/
namespace Go.Proofs.Ytbbjgcagkmlngab
open Go.RowKit

def ptB (x : Int) : Bool := inB x 1 100
def ptR (x : Int) : List Int := if ptB x then cs (twN x.toNat) else []
theorem ptB_rng {x : Int} (h : ptB x = true) : 1 ≤ x ∧ x ≤ 100 := by simpa [ptB, inB] using h
theorem ptB_no {x : Int} (h : ptB x = false) : x < 1 ∨ 100 < x := by
  by_cases h1 : x < 1
  · exact .inl h1
  · refine .inr ?_
    by_cases h2 : 100 < x
    · exact h2
    · have : ptB x = true := by unfold ptB inB; simp; omega
      rw [this] at h
      cases h
theorem ptR_le (x : Int) : (ptR x).length ≤ 1000 := by
  unfold ptR
  split
  · rename_i h
    have ⟨h1, h2⟩ := ptB_rng h
    rw [cs_len]
    have := twN_len (n := x.toNat) (by omega)
    omega
  · simp
theorem ptR_true {n : Nat} (h : ptB (n : Int) = true) : ptR (n : Int) = cs (twN n) := by unfold ptR; rw [if_pos h]; rfl
theorem ptR_false {x : Int} (h : ptB x = false) : ptR x = [] := by unfold ptR; rw [h]; rfl
theorem last_of {T : List (List Nat)} (hT : ∀ j, j < T.length → T.getD j [] = twN (lastN (T.getD j []))) {n : Nat} (h : (T.all fun q => !(lastN q == n)) = false) : lastN (twN n) = n := by
  rw [List.all_eq_false] at h
  obtain ⟨q, hq, he⟩ := h
  obtain ⟨i, hi, rfl⟩ := List.mem_iff_getElem.1 hq
  have hl : lastN T[i] = n := by simpa using he
  have e : T.getD i [] = T[i] := by rw [List.getD_eq_getElem?_getD, List.getElem?_eq_getElem hi]; rfl
  have := hT i hi
  rw [e, hl] at this
  rw [← this, hl]
theorem has_ok {n : Nat} (h1 : 1 ≤ n) (hn : n ≤ 400) : (tL14.all fun q => !(lastN q == n)) = false := by
  rw [← treeT_eq]
  exact tree_has h1 hn
theorem tw_last {n : Nat} (h1 : 1 ≤ n) (hn : n ≤ 400) : lastN (twN n) = n := last_of row_ok (has_ok h1 hn)
theorem tw_two {n : Nat} (h2 : 2 ≤ n) (hn : n ≤ 400) : 2 ≤ (twN n).length := by
  have hl := tw_last (by omega) hn
  have I := tR_inv (C := n) (by omega) n
  have hw : (tR n n).W n = twN n := rfl
  obtain ⟨l, hL⟩ : ∃ l, twN n = l := ⟨_, rfl⟩
  rw [hL] at hw hl ⊢
  match l, hw, hl with
  | [], _, hl => simp [lastN] at hl; omega
  | [a], hw, hl =>
    have ha : a = n := by simpa [lastN] using hl
    have := I.hd n (by rw [hw]; simp)
    rw [hw] at this
    simp at this
    omega
  | a :: b :: l, _, _ => simp
def paG (x : Int) : Bool := inB x 2 100
def paV (x : Int) : Int := if paG x then (((twN x.toNat).getD ((twN x.toNat).length - 2) 0 : Nat) : Int) else 0

set_option maxRecDepth 100000 in
theorem shNumber_any (x : Int) (w : World) : Calls Try.prog 118 #[.int .i64 x] w fun e w' => e = .returned (.bool (ptB x)) ∧ w = w' := by
  go_enter Try.func118, Try.ntmps118
  go_wp2_with (go_at_call 85; refine (l1In_any _ _ _ _).mono ?_; rintro e w' ⟨rfl, rfl⟩)
  go_ret
  exact ⟨rfl, rfl⟩
set_option maxRecDepth 100000 in
theorem isShort_any (x : Int) (w : World) : Calls Try.prog 120 #[.int .i64 x] w fun e w' => e = .returned (.bool (ptB x)) ∧ w = w' := by
  by_cases h1 : (1 : Int) ≤ x
  · by_cases h2 : x ≤ 100
    · have E := Lib.hid (show ptB x = true by unfold ptB inB; simp; omega)
      go_enter Try.func120, Try.ntmps120
      go_wp2
      go_ret
      exact ⟨by rw [E.out]; rfl, rfl⟩
    · have E := Lib.hid (show ptB x = false by unfold ptB inB; simp; omega)
      go_enter Try.func120, Try.ntmps120
      go_wp2
      go_ret
      exact ⟨by rw [E.out]; rfl, rfl⟩
  · have E := Lib.hid (show ptB x = false by unfold ptB inB; simp; omega)
    go_enter Try.func120, Try.ntmps120
    go_wp2
    go_ret
    exact ⟨by rw [E.out]; rfl, rfl⟩

set_option maxRecDepth 100000 in
set_option maxHeartbeats 1000000 in
theorem specTreePath_any (x : Int) (w : World) : Calls Try.prog 61 #[.int .i64 x] w fun e w' =>
    ∃ A' c', e = .returned (.tuple #[.slice A' (ptR x).length c', .bool (ptB x)]) ∧ OwI w' w.heap.size (.slice A' (ptR x).length c') (ptR x) ∧ Below w.heap.size w w' := by
  have SN := shNumber_any x w
  cases hg : ptB x with
  | false =>
    rw [hg] at SN
    have SN := Lib.hid SN
    have E := Lib.hid (ptR_false hg)
    clear hg
    go_enter Try.func61, Try.ntmps61
    go_wp2_with (go_at_call 118; refine SN.out.mono ?_; rintro e w' ⟨rfl, rfl⟩)
    go_ret2
    exact ⟨none, 0, by rw [E.out]; rfl, by rw [E.out]; exact OwI.nil _ _, Below.refl _ _⟩
  | true =>
    rw [hg] at SN
    have SN := Lib.hid SN
    have ⟨h1, h2⟩ := ptB_rng hg
    obtain ⟨n, rfl⟩ : ∃ n : Nat, x = n := ⟨x.toNat, by omega⟩
    have HM := Lib.hid (fun W => shPath_any n W (by omega) (by omega))
    have E := Lib.hid (ptR_true hg)
    clear hg
    go_enter Try.func61, Try.ntmps61
    go_wp2_with (first | (go_at_call 118; refine SN.out.mono ?_; rintro e w' ⟨rfl, rfl⟩) | (go_at_call 119; refine (HM.out _).mono ?_; rintro e w' ⟨A2, c2, rfl, ho2, hb2⟩))
    go_ret2
    exact ⟨A2, c2, by rw [E.out, cs_len]; rfl, by rw [E.out, cs_len]; exact ho2, hb2⟩
set_option maxRecDepth 100000 in
set_option maxHeartbeats 1000000 in
theorem implTreePath_any (x : Int) (w : World) : Calls Try.prog 62 #[.int .i64 x] w fun e w' =>
    ∃ A' c', e = .returned (.tuple #[.slice A' (ptR x).length c', .bool (ptB x)]) ∧ OwI w' w.heap.size (.slice A' (ptR x).length c') (ptR x) ∧ Below w.heap.size w w' := by
  have SN := isShort_any x w
  cases hg : ptB x with
  | false =>
    rw [hg] at SN
    have SN := Lib.hid SN
    have E := Lib.hid (ptR_false hg)
    clear hg
    go_enter Try.func62, Try.ntmps62
    go_wp2_with (go_at_call 120; refine SN.out.mono ?_; rintro e w' ⟨rfl, rfl⟩)
    go_ret2
    exact ⟨none, 0, by rw [E.out]; rfl, by rw [E.out]; exact OwI.nil _ _, Below.refl _ _⟩
  | true =>
    rw [hg] at SN
    have SN := Lib.hid SN
    have ⟨h1, h2⟩ := ptB_rng hg
    obtain ⟨n, rfl⟩ : ∃ n : Nat, x = n := ⟨x.toNat, by omega⟩
    have HM := Lib.hid (fun W => implTree2_some n W (by omega) (by omega))
    have E := Lib.hid (ptR_true hg)
    clear hg
    go_enter Try.func62, Try.ntmps62
    go_wp2_with (first | (go_at_call 120; refine SN.out.mono ?_; rintro e w' ⟨rfl, rfl⟩) | (go_at_call 66; refine (HM.out _).mono ?_; rintro e w' ⟨A2, c2, rfl, ho2, hb2⟩))
    go_ret2
    exact ⟨A2, c2, by rw [E.out, cs_len]; rfl, by rw [E.out, cs_len]; exact ho2, hb2⟩
set_option maxRecDepth 100000 in
set_option maxHeartbeats 2000000 in
theorem specTreeParent_any (_B : Nat) (x : Int) (w : World) (_hB : _B ≤ w.heap.size) : Calls Try.prog 63 #[.int .i64 x] w fun e w' => e = .returned (.tuple #[.int .i64 (paV x), .bool (paG x)]) ∧ Below w.heap.size w w' := by
  have SN := shNumber_any x w
  cases hg : ptB x with
  | false =>
    rw [hg] at SN
    have SN := Lib.hid SN
    have hno : paG x = false := by have := ptB_no hg; unfold paG inB; simp; omega
    have E := Lib.hid (And.intro hno (show paV x = 0 by unfold paV; rw [hno]; rfl))
    clear hg hno
    go_enter Try.func63, Try.ntmps63
    go_wp2_with (go_at_call 118; refine SN.out.mono ?_; rintro e w' ⟨rfl, rfl⟩)
    go_ret2
    exact ⟨by rw [E.out.1, E.out.2]; rfl, Below.refl _ _⟩
  | true =>
    rw [hg] at SN
    have SN := Lib.hid SN
    have ⟨h1, h2⟩ := ptB_rng hg
    obtain ⟨n, rfl⟩ : ∃ n : Nat, x = n := ⟨x.toNat, by omega⟩
    clear hg
    by_cases he : n = 1
    · subst he
      have E := Lib.hid (show paG ((1 : Nat) : Int) = false ∧ paV ((1 : Nat) : Int) = 0 from ⟨by decide, by unfold paV; rw [show paG ((1 : Nat) : Int) = false by decide]; rfl⟩)
      go_enter Try.func63, Try.ntmps63
      go_wp2_with (go_at_call 118; refine SN.out.mono ?_; rintro e w' ⟨rfl, rfl⟩)
      go_ret2
      exact ⟨by rw [E.out.1, E.out.2]; rfl, Below.refl _ _⟩
    · have ine : ((n : Int) == 1) = false := by rw [beq_eq_false_iff_ne]; omega
      have hyes : paG (n : Int) = true := by unfold paG inB; simp; omega
      have hV : paV (n : Int) = (((twN n).getD ((twN n).length - 2) 0 : Nat) : Int) := by unfold paV; rw [if_pos hyes]; rfl
      have htwo := tw_two (n := n) (by omega) (by omega)
      have hlen := twN_len (n := n) (by omega)
      have HM := fun W => shPath_any n W (by omega) (by omega)
      obtain ⟨p, hp⟩ : ∃ p, twN n = p := ⟨_, rfl⟩
      rw [hp] at hV htwo hlen
      have HM := Lib.hid (show ∀ W, Calls Try.prog 119 #[.int .i64 (n : Int)] W fun e w' => ∃ A' c', e = .returned (.slice A' p.length c') ∧ OwI w' W.heap.size (.slice A' p.length c') (cs p) ∧ Below W.heap.size W w' from fun W => by rw [← hp]; exact HM W)
      obtain ⟨k, hk⟩ : ∃ k, k = p.length - 2 := ⟨_, rfl⟩
      rw [← hk] at hV
      have hsub : IntKind.i64.wrap ((p.length : Int) - 2) = (k : Int) := by rw [IntWalk.i64_in _ (by omega)]; omega
      have ik : (k : Int) < (p.length : Int) := by omega
      have hkl : k < p.length := by omega
      obtain ⟨y, hy⟩ : ∃ y, p.getD k 0 = y := ⟨_, rfl⟩
      rw [hy] at hV
      have HY := Lib.hid hy
      have E := Lib.hid (And.intro hyes hV)
      clear hyes hV hp hk hy
      go_enter Try.func63, Try.ntmps63
      go_wp2_with fail
      go_at_call 118
      refine SN.out.mono ?_
      rintro e w1 ⟨rfl, rfl⟩
      go_wp2_with fail
      go_at_call 119
      refine (HM.out w).mono ?_
      rintro e w2 ⟨A2, c2, rfl, ho2, hb2⟩
      have HB2 := Lib.hid hb2
      obtain ⟨gr, rfl, _, _, hcs⟩ := own_cells ho2 (cs_len p) (by omega)
      have hl1 := hcs k hkl
      rw [cs_getD, HY.out] at hl1
      clear hcs ho2 hb2
      go_wp2
      go_ret2
      exact ⟨by rw [E.out.1, E.out.2]; rfl, HB2.out⟩
set_option maxRecDepth 100000 in
set_option maxHeartbeats 2000000 in
theorem implTreeParent_any (_B : Nat) (x : Int) (w : World) (_hB : _B ≤ w.heap.size) : Calls Try.prog 64 #[.int .i64 x] w fun e w' => e = .returned (.tuple #[.int .i64 (paV x), .bool (paG x)]) ∧ Below w.heap.size w w' := by
  have SN := isShort_any x w
  cases hg : ptB x with
  | false =>
    rw [hg] at SN
    have SN := Lib.hid SN
    have hno : paG x = false := by have := ptB_no hg; unfold paG inB; simp; omega
    have E := Lib.hid (And.intro hno (show paV x = 0 by unfold paV; rw [hno]; rfl))
    clear hg hno
    go_enter Try.func64, Try.ntmps64
    go_wp2_with (go_at_call 120; refine SN.out.mono ?_; rintro e w' ⟨rfl, rfl⟩)
    go_ret2
    exact ⟨by rw [E.out.1, E.out.2]; rfl, Below.refl _ _⟩
  | true =>
    rw [hg] at SN
    have SN := Lib.hid SN
    have ⟨h1, h2⟩ := ptB_rng hg
    obtain ⟨n, rfl⟩ : ∃ n : Nat, x = n := ⟨x.toNat, by omega⟩
    clear hg
    by_cases he : n = 1
    · subst he
      have E := Lib.hid (show paG ((1 : Nat) : Int) = false ∧ paV ((1 : Nat) : Int) = 0 from ⟨by decide, by unfold paV; rw [show paG ((1 : Nat) : Int) = false by decide]; rfl⟩)
      go_enter Try.func64, Try.ntmps64
      go_wp2_with (go_at_call 120; refine SN.out.mono ?_; rintro e w' ⟨rfl, rfl⟩)
      go_ret2
      exact ⟨by rw [E.out.1, E.out.2]; rfl, Below.refl _ _⟩
    · have ine : ((n : Int) == 1) = false := by rw [beq_eq_false_iff_ne]; omega
      have hyes : paG (n : Int) = true := by unfold paG inB; simp; omega
      have hV : paV (n : Int) = (((twN n).getD ((twN n).length - 2) 0 : Nat) : Int) := by unfold paV; rw [if_pos hyes]; rfl
      have htwo := tw_two (n := n) (by omega) (by omega)
      have hlen := twN_len (n := n) (by omega)
      have HM := fun W => implTree2_some n W (by omega) (by omega)
      obtain ⟨p, hp⟩ : ∃ p, twN n = p := ⟨_, rfl⟩
      rw [hp] at hV htwo hlen
      have HM := Lib.hid (show ∀ W, Calls Try.prog 66 #[.int .i64 (n : Int)] W fun e w' => ∃ A' c', e = .returned (.tuple #[.slice A' p.length c', .bool true]) ∧ OwI w' W.heap.size (.slice A' p.length c') (cs p) ∧ Below W.heap.size W w' from fun W => by rw [← hp]; exact HM W)
      obtain ⟨k, hk⟩ : ∃ k, k = p.length - 2 := ⟨_, rfl⟩
      rw [← hk] at hV
      have hsub : IntKind.i64.wrap ((p.length : Int) - 2) = (k : Int) := by rw [IntWalk.i64_in _ (by omega)]; omega
      have ik : (k : Int) < (p.length : Int) := by omega
      have hkl : k < p.length := by omega
      obtain ⟨y, hy⟩ : ∃ y, p.getD k 0 = y := ⟨_, rfl⟩
      rw [hy] at hV
      have HY := Lib.hid hy
      have E := Lib.hid (And.intro hyes hV)
      clear hyes hV hp hk hy
      go_enter Try.func64, Try.ntmps64
      go_wp2_with fail
      go_at_call 120
      refine SN.out.mono ?_
      rintro e w1 ⟨rfl, rfl⟩
      go_wp2_with fail
      go_at_call 66
      refine (HM.out w).mono ?_
      rintro e w2 ⟨A2, c2, rfl, ho2, hb2⟩
      have HB2 := Lib.hid hb2
      obtain ⟨gr, rfl, _, _, hcs⟩ := own_cells ho2 (cs_len p) (by omega)
      have hl1 := hcs k hkl
      rw [cs_getD, HY.out] at hl1
      clear hcs ho2 hb2
      go_wp2
      go_ret2
      exact ⟨by rw [E.out.1, E.out.2]; rfl, HB2.out⟩
end Go.Proofs.Ytbbjgcagkmlngab
