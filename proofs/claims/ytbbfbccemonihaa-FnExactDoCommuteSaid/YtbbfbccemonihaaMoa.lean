/- Orders of residues; powers by squaring, as data. -/
import Derived.Test.YtbbfbccemonihaaBase2
namespace Go.Proofs.Ytbbfbccemonihaa
open Go.RowKit

/-- The least k in 1..n with P k, or 0. -/
def fstK (P : Nat → Bool) : Nat → Nat
  | 0 => 0
  | n + 1 => if fstK P n ≠ 0 then fstK P n else if P (n + 1) then n + 1 else 0
theorem fstK_none {P : Nat → Bool} : ∀ n, (∀ k, 1 ≤ k → k ≤ n → P k = false) → fstK P n = 0 := by
  intro n
  induction n with
  | zero => intro _; rfl
  | succ n ih =>
    intro h
    have h0 := ih (fun k h1 h2 => h k h1 (by omega))
    simp [fstK, h0, h (n + 1) (by omega) (by omega)]
theorem fstK_hit {P : Nat → Bool} {e : Nat} (he : 1 ≤ e) (hP : P e = true) (hno : ∀ k, 1 ≤ k → k < e → P k = false) : ∀ n, e ≤ n → fstK P n = e := by
  intro n
  induction n with
  | zero => intro h; omega
  | succ n ih =>
    intro h
    rcases Nat.lt_or_ge n e with h1 | h1
    · have e1 : e = n + 1 := by omega
      subst e1
      have h0 := fstK_none (P := P) n (fun k h1 h2 => hno k h1 (by omega))
      simp [fstK, h0, hP]
    · have h0 := ih h1
      simp only [fstK, h0]
      rw [if_pos (by omega)]

/-- The power e of x modulo m. -/
def pwm (m x e : Nat) : Nat := x ^ e % m
theorem pw_succ (m x e : Nat) : pwm m x (e + 1) = pwm m x e * x % m := by
  unfold pwm
  rw [Nat.pow_succ, Nat.mod_mul_mod]
theorem pw_one {m x : Nat} (h : x < m) : pwm m x 1 = x := by unfold pwm; rw [Nat.pow_one, Nat.mod_eq_of_lt h]
theorem pw_zero {m : Nat} (x : Nat) (h : 2 ≤ m) : pwm m x 0 = 1 := by unfold pwm; rw [Nat.pow_zero]; exact Nat.mod_eq_of_lt (by omega)
theorem pw_lt {m : Nat} (x e : Nat) (h : 0 < m) : pwm m x e < m := Nat.mod_lt _ h
theorem pw_add (m x a b : Nat) : pwm m x (a + b) = pwm m x a * pwm m x b % m := by
  unfold pwm
  rw [Nat.pow_add, Nat.mul_mod]
/-- The least order of a residue, or 0. -/
def ordN (m x : Nat) : Nat := fstK (fun e => pwm m x e == 1) (m - 1)

theorem pigN : ∀ (m : Nat) (l : List Nat), l.Nodup → (∀ x ∈ l, x < m) → l.length ≤ m := by
  intro m
  induction m with
  | zero =>
    intro l _ h
    cases l with
    | nil => simp
    | cons x l => have := h x (by simp); omega
  | succ m ih =>
    intro l hn h
    by_cases hm : m ∈ l
    · have h1 := ih (l.erase m) (hn.erase _) (fun x hx => by
        obtain ⟨h2, h3⟩ := (hn.mem_erase_iff).1 hx
        have := h x h3
        omega)
      rw [List.length_erase_of_mem hm] at h1
      omega
    · have h1 := ih l hn (fun x hx => by
        have h2 := h x hx
        have h3 : x ≠ m := fun e => hm (e ▸ hx)
        omega)
      omega
/-- Of n + 1 numbers below n two are the same. -/
theorem pig_two {n : Nat} (f : Nat → Nat) (h : ∀ i, i ≤ n → f i < n) : ∃ i j, i < j ∧ j ≤ n ∧ f i = f j := by
  apply Classical.byContradiction
  intro hno
  have h1 := pigN n ((List.range (n + 1)).map f) (by
    rw [List.nodup_iff_pairwise_ne, List.pairwise_iff_getElem]
    intro i j hi hj hij
    simp only [List.length_map, List.length_range] at hi hj
    simp only [List.getElem_map, List.getElem_range]
    intro he
    exact hno ⟨i, j, hij, by omega, he⟩) (by
    intro x hx
    obtain ⟨i, hi, rfl⟩ := List.mem_map.1 hx
    exact h i (by have := List.mem_range.1 hi; omega))
  simp at h1
  omega
/-- A power m that is 1 is none that is the first one. -/
theorem pw_first {m x : Nat} (hm : 2 ≤ m) (h : pwm m x m = 1) : ∃ e, 1 ≤ e ∧ e < m ∧ pwm m x e = 1 := by
  have hnz : ∀ k, k ≤ m → pwm m x k ≠ 0 := fun k hk h0 => by
    have := pw_add m x k (m - k)
    rw [show k + (m - k) = m by omega, h, h0] at this
    simp at this
  obtain ⟨i, j, hij, hj, he⟩ := pig_two (n := m - 1) (fun i => pwm m x (i + 1) - 1) (fun i hi => by
    have h1 := hnz (i + 1) (by omega)
    have h2 := pw_lt (m := m) x (i + 1) (by omega)
    omega)
  have h1 := hnz (i + 1) (by omega)
  have h2 := hnz (j + 1) (by omega)
  have h3 : pwm m x (i + 1) = pwm m x (j + 1) := by omega
  refine ⟨j - i, by omega, by omega, ?_⟩
  have h4 := pw_add m x (i + 1) (m - (i + 1))
  have h5 := pw_add m x (j + 1) (m - (i + 1))
  rw [h3, ← h5, show i + 1 + (m - (i + 1)) = m by omega, show j + 1 + (m - (i + 1)) = m + (j - i) by omega, pw_add, h] at h4
  rw [Nat.one_mul, Nat.mod_eq_of_lt (pw_lt x (j - i) (by omega))] at h4
  exact h4.symm
theorem ordN_none {m x : Nat} (hm : 2 ≤ m) (h : ∀ e, 1 ≤ e → e < m → pwm m x e ≠ 1) : ordN m x = 0 ∧ pwm m x m ≠ 1 :=
  ⟨fstK_none _ fun k h1 h2 => by simpa using h k h1 (by omega), fun hm1 => by
    obtain ⟨e, h1, h2, h3⟩ := pw_first hm hm1
    exact h e h1 h2 h3⟩
theorem ordN_hit {m x e : Nat} (h1 : 1 ≤ e) (h2 : e < m) (h : pwm m x e = 1) (hno : ∀ k, 1 ≤ k → k < e → pwm m x k ≠ 1) : ordN m x = e :=
  fstK_hit (P := fun e => pwm m x e == 1) h1 (by simpa using h) (fun k a b => by simpa using hno k a b) _ (by omega)

/-- The loop that multiplies by a power: first, then v as often as e says. -/
def pwr {α : Type} (mul : α → α → α) : Nat → Nat → α → α → α
  | 0, _, p, _ => p
  | f + 1, e, p, v => if e = 0 then p else pwr mul f (e / 2) (if e % 2 = 1 then mul p v else p) (mul v v)
theorem pwL_zero {α : Type} (mul : α → α → α) (f : Nat) (p v : α) : pwr mul f 0 p v = p := by cases f <;> simp [pwr]
theorem pwL_odd {α : Type} (mul : α → α → α) (f e : Nat) (p v : α) (h : e % 2 = 1) : pwr mul (f + 1) e p v = pwr mul f (e / 2) (mul p v) (mul v v) := by
  rw [pwr, if_neg (by omega), if_pos h]
theorem pwL_even {α : Type} (mul : α → α → α) (f e : Nat) (p v : α) (h0 : 0 < e) (h : e % 2 = 0) : pwr mul (f + 1) e p v = pwr mul f (e / 2) p (mul v v) := by
  rw [pwr, if_neg (by omega), if_neg (by omega)]
theorem half_lt {e f : Nat} (h : e < 2 ^ (f + 1)) : e / 2 < 2 ^ f := by rw [Nat.pow_succ] at h; omega

def mulM (m a b : Nat) : Nat := a * b % m
theorem pwL_closed (m : Nat) : ∀ (f e p v : Nat), e < 2 ^ f → p < m → pwr (mulM m) f e p v = p * v ^ e % m := by
  intro f
  induction f with
  | zero =>
    intro e p v he hp
    have h0 : e = 0 := by simpa using he
    subst h0
    simp [pwr, Nat.mod_eq_of_lt hp]
  | succ f ih =>
    intro e p v he hp
    have hm : 0 < m := by omega
    rcases Nat.eq_zero_or_pos e with rfl | h0
    · simp [pwr, Nat.mod_eq_of_lt hp]
    · have hh := half_lt he
      have hv : (mulM m v v) ^ (e / 2) % m = v ^ (2 * (e / 2)) % m := by
        unfold mulM
        rw [← Nat.pow_mod, Nat.pow_mul, Nat.pow_two]
      have h2 := Nat.mod_lt e (show 2 > 0 by omega)
      by_cases ho : e % 2 = 1
      · have hpv : mulM m p v < m := Nat.mod_lt _ hm
        rw [pwL_odd _ _ _ _ _ ho, ih _ _ _ hh hpv, Nat.mul_mod, hv]
        unfold mulM
        rw [Nat.mod_mod, ← Nat.mul_mod, Nat.mul_assoc, Nat.mul_comm v, ← Nat.pow_succ, show (2 * (e / 2)).succ = e by omega]
      · rw [pwL_even _ _ _ _ _ h0 (by omega), ih _ _ _ hh hp, Nat.mul_mod, hv, ← Nat.mul_mod, show 2 * (e / 2) = e by omega]
theorem pwL_one {m : Nat} (hm : 2 ≤ m) {f e v p : Nat} (he : e < 2 ^ f) (hp : p < m) : pwr (mulM m) f e p v = p * pwr (mulM m) f e (1 % m) v % m := by
  rw [pwL_closed m f e p v he hp, pwL_closed m f e _ v he (Nat.mod_lt _ (by omega)), Nat.mul_mod_mod, Nat.mod_eq_of_lt (show 1 < m by omega), Nat.one_mul]
end Go.Proofs.Ytbbfbccemonihaa
