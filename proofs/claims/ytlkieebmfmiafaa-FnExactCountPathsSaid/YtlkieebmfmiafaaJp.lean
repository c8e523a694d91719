/- Paths as data: counted forwards from a value, and backwards to one; both are the same. -/
import Derived.Test.YtlkieebmfmiafaaJa
namespace Go.Proofs.Ytlkieebmfmiafaa
open Go.RowKit

theorem getD_setI (l : List Int) (a v : Nat) (x : Int) (ha : a < l.length) : (l.set a x).getD v 0 = if a = v then x else l.getD v 0 := by
  simp only [List.getD_eq_getElem?_getD]
  by_cases h : a = v
  · subst h
    rw [if_pos rfl, List.getElem?_set_self ha]
    rfl
  · rw [if_neg h, List.getElem?_set_ne h]
def st1 (s : List (Int × Int)) (k : Nat) : Nat := (s.getD k (0, 0)).1.toNat
def st2 (s : List (Int × Int)) (k : Nat) : Nat := (s.getD k (0, 0)).2.toNat
/-- The model's counts. -/
def fw (N R a : Nat) (s : List (Int × Int)) : Nat → List Int
  | 0 => (List.replicate R 0).set a 1
  | k + 1 => if N + k = a then fw N R a s k else (fw N R a s k).set (N + k) ((fw N R a s k).getD (st1 s k) 0 + (fw N R a s k).getD (st2 s k) 0)
/-- The program's. -/
def bw1 (N : Nat) (s : List (Int × Int)) (l : List Int) (i : Nat) : List Int := l.set (st1 s i) (l.getD (st1 s i) 0 + l.getD (N + i) 0)
def bw (N R b : Nat) (s : List (Int × Int)) : Nat → List Int
  | 0 => (List.replicate R 0).set b 1
  | j + 1 => (bw1 N s (bw N R b s j) (s.length - 1 - j)).set (st2 s (s.length - 1 - j)) ((bw1 N s (bw N R b s j) (s.length - 1 - j)).getD (st2 s (s.length - 1 - j)) 0 + (bw N R b s j).getD (N + (s.length - 1 - j)) 0)
theorem fw_len (N R a : Nat) (s : List (Int × Int)) : ∀ k, (fw N R a s k).length = R := by
  intro k
  induction k with
  | zero => simp [fw]
  | succ k ih => simp only [fw]; split <;> simp [ih]
theorem bw1_len (N : Nat) (s : List (Int × Int)) (l : List Int) (i : Nat) : (bw1 N s l i).length = l.length := by simp [bw1]
theorem bw_len (N R b : Nat) (s : List (Int × Int)) : ∀ k, (bw N R b s k).length = R := by
  intro k
  induction k with
  | zero => simp [bw]
  | succ k ih => simp [bw, bw1, ih]

/-- What is asked of steps: both sides stand before. -/
def Bfr (N : Nat) (s : List (Int × Int)) : Prop := ∀ i, i < s.length → st1 s i < N + i ∧ st2 s i < N + i
section
variable {N R a b : Nat} {s : List (Int × Int)}
theorem fw_next (hR : R = N + s.length) {k v : Nat} (hk : k < s.length) (hv : v ≠ N + k) : (fw N R a s (k + 1)).getD v 0 = (fw N R a s k).getD v 0 := by
  simp only [fw]
  split
  · rfl
  · rw [getD_setI _ _ _ _ (by rw [fw_len]; omega), if_neg (by omega)]
theorem fw_end (hR : R = N + s.length) {k v : Nat} (hv : v < N + k) : ∀ d, k + d ≤ s.length → (fw N R a s (k + d)).getD v 0 = (fw N R a s k).getD v 0 := by
  intro d
  induction d with
  | zero => intro _; rfl
  | succ d ih =>
    intro hd
    rw [← Nat.add_assoc, fw_next hR (by omega) (by omega)]
    exact ih (by omega)
/-- The number of paths from a to v. -/
def pa (N R a : Nat) (s : List (Int × Int)) (v : Nat) : Int := (fw N R a s s.length).getD v 0
theorem fw_at (hR : R = N + s.length) {k v : Nat} (hk : k ≤ s.length) (hv : v < N + k) : (fw N R a s k).getD v 0 = pa N R a s v := by
  have := fw_end (a := a) hR hv (s.length - k) (by omega)
  rw [show k + (s.length - k) = s.length by omega] at this
  exact this.symm
theorem fw_self (hR : R = N + s.length) (ha : a < R) : ∀ k, k ≤ s.length → (fw N R a s k).getD a 0 = 1 := by
  intro k
  induction k with
  | zero => intro _; simp only [fw]; rw [getD_setI _ _ _ _ (by simpa using ha), if_pos rfl]
  | succ k ih =>
    intro hk
    by_cases h : N + k = a
    · simp only [fw]; rw [if_pos h]; exact ih (by omega)
    · rw [fw_next hR (by omega) (by omega)]; exact ih (by omega)
theorem pa_self (hR : R = N + s.length) (ha : a < R) : pa N R a s a = 1 := fw_self hR ha s.length (Nat.le_refl _)
theorem pa_in (hR : R = N + s.length) (ha : a < R) {v : Nat} (hv : v < N) (hva : v ≠ a) : pa N R a s v = 0 := by
  rw [← fw_at hR (Nat.zero_le _) (by omega)]
  simp only [fw]
  rw [getD_setI _ _ _ _ (by simpa using ha), if_neg (by omega)]
  simp only [List.getD_eq_getElem?_getD, List.getElem?_replicate]
  split <;> rfl
theorem pa_step (hR : R = N + s.length) (hs : Bfr N s) {i : Nat} (hi : i < s.length) (h : N + i ≠ a) : pa N R a s (N + i) = pa N R a s (st1 s i) + pa N R a s (st2 s i) := by
  obtain ⟨h1, h2⟩ := hs i hi
  rw [← fw_at hR (show i + 1 ≤ s.length by omega) (show N + i < N + (i + 1) by omega)]
  simp only [fw]
  rw [if_neg h, getD_setI _ _ _ _ (by rw [fw_len]; omega), if_pos rfl, fw_at hR (by omega) h1, fw_at hR (by omega) h2]
theorem pa_less (hR : R = N + s.length) (hs : Bfr N s) (ha : a < R) : ∀ n v, v < n → v < a → pa N R a s v = 0 := by
  intro n
  induction n with
  | zero => intro v h; omega
  | succ n ih =>
    intro v hv hva
    by_cases hn : v < N
    · exact pa_in hR ha hn (by omega)
    · obtain ⟨i, rfl⟩ : ∃ i, v = N + i := ⟨v - N, by omega⟩
      obtain ⟨h1, h2⟩ := hs i (by omega)
      rw [pa_step hR hs (by omega) (by omega), ih _ (by omega) (by omega), ih _ (by omega) (by omega)]
      rfl
theorem pa_rng (hR : R = N + s.length) (hs : Bfr N s) (ha : a < R) : ∀ n v, v < n → v < R → 0 ≤ pa N R a s v ∧ pa N R a s v ≤ 2 ^ (v + 1 - N) := by
  intro n
  induction n with
  | zero => intro v h; omega
  | succ n ih =>
    intro v hv hvR
    by_cases hva : v = a
    · subst hva
      rw [pa_self hR ha]
      have : (1 : Nat) ≤ 2 ^ (v + 1 - N) := Nat.one_le_two_pow
      exact ⟨by omega, by exact_mod_cast this⟩
    · by_cases hn : v < N
      · rw [pa_in hR ha hn hva]
        have : (1 : Nat) ≤ 2 ^ (v + 1 - N) := Nat.one_le_two_pow
        refine ⟨by omega, ?_⟩
        have h2 : (1 : Int) ≤ 2 ^ (v + 1 - N) := by exact_mod_cast this
        omega
      · obtain ⟨i, rfl⟩ : ∃ i, v = N + i := ⟨v - N, by omega⟩
        obtain ⟨h1, h2⟩ := hs i (by omega)
        obtain ⟨p1, p2⟩ := ih _ (by omega) (show st1 s i < R by omega)
        obtain ⟨q1, q2⟩ := ih _ (by omega) (show st2 s i < R by omega)
        have e1 : (2 : Nat) ^ (st1 s i + 1 - N) ≤ 2 ^ i := Nat.pow_le_pow_right (by omega) (by omega)
        have e2 : (2 : Nat) ^ (st2 s i + 1 - N) ≤ 2 ^ i := Nat.pow_le_pow_right (by omega) (by omega)
        have f1 : (2 : Int) ^ (st1 s i + 1 - N) ≤ 2 ^ i := by exact_mod_cast e1
        have f2 : (2 : Int) ^ (st2 s i + 1 - N) ≤ 2 ^ i := by exact_mod_cast e2
        have f3 : (2 : Int) ^ (N + i + 1 - N) = 2 ^ i + 2 ^ i := by
          rw [show N + i + 1 - N = i + 1 by omega, Int.pow_succ]
          omega
        rw [pa_step hR hs (by omega) hva]
        omega
theorem pa_big (hR : R = N + s.length) (h40 : s.length ≤ 40) (hs : Bfr N s) (ha : a < R) {v : Nat} (hv : v < R) : 0 ≤ pa N R a s v ∧ pa N R a s v ≤ 1099511627776 := by
  obtain ⟨h1, h2⟩ := pa_rng hR hs ha (v + 1) v (by omega) hv
  have e : (2 : Nat) ^ (v + 1 - N) ≤ 2 ^ 40 := Nat.pow_le_pow_right (by omega) (by omega)
  have f : (2 : Int) ^ (v + 1 - N) ≤ 2 ^ 40 := by exact_mod_cast e
  have : (2 : Int) ^ 40 = 1099511627776 := by decide
  omega

def smI (f : Nat → Int) : Nat → Int
  | 0 => 0
  | n + 1 => smI f n + f n
theorem smI_congr {f g : Nat → Int} {n : Nat} (h : ∀ i, i < n → f i = g i) : smI f n = smI g n := by
  induction n with
  | zero => rfl
  | succ n ih => simp only [smI]; rw [ih (fun i hi => h i (by omega)), h n (by omega)]
theorem smI_one {f : Nat → Int} {a n : Nat} (ha : a < n) (h : ∀ i, i < n → i ≠ a → f i = 0) : smI f n = f a := by
  induction n with
  | zero => omega
  | succ n ih =>
    simp only [smI]
    by_cases hn : n = a
    · have e : smI f n = 0 := by
        have e2 : smI f n = smI (fun _ => 0) n := smI_congr fun i hi => h i (by omega) (by omega)
        rw [e2]
        clear e2 ih h hn ha
        induction n with
        | zero => rfl
        | succ n ih => simp only [smI]; rw [ih]; rfl
      subst hn
      rw [e]
      omega
    · rw [ih (by omega) (fun i hi h2 => h i (by omega) h2), h n (by omega) hn]
      omega
theorem smI_ge {f : Nat → Int} {a n : Nat} (ha : a < n) (h : ∀ i, i < n → 0 ≤ f i) : f a ≤ smI f n := by
  have nn : ∀ m, m ≤ n → 0 ≤ smI f m := by
    intro m
    induction m with
    | zero => intro _; simp [smI]
    | succ m ih => intro hm; have := ih (by omega); have := h m (by omega); simp only [smI]; omega
  induction n with
  | zero => omega
  | succ n ih =>
    simp only [smI]
    have h1 := h n (by omega)
    by_cases hn : n = a
    · subst hn; have := nn n (by omega); omega
    · have := ih (by omega) (fun i hi => h i (by omega)) (fun m hm => nn m (by omega)); omega
theorem smI_set (l : List Int) (F : Nat → Int) (x : Int) {a n : Nat} (ha : a < l.length) (hn : a < n) : smI (fun v => (l.set a (l.getD a 0 + x)).getD v 0 * F v) n = smI (fun v => l.getD v 0 * F v) n + x * F a := by
  induction n with
  | zero => omega
  | succ n ih =>
    simp only [smI]
    rw [getD_setI _ _ _ _ ha]
    by_cases h : a = n
    · subst h
      have e : smI (fun v => (l.set a (l.getD a 0 + x)).getD v 0 * F v) a = smI (fun v => l.getD v 0 * F v) a := smI_congr fun i hi => by rw [getD_setI _ _ _ _ ha, if_neg (by omega)]
      rw [e, if_pos rfl, Int.add_mul]
      omega
    · rw [ih (by omega), if_neg h]
      omega
/-- What is counted backwards so far tells all paths from values before it. -/
theorem bw_sum (hR : R = N + s.length) (hs : Bfr N s) (hb : b < R) : ∀ j, j ≤ s.length → a < N + (s.length - j) → smI (fun v => (bw N R b s j).getD v 0 * pa N R a s v) (N + (s.length - j)) = pa N R a s b := by
  intro j
  induction j with
  | zero =>
    intro _ _
    simp only [bw]
    rw [Nat.sub_zero, ← hR, smI_one hb, getD_setI _ _ _ _ (by simpa using hb), if_pos rfl, Int.one_mul]
    intro i _ hib
    rw [getD_setI _ _ _ _ (by simpa using hb), if_neg (by omega)]
    simp only [List.getD_eq_getElem?_getD, List.getElem?_replicate]
    split <;> simp
  | succ j ih =>
    intro hj haj
    have h := ih (by omega) (by omega)
    obtain ⟨i, hi⟩ : ∃ i, s.length - 1 - j = i := ⟨_, rfl⟩
    rw [show N + (s.length - j) = (N + i) + 1 by omega] at h
    rw [show N + (s.length - (j + 1)) = N + i by omega]
    obtain ⟨h1, h2⟩ := hs i (by omega)
    simp only [bw]
    rw [hi, smI_set _ _ _ (by rw [bw1_len, bw_len]; omega) h2]
    unfold bw1
    rw [smI_set _ _ _ (by rw [bw_len]; omega) h1]
    simp only [smI] at h
    rw [pa_step hR hs (by omega) (by omega), Int.mul_add] at h
    omega
theorem bw_nonneg (hR : R = N + s.length) (hs : Bfr N s) (hb : b < R) : ∀ j, j ≤ s.length → ∀ v, 0 ≤ (bw N R b s j).getD v 0 := by
  intro j
  induction j with
  | zero =>
    intro _ v
    simp only [bw]
    rw [getD_setI _ _ _ _ (by simpa using hb)]
    split
    · omega
    · simp only [List.getD_eq_getElem?_getD, List.getElem?_replicate]
      split <;> simp
  | succ j ih =>
    intro hj v
    have h := ih (by omega)
    obtain ⟨h1, h2⟩ := hs (s.length - 1 - j) (by omega)
    have h3 : ∀ v, 0 ≤ (bw1 N s (bw N R b s j) (s.length - 1 - j)).getD v 0 := by
      intro v
      unfold bw1
      rw [getD_setI _ _ _ _ (by rw [bw_len]; omega)]
      have e1 := h (st1 s (s.length - 1 - j))
      have e2 := h (N + (s.length - 1 - j))
      have e3 := h v
      split <;> omega
    simp only [bw]
    rw [getD_setI _ _ _ _ (by rw [bw1_len, bw_len]; omega)]
    have e1 := h3 (st2 s (s.length - 1 - j))
    have e2 := h (N + (s.length - 1 - j))
    have e3 := h3 v
    split <;> omega
/-- What is final. -/
theorem bw_end (hR : R = N + s.length) (hs : Bfr N s) {j v : Nat} (hv : N + (s.length - j) ≤ v + 1) : ∀ d, j + d ≤ s.length → (bw N R b s (j + d)).getD v 0 = (bw N R b s j).getD v 0 := by
  intro d
  induction d with
  | zero => intro _; rfl
  | succ d ih =>
    intro hd
    obtain ⟨h1, h2⟩ := hs (s.length - 1 - (j + d)) (by omega)
    rw [← Nat.add_assoc]
    simp only [bw]
    rw [getD_setI _ _ _ _ (by rw [bw1_len, bw_len]; omega), if_neg (by omega)]
    unfold bw1
    rw [getD_setI _ _ _ _ (by rw [bw_len]; omega), if_neg (by omega)]
    exact ih (by omega)
/-- Each entry is at most the number of paths. -/
theorem bw_le (hR : R = N + s.length) (hs : Bfr N s) (hb : b < R) {j v : Nat} (hj : j ≤ s.length) (hv : v < N + (s.length - j)) : (bw N R b s j).getD v 0 ≤ pa N R v s b := by
  have h := bw_sum hR hs hb j hj hv
  have h2 := smI_ge (f := fun u => (bw N R b s j).getD u 0 * pa N R v s u) hv (fun i hi => Int.mul_nonneg (bw_nonneg hR hs hb j hj i) (pa_rng hR hs (show v < R by omega) (i + 1) i (by omega) (by omega)).1)
  rw [h] at h2
  simp only [pa_self hR (show v < R by omega), Int.mul_one] at h2
  exact h2
/-- Both ways round they are the same. -/
theorem bw_pa (hR : R = N + s.length) (hs : Bfr N s) (hb : b < R) (ha : a < R) : (bw N R b s s.length).getD a 0 = pa N R a s b := by
  by_cases h : a < N
  · have h1 := bw_sum (a := a) hR hs hb s.length (Nat.le_refl _) (by omega)
    rw [Nat.sub_self, Nat.add_zero, smI_one h, pa_self hR ha, Int.mul_one] at h1
    · exact h1
    · intro i hi hia
      rw [pa_in hR ha hi hia, Int.mul_zero]
  · obtain ⟨i, rfl⟩ : ∃ i, a = N + i := ⟨a - N, by omega⟩
    have h1 := bw_sum (a := N + i) hR hs hb (s.length - 1 - i) (by omega) (by omega)
    have h2 := bw_end (b := b) hR hs (j := s.length - 1 - i) (v := N + i) (by omega) (i + 1) (by omega)
    rw [show s.length - 1 - i + (i + 1) = s.length by omega] at h2
    rw [h2]
    have hi : i < s.length := by omega
    rw [show N + (s.length - (s.length - 1 - i)) = N + i + 1 by omega, smI_one (show N + i < N + i + 1 by omega), pa_self hR ha, Int.mul_one] at h1
    · exact h1
    · intro v hv hva
      rw [pa_less hR hs ha (N + i) v (by omega) (by omega), Int.mul_zero]
end
end Go.Proofs.Ytlkieebmfmiafaa
