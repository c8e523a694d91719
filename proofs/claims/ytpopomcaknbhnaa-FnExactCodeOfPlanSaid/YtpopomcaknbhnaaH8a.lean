/- Polynomials as lists of coefficients, codes and their values, as data. -/
import Derived.Test.YtpopomcaknbhnaaBase2
namespace Go.Proofs.Ytpopomcaknbhnaa
open Go.RowKit
/-- The least length up to n of a function's values without zeros at the end. -/
def dg (F : Nat → Int) : Nat → Nat
  | 0 => 0
  | k + 1 => if F k = 0 then dg F k else k + 1
/-- The list of a function's first values without zeros at the end. -/
def pt (F : Nat → Int) (n : Nat) : List Int := (List.range (dg F n)).map F
def at0 (l : List Int) (i : Nat) : Int := l.getD i 0
theorem at0_ge {l : List Int} {i : Nat} (h : l.length ≤ i) : at0 l i = 0 := by unfold at0; simp [List.getD_eq_getElem?_getD, h]
theorem at0_lt {l : List Int} {i : Nat} (h : i < l.length) : at0 l i = l[i] := by unfold at0; simp [List.getD_eq_getElem?_getD, h]
theorem dg_le (F : Nat → Int) : ∀ n, dg F n ≤ n := by
  intro n
  induction n with
  | zero => exact Nat.le_refl _
  | succ n ih => simp only [dg]; split <;> omega
theorem dg_zero {F : Nat → Int} {n i : Nat} (h1 : dg F n ≤ i) (h2 : i < n) : F i = 0 := by
  induction n with
  | zero => omega
  | succ n ih =>
    simp only [dg] at h1
    split at h1
    · rcases Nat.lt_or_ge i n with h | h
      · exact ih h1 h
      · have : i = n := by omega
        subst this; assumption
    · omega
theorem dg_last {F : Nat → Int} {n : Nat} (h : 0 < dg F n) : F (dg F n - 1) ≠ 0 := by
  induction n with
  | zero => simp [dg] at h
  | succ n ih =>
    simp only [dg] at h ⊢
    split
    · rename_i h0
      rw [if_pos h0] at h
      exact ih h
    · simpa using ‹_›
theorem dg_more {F : Nat → Int} {n m : Nat} (h : n ≤ m) (hz : ∀ i, n ≤ i → i < m → F i = 0) : dg F m = dg F n := by
  induction m with
  | zero => have : n = 0 := by omega
            subst this; rfl
  | succ m ih =>
    rcases Nat.lt_or_ge m n with h1 | h1
    · have : n = m + 1 := by omega
      subst this; rfl
    · simp only [dg]
      rw [if_pos (hz m h1 (by omega))]
      exact ih h1 (fun i a b => hz i a (by omega))
theorem dg_congr {F G : Nat → Int} {n : Nat} (h : ∀ i, i < n → F i = G i) : dg F n = dg G n := by
  induction n with
  | zero => rfl
  | succ n ih => simp only [dg]; rw [h n (by omega), ih (fun i hi => h i (by omega))]
theorem pt_more {F : Nat → Int} {n m : Nat} (h : n ≤ m) (hz : ∀ i, n ≤ i → i < m → F i = 0) : pt F m = pt F n := by unfold pt; rw [dg_more h hz]
theorem pt_congr {F G : Nat → Int} {n : Nat} (h : ∀ i, i < n → F i = G i) : pt F n = pt G n := by
  unfold pt
  rw [dg_congr h]
  apply List.map_congr_left
  intro i hi
  have := List.mem_range.1 hi
  have := dg_le G n
  exact h i (by omega)
theorem pt_len (F : Nat → Int) (n : Nat) : (pt F n).length = dg F n := by simp [pt]
theorem pt_at {F : Nat → Int} {n i : Nat} (h : i < n) : at0 (pt F n) i = F i := by
  rcases Nat.lt_or_ge i (dg F n) with h1 | h1
  · rw [at0_lt (by rw [pt_len]; exact h1)]; simp [pt]
  · rw [at0_ge (by rw [pt_len]; exact h1), dg_zero h1 h]
/-- What is left of a list without zeros at the end. -/
theorem pt_take (l : List Int) : pt (at0 l) l.length = l.take (dg (at0 l) l.length) := by
  have := dg_le (at0 l) l.length
  apply List.ext_getElem
  · rw [pt_len, List.length_take]; omega
  · intro i h1 h2
    rw [pt_len] at h1
    simp only [pt, List.getElem_map, List.getElem_range, List.getElem_take]
    rw [at0_lt (by omega)]
/-- A list of a function's values, without zeros at its end. -/
theorem pt_map (F : Nat → Int) (n : Nat) : pt (at0 ((List.range n).map F)) ((List.range n).map F).length = pt F n := by
  rw [List.length_map, List.length_range]
  exact pt_congr fun i hi => by rw [at0_lt (by simpa using hi)]; simp

/-- Sums, constants, products of polynomials. -/
def pSum (f g : List Int) : List Int := pt (fun i => at0 f i + at0 g i) (max f.length g.length)
def pCon (n : Int) : List Int := pt (fun _ => n) 1
/-- The coefficient p of the product of the first k coefficients of f and of g. -/
def cvR (f g : List Int) (p : Nat) : Nat → Int
  | 0 => 0
  | i + 1 => cvR f g p i + (if i ≤ p then at0 f i * at0 g (p - i) else 0)
def pMul (f g : List Int) : List Int := pt (fun p => cvR f g p f.length) (f.length + g.length)
theorem cvR_far {f g : List Int} {p : Nat} (h : f.length + g.length ≤ p + 1) : ∀ k, k ≤ f.length → cvR f g p k = 0 := by
  intro k
  induction k with
  | zero => intro _; rfl
  | succ k ih =>
    intro hk
    simp only [cvR]
    rw [ih (by omega)]
    split
    · rw [at0_ge (l := g) (by omega)]; simp
    · simp
theorem pMul_less {f g : List Int} : pMul f g = pt (fun p => cvR f g p f.length) (f.length + g.length - 1) := by
  unfold pMul
  apply pt_more (by omega)
  intro i h1 h2
  exact cvR_far (by omega) _ (Nat.le_refl _)
theorem pMul_nil {f g : List Int} (h : f.length = 0 ∨ g.length = 0) : pMul f g = [] := by
  have hz : ∀ i, cvR f g i f.length = 0 := by
    intro i
    rcases h with h | h
    · rw [h]; rfl
    · have hg : ∀ k, cvR f g i k = 0 := by
        intro k
        induction k with
        | zero => rfl
        | succ k ih => simp only [cvR]; rw [ih, at0_ge (l := g) (by omega)]; simp
      exact hg _
  unfold pMul
  rw [pt_more (Nat.zero_le _) (fun i _ _ => hz i)]
  rfl
/-- Row i of the product behind k columns. -/
def cvC (f g : List Int) (i k p : Nat) : Int := cvR f g p i + (if i ≤ p ∧ p - i < k then at0 f i * at0 g (p - i) else 0)
theorem cvC_zero (f g : List Int) (i p : Nat) : cvC f g i 0 p = cvR f g p i := by unfold cvC; simp
theorem cvC_end (f g : List Int) (i p : Nat) : cvC f g i g.length p = cvR f g p (i + 1) := by
  unfold cvC
  simp only [cvR]
  by_cases h : i ≤ p
  · rw [if_pos h]
    by_cases h2 : p - i < g.length
    · rw [if_pos ⟨h, h2⟩]
    · rw [if_neg (by omega), at0_ge (l := g) (by omega)]; simp
  · rw [if_neg h, if_neg (by omega)]
theorem cvC_here (f g : List Int) (i k : Nat) : cvC f g i (k + 1) (i + k) = cvC f g i k (i + k) + at0 f i * at0 g k := by
  unfold cvC
  rw [if_pos (by omega), if_neg (by omega), show i + k - i = k by omega]; omega
theorem cvC_else {f g : List Int} {i k p : Nat} (h : p ≠ i + k) : cvC f g i (k + 1) p = cvC f g i k p := by
  unfold cvC
  by_cases h1 : i ≤ p ∧ p - i < k
  · rw [if_pos h1, if_pos (by omega)]
  · rw [if_neg h1, if_neg (by omega)]
/-- In the bounds. -/
def isC (n : Int) : Bool := decide (-1000000 ≤ n) && decide (n ≤ 1000000)
def fitB (l : List Int) : Bool := decide (l.length ≤ 17) && l.all isC
theorem isC_iff {n : Int} : isC n = true ↔ -1000000 ≤ n ∧ n ≤ 1000000 := by unfold isC; simp
theorem fit_iff {l : List Int} : fitB l = true ↔ l.length ≤ 17 ∧ ∀ x ∈ l, -1000000 ≤ x ∧ x ≤ 1000000 := by
  unfold fitB
  simp [List.all_eq_true, isC_iff]
theorem fit_at {l : List Int} (h : fitB l = true) (i : Nat) : -1000000 ≤ at0 l i ∧ at0 l i ≤ 1000000 := by
  rcases Nat.lt_or_ge i l.length with h1 | h1
  · rw [at0_lt h1]; exact (fit_iff.1 h).2 _ (List.getElem_mem h1)
  · rw [at0_ge h1]; omega
theorem mul_bd {a b : Int} (ha : -1000000 ≤ a ∧ a ≤ 1000000) (hb : -1000000 ≤ b ∧ b ≤ 1000000) : -1000000000000 ≤ a * b ∧ a * b ≤ 1000000000000 := by
  have h1 : 0 ≤ (1000000 - a) * (1000000 + b) := Int.mul_nonneg (by omega) (by omega)
  have h2 : 0 ≤ (1000000 + a) * (1000000 - b) := Int.mul_nonneg (by omega) (by omega)
  have h3 : 0 ≤ (1000000 - a) * (1000000 - b) := Int.mul_nonneg (by omega) (by omega)
  have h4 : 0 ≤ (1000000 + a) * (1000000 + b) := Int.mul_nonneg (by omega) (by omega)
  simp only [Int.sub_mul, Int.mul_add, Int.add_mul, Int.mul_sub] at h1 h2 h3 h4
  constructor <;> omega
theorem cvR_bd {f g : List Int} (hf : fitB f = true) (hg : fitB g = true) (p : Nat) : ∀ k : Nat, -(1000000000000 * (k : Int)) ≤ cvR f g p k ∧ cvR f g p k ≤ 1000000000000 * (k : Int) := by
  intro k
  induction k with
  | zero => simp [cvR]
  | succ k ih =>
    simp only [cvR]
    have := mul_bd (fit_at hf k) (fit_at hg (p - k))
    split <;> omega
theorem cvC_bd {f g : List Int} (hf : fitB f = true) (hg : fitB g = true) {i : Nat} (k p : Nat) (hi : i < f.length) : -100000000000000 ≤ cvC f g i k p ∧ cvC f g i k p ≤ 100000000000000 := by
  have h1 := cvR_bd hf hg p i
  have h2 := mul_bd (fit_at hf i) (fit_at hg (p - i))
  have h3 := (fit_iff.1 hf).1
  unfold cvC
  split <;> omega
theorem mul1_bd {f g : List Int} (hf : fitB f = true) (hg : fitB g = true) (i k : Nat) : -1000000000000 ≤ at0 f i * at0 g k ∧ at0 f i * at0 g k ≤ 1000000000000 := mul_bd (fit_at hf i) (fit_at hg k)

/-- Ops as data: the polynomial of an op behind some values. -/
abbrev Op3 := Int × Int × Int
def vAt (vs : List (List Int)) (i : Int) : List Int := vs.getD i.toNat []
def inV (i : Int) (n : Nat) : Bool := decide (0 ≤ i) && decide (i < n)
def opOk (o : Op3) (n : Nat) : Bool :=
  if o.1 = 0 then isC o.2.1 && decide (o.2.2 = 0) else if o.1 = 1 ∨ o.1 = 3 then inV o.2.1 n && inV o.2.2 n else if o.1 = 2 then inV o.2.1 n && isC o.2.2 else false
def opP (o : Op3) (vs : List (List Int)) : List Int :=
  if o.1 = 0 then pCon o.2.1 else if o.1 = 1 then pSum (vAt vs o.2.1) (vAt vs o.2.2) else if o.1 = 2 then pMul (vAt vs o.2.1) (pCon o.2.2) else pMul (vAt vs o.2.1) (vAt vs o.2.2)
def o0 : Op3 := (0, 0, 0)
/-- The polynomials of x and of the first k ops. -/
def pvs (s : List Op3) : Nat → List (List Int)
  | 0 => [[0, 1]]
  | k + 1 => pvs s k ++ [opP (s.getD k o0) (pvs s k)]
theorem pvs_len (s : List Op3) : ∀ k, (pvs s k).length = k + 1 := by
  intro k
  induction k with
  | zero => rfl
  | succ k ih => simp [pvs, ih]
def opG (s : List Op3) (k : Nat) : Bool := opOk (s.getD k o0) (k + 1) && fitB (opP (s.getD k o0) (pvs s k))
def opsG (s : List Op3) : Nat → Bool
  | 0 => true
  | k + 1 => opsG s k && opG s k
theorem opsG_le {s : List Op3} {k j : Nat} (h : opsG s k = true) (hj : j ≤ k) : opsG s j = true := by
  induction k with
  | zero => have : j = 0 := by omega
            subst this; rfl
  | succ k ih =>
    simp only [opsG, Bool.and_eq_true] at h
    rcases Nat.lt_or_ge k j with h1 | h1
    · have : j = k + 1 := by omega
      subst this; simp [opsG, h]
    · exact ih h.1 h1
theorem opsG_at {s : List Op3} {k j : Nat} (h : opsG s k = true) (hj : j < k) : opG s j = true := by
  have := opsG_le h (show j + 1 ≤ k by omega)
  simp only [opsG, Bool.and_eq_true] at this
  exact this.2
theorem opsG_bad {s : List Op3} {k j : Nat} (h : opG s j = false) (hj : j < k) : opsG s k = false := by
  cases hk : opsG s k with
  | false => rfl
  | true => rw [opsG_at hk hj] at h; cases h
theorem pvs_fit {s : List Op3} {k : Nat} (h : opsG s k = true) : ∀ v ∈ pvs s k, fitB v = true := by
  induction k with
  | zero => intro v hv; simp [pvs] at hv; subst hv; decide
  | succ k ih =>
    intro v hv
    simp only [opsG, opG, Bool.and_eq_true] at h
    simp only [pvs, List.mem_append, List.mem_singleton] at hv
    rcases hv with hv | rfl
    · exact ih h.1 v hv
    · exact h.2.2
theorem pvs_pre (s : List Op3) {i : Nat} : ∀ k, i ≤ k → vAt (pvs s k) i = vAt (pvs s i) i := by
  intro k
  induction k with
  | zero => intro h; have : i = 0 := by omega
            subst this; rfl
  | succ k ih =>
    intro h
    rcases Nat.lt_or_ge k i with h1 | h1
    · have : i = k + 1 := by omega
      subst this; rfl
    · rw [← ih h1]
      unfold vAt
      simp only [pvs, Int.toNat_natCast]
      rw [List.getD_eq_getElem?_getD, List.getElem?_append_left (by rw [pvs_len]; omega), List.getD_eq_getElem?_getD]
theorem vAt_fit {vs : List (List Int)} (h : ∀ v ∈ vs, fitB v = true) (i : Int) : fitB (vAt vs i) = true := by
  unfold vAt
  rw [List.getD_eq_getElem?_getD]
  rcases Nat.lt_or_ge i.toNat vs.length with h1 | h1
  · rw [List.getElem?_eq_getElem h1]; exact h _ (List.getElem_mem h1)
  · rw [List.getElem?_eq_none h1]; decide
structure Cd where
  ops : List Op3
  out : Int
def zeroCd : Cd := ⟨[], 0⟩
def cdB (c : Cd) : Bool := decide (c.ops.length ≤ 120) && (inV c.out (c.ops.length + 1) && opsG c.ops c.ops.length)
theorem cdB_facts {c : Cd} (h : cdB c = true) : c.ops.length ≤ 120 ∧ 0 ≤ c.out ∧ c.out ≤ c.ops.length ∧ opsG c.ops c.ops.length = true := by
  unfold cdB inV at h
  simp only [Bool.and_eq_true, decide_eq_true_eq] at h
  exact ⟨h.1, h.2.1.1, by omega, h.2.2⟩
/-- The polynomial of a code, or none. -/
def cdP (c : Cd) : List Int := if cdB c then vAt (pvs c.ops c.ops.length) c.out else []
def cdIf (c : Cd) : Cd := if cdB c then c else zeroCd
/-- Values of one kind of the ops, one by one: z is that of x. -/
def gvs (f : Op3 → List Int → Int) (z : Int) (s : List Op3) : Nat → List Int
  | 0 => [z]
  | k + 1 => gvs f z s k ++ [f (s.getD k o0) (gvs f z s k)]
theorem gvs_len (f : Op3 → List Int → Int) (z : Int) (s : List Op3) : ∀ k, (gvs f z s k).length = k + 1 := by
  intro k
  induction k with
  | zero => rfl
  | succ k ih => simp [gvs, ih]
def vI (vs : List Int) (i : Int) : Int := vs.getD i.toNat 0
/-- Remainders. -/
def rmV (m : Int) (o : Op3) (vs : List Int) : Int :=
  if o.1 = 0 then o.2.1 % m else if o.1 = 1 then (vI vs o.2.1 + vI vs o.2.2) % m else if o.1 = 2 then (vI vs o.2.1 * o.2.2) % m else (vI vs o.2.1 * vI vs o.2.2) % m
/-- Depths. -/
def mx (a b : Int) : Int := if a < b then b else a
def dpV (o : Op3) (vs : List Int) : Int :=
  if o.1 = 0 then 0 else if o.1 = 1 then mx (vI vs o.2.1) (vI vs o.2.2) else if o.1 = 2 then vI vs o.2.1 else 1 + mx (vI vs o.2.1) (vI vs o.2.2)
theorem gvs_all {f : Op3 → List Int → Int} {z : Int} {s : List Op3} {P : Int → Prop} (hz : P z) (hf : ∀ k, k < s.length → (∀ v ∈ gvs f z s k, P v) → P (f (s.getD k o0) (gvs f z s k))) : ∀ k, k ≤ s.length → ∀ v ∈ gvs f z s k, P v := by
  intro k
  induction k with
  | zero => intro _ v hv; simp [gvs] at hv; subst hv; exact hz
  | succ k ih =>
    intro hk v hv
    simp only [gvs, List.mem_append, List.mem_singleton] at hv
    rcases hv with hv | rfl
    · exact ih (by omega) v hv
    · exact hf k (by omega) (ih (by omega))
theorem rm_rng {m x : Int} (hm : 0 < m) (s : List Op3) : ∀ k, k ≤ s.length → ∀ v ∈ gvs (rmV m) (x % m) s k, 0 ≤ v ∧ v < m := by
  refine gvs_all ⟨Int.emod_nonneg _ (by omega), Int.emod_lt_of_pos _ hm⟩ (fun k _ _ => ?_)
  unfold rmV
  split
  · exact ⟨Int.emod_nonneg _ (by omega), Int.emod_lt_of_pos _ hm⟩
  · split
    · exact ⟨Int.emod_nonneg _ (by omega), Int.emod_lt_of_pos _ hm⟩
    · split <;> exact ⟨Int.emod_nonneg _ (by omega), Int.emod_lt_of_pos _ hm⟩
theorem vI_at {vs : List Int} {i : Nat} (h : i < vs.length) : vI vs (i : Int) = vs[i] := by unfold vI; simp [List.getD_eq_getElem?_getD, h]
theorem dp_rng {s : List Op3} : ∀ k, k ≤ s.length → ∀ v ∈ gvs dpV 0 s k, 0 ≤ v ∧ v ≤ (k : Int) := by
  intro k
  induction k with
  | zero => intro _ v hv; simp [gvs] at hv; subst hv; omega
  | succ k ih =>
    intro hk v hv
    simp only [gvs, List.mem_append, List.mem_singleton] at hv
    have h0 := ih (by omega)
    rcases hv with hv | rfl
    · have := h0 v hv; omega
    · have hv : ∀ i, 0 ≤ vI (gvs dpV 0 s k) i ∧ vI (gvs dpV 0 s k) i ≤ (k : Int) := by
        intro i
        unfold vI
        rw [List.getD_eq_getElem?_getD]
        rcases Nat.lt_or_ge i.toNat (gvs dpV 0 s k).length with h1 | h1
        · rw [List.getElem?_eq_getElem h1]; exact h0 _ (List.getElem_mem h1)
        · rw [List.getElem?_eq_none h1]; simp
      have a := hv (s.getD k o0).2.1
      have b := hv (s.getD k o0).2.2
      generalize gvs dpV 0 s k = vs at a b ⊢
      unfold dpV mx
      split
      · omega
      · split
        · split <;> omega
        · split
          · omega
          · split <;> omega
/-- How many of the first k ops have the kind j. -/
def cnK (s : List Op3) (j : Int) : Nat → Int
  | 0 => 0
  | k + 1 => cnK s j k + (if (s.getD k o0).1 = j then 1 else 0)
theorem cnK_bd (s : List Op3) (j : Int) : ∀ k : Nat, 0 ≤ cnK s j k ∧ cnK s j k ≤ k := by
  intro k
  induction k with
  | zero => simp [cnK]
  | succ k ih => simp only [cnK]; split <;> omega
def cn4 (s : List Op3) (k : Nat) : List Int := [cnK s 0 k, cnK s 1 k, cnK s 2 k, cnK s 3 k]
def cd4 (c : Cd) : List Int := if cdB c then cn4 c.ops c.ops.length else []
def cdR (c : Cd) (x m : Int) : Int := vI (gvs (rmV m) (x % m) c.ops c.ops.length) c.out
def cdD (c : Cd) : Int := vI (gvs dpV 0 c.ops c.ops.length) c.out
/-- Of a good op: what it is. -/
theorem opOk_cases {o : Op3} {n : Nat} (h : opOk o n = true) :
    (o.1 = 0 ∧ (-1000000 ≤ o.2.1 ∧ o.2.1 ≤ 1000000) ∧ o.2.2 = 0) ∨ (o.1 = 1 ∧ (0 ≤ o.2.1 ∧ o.2.1 < n) ∧ 0 ≤ o.2.2 ∧ o.2.2 < n) ∨ (o.1 = 2 ∧ (0 ≤ o.2.1 ∧ o.2.1 < n) ∧ -1000000 ≤ o.2.2 ∧ o.2.2 ≤ 1000000) ∨ (o.1 = 3 ∧ (0 ≤ o.2.1 ∧ o.2.1 < n) ∧ 0 ≤ o.2.2 ∧ o.2.2 < n) := by
  unfold opOk inV at h
  split at h
  · rename_i h0
    simp only [Bool.and_eq_true, decide_eq_true_eq, isC_iff] at h
    exact .inl ⟨h0, h.1, h.2⟩
  · split at h
    · rename_i _ h0
      simp only [Bool.and_eq_true, decide_eq_true_eq] at h
      rcases h0 with h0 | h0
      · exact .inr (.inl ⟨h0, h.1, h.2⟩)
      · exact .inr (.inr (.inr ⟨h0, h.1, h.2⟩))
    · split at h
      · rename_i _ _ h0
        simp only [Bool.and_eq_true, decide_eq_true_eq, isC_iff] at h
        exact .inr (.inr (.inl ⟨h0, h.1, h.2⟩))
      · cases h
theorem tmod_pos (n : Int) {m : Int} (hm : 0 < m) : (n.tmod m + m).tmod m = n % m := by
  have e1 : 0 ≤ n.tmod m + m := by
    have := Int.lt_tmod_of_pos n hm
    omega
  rw [Int.tmod_eq_emod_of_nonneg e1, Int.add_emod_right]
  rcases Int.le_total 0 n with h | h
  · rw [Int.tmod_eq_emod_of_nonneg h, Int.emod_emod_of_dvd _ (Int.dvd_refl m)]
  · have := Int.emod_add_mul_ediv n m
    rw [Int.emod_def (n.tmod m), Int.tmod_def]
    have h2 : n - m * n.tdiv m - m * ((n - m * n.tdiv m) / m) = n - m * (n.tdiv m + (n - m * n.tdiv m) / m) := by rw [Int.mul_add]; omega
    rw [h2, show n - m * (n.tdiv m + (n - m * n.tdiv m) / m) = n - m * (n.tdiv m + (n - m * n.tdiv m) / m) from rfl]
    have h3 : (n - m * n.tdiv m) / m = n / m - n.tdiv m := by
      rw [show n - m * n.tdiv m = n + (-(n.tdiv m)) * m by rw [Int.neg_mul, Int.mul_comm]; omega, Int.add_mul_ediv_right _ _ (by omega)]; omega
    rw [h3, Int.emod_def]
    congr 2
    omega
end Go.Proofs.Ytpopomcaknbhnaa
