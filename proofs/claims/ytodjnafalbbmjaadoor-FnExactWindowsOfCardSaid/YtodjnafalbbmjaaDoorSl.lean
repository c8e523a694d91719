/- Windows that slide over the binary digits of a number, as data. -/
import Derived.Test.YtodjnafalbbmjaaDoorNa
import Derived.Lib.TrailingZeros
namespace Go.Proofs.YtodjnafalbbmjaaDoor
open Go.RowKit

def lowS (k m : Nat) : Nat := (Lib.bitLen m - k) + Lib.ctz 64 (m / 2 ^ (Lib.bitLen m - k))
/-- Behind j windows: what is left, and the windows. -/
def slI (k n : Nat) : Nat → Nat × List (Nat × Nat)
  | 0 => (n, [])
  | j + 1 => ((slI k n j).1 % 2 ^ lowS k (slI k n j).1, (slI k n j).2 ++ [(lowS k (slI k n j).1, (slI k n j).1 / 2 ^ lowS k (slI k n j).1)])

theorem slI_succ (k n j : Nat) : (slI k n (j + 1)).1 = (slI k n j).1 % 2 ^ lowS k (slI k n j).1 := rfl

theorem bl_lt {m : Nat} (h : m ≤ 1000000) : m < 2 ^ Lib.bitLen m := by
  rcases Nat.lt_or_ge m (2 ^ Lib.bitLen m) with h' | h'
  · exact h'
  · have := bl_more h h'
    omega
theorem bl_ge {m : Nat} (h0 : 0 < m) (h : m ≤ 1000000) : 1 ≤ Lib.bitLen m ∧ 2 ^ (Lib.bitLen m - 1) ≤ m := by
  have h1 : 1 ≤ Lib.bitLen m := bl_more (b := 0) h (by simp; omega)
  refine ⟨h1, ?_⟩
  rcases Nat.lt_or_ge m (2 ^ (Lib.bitLen m - 1)) with h' | h'
  · have hb := bl_bd h
    have := Lib.bitLen_le m (Lib.bitLen m - 1) (by omega) h'
    omega
  · exact h'
theorem bl_eq {m i : Nat} (h : m ≤ 1000000) (h1 : 2 ^ i ≤ m) (h2 : m < 2 ^ (i + 1)) : Lib.bitLen m = i + 1 := by
  have h3 := bl_more h h1
  have hb := bl_bd h
  have hi : i + 1 ≤ 63 := by omega
  have := Lib.bitLen_le m (i + 1) (by omega) h2
  omega

structure LowF (k m l0 low : Nat) : Prop where
  le : l0 ≤ low
  pos : 2 ^ low ≤ m
  zero : ∀ j, l0 ≤ j → j < low → m / 2 ^ j % 2 = 0
  one : m / 2 ^ low % 2 = 1
theorem lowS_facts {k m : Nat} (hk : 1 ≤ k) (h0 : 0 < m) (h : m ≤ 1000000) : LowF k m (Lib.bitLen m - k) (lowS k m) := by
  obtain ⟨hL1, hL2⟩ := bl_ge h0 h
  obtain ⟨l0, hl0⟩ : ∃ l0, Lib.bitLen m - k = l0 := ⟨_, rfl⟩
  have hle : 2 ^ l0 ≤ m := Nat.le_trans (Nat.pow_le_pow_right (by omega) (by omega)) hL2
  have hq1 : 0 < m / 2 ^ l0 := Nat.div_pos hle (Nat.two_pow_pos _)
  have hq2 : m / 2 ^ l0 ≤ m := Nat.div_le_self _ _
  have hlow : lowS k m = l0 + Lib.ctz 64 (m / 2 ^ l0) := by unfold lowS; rw [hl0]
  rw [hlow, hl0]
  obtain ⟨q, hq⟩ : ∃ q, m / 2 ^ l0 = q := ⟨_, rfl⟩
  rw [hq] at hq1 hq2 ⊢
  have he : Lib.ctz 64 q = Lib.ctzFrom 64 q := by unfold Lib.ctz; rw [if_neg (by omega)]
  obtain ⟨t, ht, hc⟩ := Lib.ctzFrom_spec 64 q hq1 (by omega)
  rw [← he] at ht hc
  obtain ⟨c, hcc⟩ : ∃ c, Lib.ctz 64 q = c := ⟨_, rfl⟩
  rw [hcc] at ht hc ⊢
  have hdiv : ∀ j, l0 ≤ j → m / 2 ^ j = q / 2 ^ (j - l0) := fun j hj => by
    rw [← hq, Nat.div_div_eq_div_mul, ← Nat.pow_add]
    congr 2
    omega
  have hdc : m / 2 ^ (l0 + c) = 2 * t + 1 := by
    rw [hdiv _ (by omega), Nat.add_sub_cancel_left, ht, Nat.mul_div_cancel_left _ (Nat.two_pow_pos _)]
  refine ⟨by omega, ?_, fun j h1 h2 => ?_, by rw [hdc]; omega⟩
  · rcases Nat.lt_or_ge m (2 ^ (l0 + c)) with h' | h'
    · rw [Nat.div_eq_of_lt h'] at hdc
      omega
    · exact h'
  · rw [hdiv j h1, ht]
    obtain ⟨d, hd⟩ : ∃ d, c = (j - l0) + (d + 1) := ⟨c - (j - l0) - 1, by omega⟩
    rw [hd, Nat.pow_add, Nat.mul_assoc, Nat.mul_div_cancel_left _ (Nat.two_pow_pos _), Nat.pow_succ, Nat.mul_comm (2 ^ d) 2, Nat.mul_assoc]
    exact Nat.mul_mod_right _ _
theorem LowF.lt {k m l0 low : Nat} (h : LowF k m l0 low) (hm : m ≤ 1000000) : low < Lib.bitLen m := by
  have h1 := bl_lt hm
  have h2 := h.pos
  rcases Nat.lt_or_ge low (Lib.bitLen m) with h' | h'
  · exact h'
  · have := Nat.pow_le_pow_right (n := 2) (by omega) h'
    omega
theorem sl_half {k m : Nat} (hk : 1 ≤ k) (h0 : 0 < m) (h : m ≤ 1000000) : 2 * (m % 2 ^ lowS k m) ≤ m ∧ m % 2 ^ lowS k m < m ∧ 1 ≤ m / 2 ^ lowS k m := by
  have hf := (lowS_facts hk h0 h).pos
  have h1 := Nat.mod_lt m (Nat.two_pow_pos (lowS k m))
  have h2 := Nat.div_add_mod m (2 ^ lowS k m)
  have h3 : 1 ≤ m / 2 ^ lowS k m := Nat.div_pos hf (Nat.two_pow_pos _)
  have h4 : 2 ^ lowS k m * 1 ≤ 2 ^ lowS k m * (m / 2 ^ lowS k m) := Nat.mul_le_mul_left _ h3
  omega
theorem slI_bd {k n : Nat} (hk : 1 ≤ k) (hn : n ≤ 1000000) : ∀ j, (slI k n j).1 * 2 ^ j ≤ n := by
  intro j
  induction j with
  | zero => simp [slI]
  | succ j ih =>
    have hle : (slI k n j).1 ≤ 1000000 := Nat.le_trans (Nat.le_trans (Nat.le_mul_of_pos_right _ (Nat.two_pow_pos j)) ih) hn
    show (slI k n j).1 % 2 ^ lowS k (slI k n j).1 * 2 ^ (j + 1) ≤ n
    obtain ⟨m, hm⟩ : ∃ m, (slI k n j).1 = m := ⟨_, rfl⟩
    rw [hm] at ih hle ⊢
    rcases Nat.eq_zero_or_pos m with h0 | h0
    · subst h0; simp
    · have h1 := (sl_half hk h0 hle).1
      rw [Nat.pow_succ, Nat.mul_comm (2 ^ j) 2, ← Nat.mul_assoc, Nat.mul_comm _ 2]
      exact Nat.le_trans (Nat.mul_le_mul_right _ h1) ih
theorem slI_le {k n : Nat} (hk : 1 ≤ k) (hn : n ≤ 1000000) (j : Nat) : (slI k n j).1 ≤ n := Nat.le_trans (Nat.le_mul_of_pos_right _ (Nat.two_pow_pos j)) (slI_bd hk hn j)
theorem slI_20 {k n j : Nat} (hk : 1 ≤ k) (hn : n ≤ 1000000) (h : (slI k n j).1 ≠ 0) : j < 20 := by
  have h1 := slI_bd hk hn j
  have h2 : 1 * 2 ^ j ≤ (slI k n j).1 * 2 ^ j := Nat.mul_le_mul_right _ (by omega)
  rcases Nat.lt_or_ge j 20 with h' | h'
  · exact h'
  · have : 2 ^ 20 ≤ 2 ^ j := Nat.pow_le_pow_right (by omega) h'
    omega
theorem slI_len (k n : Nat) : ∀ j, (slI k n j).2.length = j := by
  intro j
  induction j with
  | zero => rfl
  | succ j ih => show ((slI k n j).2 ++ _).length = _; rw [List.length_append, ih]; rfl
/-- One window: all numbers that come up. -/
theorem sl_one {k m : Nat} (hk : 1 ≤ k) (h0 : 0 < m) (h : m ≤ 1000000) : ∃ L l0 q z low v u m' : Nat, Lib.bitLen m = L ∧ L ≤ 20 ∧ L - k = l0 ∧ m / 2 ^ l0 = q ∧ q ≠ 0 ∧ q ≤ m ∧ Lib.ctz 64 q = z ∧
    lowS k m = low ∧ l0 + z = low ∧ low < L ∧ m / 2 ^ low = v ∧ 2 ^ low * v = u ∧ u + m' = m ∧ m % 2 ^ low = m' ∧ 1 ≤ v ∧ v ≤ m ∧ m' < m := by
  have hf := lowS_facts hk h0 h
  have hh := sl_half hk h0 h
  refine ⟨Lib.bitLen m, Lib.bitLen m - k, m / 2 ^ (Lib.bitLen m - k), _, lowS k m, m / 2 ^ lowS k m, 2 ^ lowS k m * (m / 2 ^ lowS k m), m % 2 ^ lowS k m, rfl, bl_bd h, rfl, rfl, ?_, Nat.div_le_self _ _, rfl, rfl, ?_, hf.lt h, rfl, rfl, Nat.div_add_mod _ _, rfl, hh.2.2, Nat.div_le_self _ _, hh.2.1⟩
  · have h1 : 2 ^ (Lib.bitLen m - k) ≤ 2 ^ lowS k m := Nat.pow_le_pow_right (by omega) hf.le
    have h2 := Nat.div_pos (Nat.le_trans h1 hf.pos) (Nat.two_pow_pos (Lib.bitLen m - k))
    exact Nat.pos_iff_ne_zero.1 h2
  · unfold lowS; rfl
/-- All windows are told: nothing is left. -/
def SlEnd (k n j : Nat) : Prop := (slI k n j).1 = 0 ∧ ∀ t, t < j → (slI k n t).1 ≠ 0
def slJ (k n : Nat) : Nat := ((List.range 21).find? fun j => (slI k n j).1 == 0).getD 0
theorem slJ_eq {k n j : Nat} (hk : 1 ≤ k) (hn : n ≤ 1000000) (h : SlEnd k n j) : slJ k n = j := by
  have hj : j < 21 := by
    cases j with
    | zero => omega
    | succ t => have := slI_20 hk hn (h.2 t (by omega)); omega
  have e : (List.range 21).find? (fun j => (slI k n j).1 == 0) = some j := by
    rw [List.find?_range_eq_some]
    refine ⟨by simp [h.1], by simpa using hj, fun t ht => ?_⟩
    simpa using h.2 t ht
  unfold slJ
  rw [e]
  rfl
/-- The windows' numbers. -/
def slN (k n j : Nat) : List Int := (slI k n j).2.map fun x => ((x.2 : Nat) : Int)
theorem slN_succ (k n j : Nat) : slN k n (j + 1) = slN k n j ++ [(((slI k n j).1 / 2 ^ lowS k (slI k n j).1 : Nat) : Int)] := by
  unfold slN
  show ((slI k n j).2 ++ [_]).map _ = _
  rw [List.map_append]
  rfl
def slR (k n : Nat) : List Int := slN k n (slJ k n)
theorem slN_len (k n j : Nat) : (slN k n j).length = j := by unfold slN; rw [List.length_map, slI_len]
end Go.Proofs.YtodjnafalbbmjaaDoor
