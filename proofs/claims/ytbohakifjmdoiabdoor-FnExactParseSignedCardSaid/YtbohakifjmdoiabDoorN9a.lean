/- Digits of signed numbers as data: window digits, sums, what is apart, weights. -/
import Derived.Test.YtbohakifjmdoiabDoorSa
import Derived.Test.YtbohakifjmdoiabDoorAp
import Derived.Laws.Bits64b
namespace Go.Proofs.YtbohakifjmdoiabDoor
open Go.RowKit

/-- What a width's power may be. -/
def TT (T : Int) : Prop := T = 4 ∨ T = 8 ∨ T = 16 ∨ T = 32 ∨ T = 64
/-- The first digit of a number. -/
def wdg (T n : Int) : Int := if n % 2 = 0 then 0 else if T / 2 < n % T then n % T - T else n % T
/-- The digits of a number, at most so many. -/
def wds : Nat → Int → Int → List Int
  | 0, _, _ => []
  | f + 1, T, n => if n = 0 then [] else wdg T n :: wds f T ((n - wdg T n) / 2)
/-- The window digits of a number. -/
def wnD (T n : Int) : List Int := wds n.natAbs T n
theorem wdg_even {T n : Int} (hT : TT T) : (n - wdg T n) % 2 = 0 := by
  unfold wdg
  rcases hT with rfl | rfl | rfl | rfl | rfl <;> (repeat' split) <;> omega
theorem wdg_odd {T n : Int} (hT : TT T) (h : n % 2 ≠ 0) : wdg T n % 2 ≠ 0 := by
  unfold wdg
  rcases hT with rfl | rfl | rfl | rfl | rfl <;> (repeat' split) <;> omega
theorem wdg_bd {T n : Int} (hT : TT T) : - (T / 2) < wdg T n ∧ wdg T n < T / 2 := by
  unfold wdg
  rcases hT with rfl | rfl | rfl | rfl | rfl <;> (repeat' split) <;> omega
theorem wdg_bd' {T n : Int} (hT : TT T) : - 31 ≤ wdg T n ∧ wdg T n ≤ 31 := by
  have := wdg_bd (n := n) hT
  rcases hT with rfl | rfl | rfl | rfl | rfl <;> omega
theorem wdg_less {T n : Int} (hT : TT T) (h : n ≠ 0) : ((n - wdg T n) / 2).natAbs < n.natAbs := by
  unfold wdg
  rcases hT with rfl | rfl | rfl | rfl | rfl <;> (repeat' split) <;> omega
theorem wdg_half {T n : Int} {K : Nat} (hT : TT T) (h : n.natAbs ≤ 31 + 2 * K) : ((n - wdg T n) / 2).natAbs ≤ 31 + K := by
  have := wdg_bd' (n := n) hT
  have := wdg_even (n := n) hT
  omega
theorem wds_zero (f : Nat) (T : Int) : wds f T 0 = [] := by cases f <;> simp [wds]
theorem wds_fuel {T : Int} (hT : TT T) : ∀ (f g : Nat) (n : Int), n.natAbs ≤ f → n.natAbs ≤ g → wds f T n = wds g T n := by
  intro f
  induction f with
  | zero => intro g n h1 _; have : n = 0 := by omega
            subst this; rw [wds_zero, wds_zero]
  | succ f ih =>
    intro g n h1 h2
    by_cases h0 : n = 0
    · subst h0; rw [wds_zero, wds_zero]
    · cases g with
      | zero => omega
      | succ g =>
        have := wdg_less (T := T) hT h0
        simp only [wds, h0, if_false]
        rw [ih g _ (by omega) (by omega)]
theorem wnD_zero (T : Int) : wnD T 0 = [] := wds_zero _ _
theorem wnD_step {T n : Int} (hT : TT T) (h : n ≠ 0) : wnD T n = wdg T n :: wnD T ((n - wdg T n) / 2) := by
  have := wdg_less (T := T) hT h
  unfold wnD
  obtain ⟨f, hf⟩ : ∃ f, n.natAbs = f + 1 := ⟨n.natAbs - 1, by omega⟩
  rw [hf, wds]
  simp only [h, if_false]
  rw [wds_fuel hT f _ _ (by omega) (Nat.le_refl _)]
theorem wnD_small {T : Int} (hT : TT T) : ∀ n : Int, n.natAbs ≤ 32 → (wnD T n).length ≤ 8 := by
  have key : ∀ m : Fin 65, ∀ x ∈ [(4 : Int), 8, 16, 32, 64], (wnD x ((m.val : Int) - 32)).length ≤ 8 := by decide +kernel
  intro n hn
  have := key ⟨(n + 32).toNat, by omega⟩ T (by rcases hT with rfl | rfl | rfl | rfl | rfl <;> simp)
  rw [show (((⟨(n + 32).toNat, by omega⟩ : Fin 65).val : Int) - 32) = n by simp only []; omega] at this
  exact this
theorem wnD_len {T : Int} (hT : TT T) : ∀ (k : Nat) (n : Int), n.natAbs ≤ 31 + 2 ^ k → (wnD T n).length ≤ 8 + k := by
  intro k
  induction k with
  | zero => intro n hn; exact wnD_small hT n (by simpa using hn)
  | succ k ih =>
    intro n hn
    by_cases h0 : n = 0
    · subst h0; rw [wnD_zero]; simp
    · rw [wnD_step hT h0]
      have := ih _ (wdg_half (n := n) (K := 2 ^ k) hT (by rw [Nat.pow_succ] at hn; omega))
      simp only [List.length_cons]; omega
theorem wnD_len28 {T n : Int} (hT : TT T) (h : n.natAbs ≤ 1000000) : (wnD T n).length ≤ 28 := wnD_len hT 20 n (by simp; omega)
theorem wnD_mem {T : Int} (hT : TT T) : ∀ (f : Nat) (n : Int), n.natAbs ≤ f → ∀ d ∈ wnD T n, -31 ≤ d ∧ d ≤ 31 := by
  intro f
  induction f with
  | zero => intro n h1 d hd; have : n = 0 := by omega
            subst this; rw [wnD_zero] at hd; cases hd
  | succ f ih =>
    intro n h1 d hd
    by_cases h0 : n = 0
    · subst h0; rw [wnD_zero] at hd; cases hd
    · rw [wnD_step hT h0] at hd
      have := wdg_less hT h0
      rcases List.mem_cons.1 hd with rfl | h
      · exact wdg_bd' hT
      · exact ih _ (by omega) d h
theorem wnD_mem4 : ∀ (f : Nat) (n : Int), n.natAbs ≤ f → ∀ d ∈ wnD 4 n, -1 ≤ d ∧ d ≤ 1 := by
  intro f
  induction f with
  | zero => intro n h1 d hd; have : n = 0 := by omega
            subst this; rw [wnD_zero] at hd; cases hd
  | succ f ih =>
    intro n h1 d hd
    by_cases h0 : n = 0
    · subst h0; rw [wnD_zero] at hd; cases hd
    · rw [wnD_step (.inl rfl) h0] at hd
      have := wdg_less (T := 4) (.inl rfl) h0
      rcases List.mem_cons.1 hd with rfl | h
      · have := wdg_bd (n := n) (T := 4) (.inl rfl); omega
      · exact ih _ (by omega) d h
/-- The digits of a number other than 0 end with one other than 0; of one greater than 0 they aren't empty. -/
theorem wnD_last {T : Int} (hT : TT T) : ∀ (f : Nat) (n : Int), n.natAbs ≤ f → n ≠ 0 → ∃ l d, wnD T n = l ++ [d] ∧ d ≠ 0 := by
  intro f
  induction f with
  | zero => intro n h1 h2; omega
  | succ f ih =>
    intro n h1 h0
    rw [wnD_step hT h0]
    have := wdg_less hT h0
    by_cases hz : (n - wdg T n) / 2 = 0
    · rw [hz, wnD_zero]
      refine ⟨[], _, rfl, ?_⟩
      intro e
      have := wdg_even (n := n) hT
      omega
    · obtain ⟨l, d, e, hd⟩ := ih _ (by omega) hz
      exact ⟨wdg T n :: l, d, by rw [e]; rfl, hd⟩
/-- The sum for which digits stand. -/
def smD : List Int → Int
  | [] => 0
  | d :: l => d + 2 * smD l
theorem smD_app (a b : List Int) : smD (a ++ b) = smD a + 2 ^ a.length * smD b := by
  induction a with
  | nil => simp [smD]
  | cons d a ih => simp only [List.cons_append, smD, ih, List.length_cons, Int.pow_succ]; rw [Int.mul_add, Int.add_assoc, ← Int.mul_assoc, Int.mul_comm 2 (2 ^ a.length)]
theorem smD_bd (l : List Int) {M : Int} (h0 : 0 ≤ M) (h : ∀ d ∈ l, -M ≤ d ∧ d ≤ M) : -(M * 2 ^ l.length) ≤ smD l ∧ smD l ≤ M * 2 ^ l.length ∧ 0 ≤ M * 2 ^ l.length := by
  suffices h : -(M * 2 ^ l.length - M) ≤ smD l ∧ smD l ≤ M * 2 ^ l.length - M by
    have : (0 : Int) ≤ M * 2 ^ l.length := Int.mul_nonneg h0 (Int.pow_nonneg (by omega))
    omega
  induction l with
  | nil => simp [smD]
  | cons d l ih =>
    have h1 := ih (fun d hd => h d (by simp [hd]))
    have h2 := h d (by simp)
    simp only [smD, List.length_cons, Int.pow_succ]
    have e : M * (2 ^ l.length * 2) = 2 * (M * 2 ^ l.length) := by rw [← Int.mul_assoc, Int.mul_comm]
    rw [e]
    omega
/-- A list of digits as the program sees it, with so many zeros before it. -/
def okd (W d : Int) : Bool := decide (d % 2 ≠ 0) && decide (-W < d) && decide (d < W)
def prD (w W : Int) : Int → List Int → Bool
  | z, [] => decide (z = 0)
  | z, d :: l => if d = 0 then prD w W (z + 1) l else if z < w - 1 then false else if okd W d then prD w W 0 l else false
def apD (w : Int) : Int → List Int → Bool
  | _, [] => true
  | z, d :: l => if d = 0 then apD w (z + 1) l else decide (w - 1 ≤ z) && apD w 0 l
def lnz : Int → List Int → Bool
  | z, [] => decide (z = 0)
  | _, d :: l => if d = 0 then lnz 1 l else lnz 0 l
theorem lnz_pos : ∀ (l : List Int) {z z' : Int}, 0 < z → 0 < z' → lnz z l = lnz z' l := by
  intro l
  induction l with
  | nil => intro z z' h h'; simp [lnz]; omega
  | cons d l ih => intro _ _ _ _; simp [lnz]
theorem prD_eq (w W : Int) : ∀ (l : List Int) (z : Int), 0 ≤ z → prD w W z l = (l.all (fun d => d == 0 || okd W d) && apD w z l && lnz z l) := by
  intro l
  induction l with
  | nil => intro z _; simp [prD, apD, lnz]
  | cons d l ih =>
    intro z hz
    by_cases h0 : d = 0
    · simp only [prD, apD, lnz, h0, if_true, List.all_cons]
      rw [ih _ (by omega), lnz_pos l (z := z + 1) (z' := 1) (by omega) (by omega)]
      simp
    · simp only [prD, apD, lnz, h0, if_false, List.all_cons]
      rw [ih 0 (by omega)]
      by_cases h1 : z < w - 1
      · have : ¬ w - 1 ≤ z := by omega
        simp [h1, this]
      · have : w - 1 ≤ z := by omega
        simp only [h1, if_false, this, decide_true, Bool.true_and]
        have : (d == 0) = false := by simpa using h0
        rw [this, Bool.false_or]
        cases okd W d <;> simp
theorem lnz_last (l : List Int) (d z : Int) : lnz z (l ++ [d]) = decide (d ≠ 0) := by
  induction l generalizing z with
  | nil => by_cases h : d = 0 <;> simp [lnz, h]
  | cons x l ih => simp only [List.cons_append, lnz]; split <;> exact ih _
/-- The weight of digits. -/
def wtD (l : List Int) : Int := ((l.filter (fun d => d != 0)).length : Int)
theorem wtD_cons (d : Int) (l : List Int) : wtD (l ++ [d]) = wtD l + (if d = 0 then 0 else 1) := by
  unfold wtD
  by_cases h : d = 0 <;> simp [List.filter_append, h]
theorem wtD_le (l : List Int) : 0 ≤ wtD l ∧ wtD l ≤ l.length := ⟨by unfold wtD; omega, by unfold wtD; have := List.length_filter_le (fun d => d != 0) l; omega⟩

/-- Digits. -/
def isD (l : List Int) : Bool := decide (l.length ≤ 24) && allB l (-1) 1
/-- The and of a number and a mask of ones. -/
theorem bits_mask (x : Int) (j : Nat) (hj : j ≤ 30) : bits .and .i64 x ((2 ^ j - 1 : Nat) : Int) = x % 2 ^ j := by
  have h1 : (BitVec.ofInt 64 x).toNat = (x % 18446744073709551616).toNat := by rw [BitVec.toNat_ofInt]; rfl
  have hp : 2 ^ j ≤ 2 ^ 30 := Nat.pow_le_pow_right (by omega) hj
  have hp1 : 0 < 2 ^ j := Nat.pow_pos (by omega)
  have h2 : (BitVec.ofInt 64 ((2 ^ j - 1 : Nat) : Int)).toNat = 2 ^ j - 1 := by
    rw [BitVec.ofInt_natCast, BitVec.toNat_ofNat]; exact Nat.mod_eq_of_lt (by omega)
  show IntKind.i64.wrap ((BitVec.ofInt 64 x &&& BitVec.ofInt 64 ((2 ^ j - 1 : Nat) : Int)).toNat : Int) = _
  rw [BitVec.toNat_and, h1, h2, Nat.and_two_pow_sub_one_eq_mod]
  have h3 : (((x % 18446744073709551616).toNat % 2 ^ j : Nat) : Int) = x % 2 ^ j := by
    rw [Int.natCast_emod, show ((x % 18446744073709551616).toNat : Int) = x % 18446744073709551616 by omega, show ((2 ^ j : Nat) : Int) = 2 ^ j by simp]
    refine Int.emod_emod_of_dvd x ?_
    refine ⟨2 ^ (64 - j), ?_⟩
    rw [← Int.pow_add, show j + (64 - j) = 64 by omega]
    rfl
  rw [h3]
  have h4 : 0 ≤ x % 2 ^ j := Int.emod_nonneg _ (by have : (0:Int) < 2 ^ j := Int.pow_pos (by omega); omega)
  have h5 : x % 2 ^ j < 1073741825 := by
    have h6 := Int.emod_lt_of_pos x (show (0:Int) < 2 ^ j from Int.pow_pos (by omega))
    have h7 : 2 ^ j ≤ 1073741824 := hp
    have : ((2 ^ j : Nat) : Int) ≤ 1073741824 := by omega
    rw [show ((2 ^ j : Nat) : Int) = 2 ^ j by simp] at this
    omega
  rw [IntKind.wrap_i64]
  omega
end Go.Proofs.YtbohakifjmdoiabDoor
