/- Windows that slide over the binary digits of a number, by the model. -/
import Derived.Test.YtodjnafalbbmjaaDoorSn
import Derived.Test.YtodjnafalbbmjaaDoorYb
namespace Go.Proofs.YtodjnafalbbmjaaDoor
open Go.RowKit

theorem lenD_bitsS : ∀ f n, lenD 2 f n = Lib.bitLenAux f n := by
  intro f
  induction f with
  | zero => intro n; rfl
  | succ f ih =>
    intro n
    unfold lenD Lib.bitLenAux
    rw [ih]
    split <;> omega
theorem dgsS {n : Nat} (hn : n ≤ 1000000) : (dgs 2 n).length = Lib.bitLen n ∧ ∀ j, j < Lib.bitLen n → (dgs 2 n).getD j 0 = ((n / 2 ^ j % 2 : Nat) : Int) := by
  have hl : lenD 2 20 n = Lib.bitLen n := by rw [lenD_bitsS]; exact (Lib.bitLenAux_fuel 20 n (by omega) 64 (by omega)).symm
  refine ⟨by unfold dgs; rw [digL_len, hl], fun j hj => ?_⟩
  unfold dgs digL
  rw [List.getD_eq_getElem?_getD, List.getElem?_map, List.getElem?_range (by omega)]
  rfl
def posF (l : List Int) : List Int := l.filter fun x => decide (0 < x)
theorem posF_zero (l : List Int) : posF (l ++ [0]) = posF l := by simp [posF]
theorem posF_pos (l : List Int) {v : Nat} (h : 1 ≤ v) : posF (l ++ [(v : Int)]) = posF l ++ [(v : Int)] := by
  unfold posF
  rw [List.filter_append]
  congr 1
  simp
  omega
theorem mod_low {n i : Nat} (h : n / 2 ^ i % 2 = 0) : n % 2 ^ (i + 1) = n % 2 ^ i := by
  rw [Nat.pow_succ, Nat.mod_mul, h]
  omega
/-- One window of the model. -/
theorem sp_one {k n i : Nat} (hk : 1 ≤ k) (hn : n ≤ 1000000) (h : n / 2 ^ i % 2 = 1) : ∃ l0 low v : Nat, i + 1 - k = l0 ∧ lowS k (n % 2 ^ (i + 1)) = low ∧ l0 ≤ low ∧ low ≤ i ∧ n % 2 ^ (i + 1) / 2 ^ low = v ∧ 1 ≤ v ∧ v ≤ 1000000 ∧
    (∀ j, l0 ≤ j → j < low → n / 2 ^ j % 2 = 0) ∧ n / 2 ^ low % 2 = 1 ∧ n / 2 ^ low % 2 ^ (i - low + 1) = v ∧ n % 2 ^ (i + 1) % 2 ^ low = n % 2 ^ low := by
  have hm1 : 2 ^ i ≤ n % 2 ^ (i + 1) := by
    rw [Nat.pow_succ, Nat.mod_mul, h]
    omega
  have hm2 := Nat.mod_lt n (Nat.two_pow_pos (i + 1))
  have hm3 : n % 2 ^ (i + 1) ≤ 1000000 := Nat.le_trans (Nat.mod_le _ _) hn
  have h0 : 0 < n % 2 ^ (i + 1) := Nat.lt_of_lt_of_le (Nat.two_pow_pos i) hm1
  have hL := bl_eq hm3 hm1 hm2
  have hf := lowS_facts hk h0 hm3
  have hlt := hf.lt hm3
  rw [hL] at hf hlt
  have hbit : ∀ j, j ≤ i → n % 2 ^ (i + 1) / 2 ^ j % 2 = n / 2 ^ j % 2 := fun j hj => by
    have e : 2 ^ (i + 1) = 2 ^ j * 2 ^ (i + 1 - j) := by rw [← Nat.pow_add]; congr 1; omega
    rw [e, Nat.mod_mul_right_div_self]
    exact Nat.mod_mod_of_dvd _ ⟨2 ^ (i - j), by rw [← Nat.pow_succ']; congr 1; omega⟩
  refine ⟨i + 1 - k, lowS k (n % 2 ^ (i + 1)), n % 2 ^ (i + 1) / 2 ^ lowS k (n % 2 ^ (i + 1)), rfl, rfl, hf.le, by omega, rfl, Nat.div_pos hf.pos (Nat.two_pow_pos _), Nat.le_trans (Nat.div_le_self _ _) hm3, fun j h1 h2 => ?_, ?_, ?_, ?_⟩
  · rw [← hbit j (by omega)]
    exact hf.zero j h1 h2
  · rw [← hbit _ (by omega)]
    exact hf.one
  · have e : 2 ^ (i + 1) = 2 ^ lowS k (n % 2 ^ (i + 1)) * 2 ^ (i - lowS k (n % 2 ^ (i + 1)) + 1) := by rw [← Nat.pow_add]; congr 1; omega
    obtain ⟨low, hlow⟩ : ∃ low, lowS k (n % 2 ^ (i + 1)) = low := ⟨_, rfl⟩
    rw [hlow] at e ⊢
    rw [e, Nat.mod_mul_right_div_self]
  · exact Nat.mod_mod_of_dvd _ (Nat.pow_dvd_pow 2 (by omega))
section
variable {ops : Array Oper} {o : Oper} {a : Act} {Q : Exit → Act → World → Prop} {w : World}
/-- append(v, x) of one integer onto an own slice, and where the new one lies: in a region that draws. -/
theorem step_app_intH {K : Act → World → Prop} {E : Prop} (hgd : o.guard = none) (s x : Operand)
    (ho : o.op = .call { callee := .builtin .append, args := #[s, x], argTypes := #[22, 22] })
    (B n : Nat) (v : Value) (l : List Int) (hs : a.eval s = v) (hown : OwI w B v l) (hl : l.length = n) (b c : Nat) (u : Int) (hx : a.eval x = .slice (some ⟨b, 0, none⟩) 1 c)
    (hu : w.cell? ⟨b, 0, none⟩ = some (I u)) (hn : n ≤ 4000000) (hB : B ≤ w.heap.size)
    (h : ∀ g cap w', OwI w' B (.slice (some ⟨g, 0, none⟩) (n + 1) cap) (l ++ [u]) → w.grownBy w' v.ownBlock → Below B w w' → (v.ownBlock = some g ∨ g = w.heap.size) → K (a.put o.dst (.slice (some ⟨g, 0, none⟩) (n + 1) cap)) w') :
    if Region.wanted o (yielded ops a.tmps) = true then Oper.wp Tryd.prog o a w K Q else E := by
  subst hl
  obtain ⟨i0, hi, hz0, hz1, hz2⟩ := info_parts info_int
  refine step_append_lies _ hgd s x _ ho B 3 i0 _ 1 8 Tryd.underlying22 hi hz0 hz1 hz2 rfl (by omega) v l.length (l.map I) hs hown ⟨b, 0, none⟩ 1 c [I u] hx rfl ?_ ?_ (by omega) (by unfold maxLen; omega) (by omega) hB w.heap.size rfl ?_
  · intro j y hj
    match j, hj with
    | 0, hj => simp at hj; subst hj; simpa [Addr.add] using hu
  · intro y hy; simp at hy; subst hy; rfl
  · intro g cap w' hown' hg hat _
    exact h g cap w' (by simpa [OwI] using hown') hg (below_of_own hown hB hg) hat
end
theorem Apt.symm {v v' : Value} (h : Apt v v') : Apt v' v := fun k h1 h2 => h k h2 h1
end Go.Proofs.YtodjnafalbbmjaaDoor
