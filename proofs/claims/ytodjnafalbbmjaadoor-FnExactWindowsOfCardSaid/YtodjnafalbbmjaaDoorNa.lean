/- Digits to a base; least factors. -/
import Derived.Test.YtodjnafalbbmjaaDoorQl
import Derived.Test.YtodjnafalbbmjaaDoorQj
namespace Go.Proofs.YtodjnafalbbmjaaDoor
open Go.RowKit

def lenD (b : Nat) : Nat → Nat → Nat
  | 0, _ => 0
  | f + 1, n => if n = 0 then 0 else lenD b f (n / b) + 1
def digL (b n k : Nat) : List Int := (List.range k).map fun i => ((n / b ^ i % b : Nat) : Int)
/-- The digits of n to the base b, the lowest one first. -/
def dgs (b n : Nat) : List Int := digL b n (lenD b 20 n)
theorem lenD_le (b : Nat) : ∀ f n, lenD b f n ≤ f := by
  intro f
  induction f with
  | zero => intro n; exact Nat.le_refl _
  | succ f ih =>
    intro n
    unfold lenD
    split
    · omega
    · have := ih (n / b); omega
theorem lenD_pos (b : Nat) : ∀ f n k, k < lenD b f n → 0 < n / b ^ k := by
  intro f
  induction f with
  | zero => intro n k h; exact absurd h (by simp [lenD])
  | succ f ih =>
    intro n k h
    unfold lenD at h
    split at h
    · omega
    · cases k with
      | zero => simp; omega
      | succ k =>
        have := ih (n / b) k (by omega)
        rwa [Nat.div_div_eq_div_mul, Nat.mul_comm, ← Nat.pow_succ] at this
theorem lenD_end {b : Nat} (hb : 2 ≤ b) : ∀ f n, n < 2 ^ f → n / b ^ lenD b f n = 0 := by
  intro f
  induction f with
  | zero => intro n h; have : n = 0 := by simpa using h
            subst this; simp
  | succ f ih =>
    intro n h
    unfold lenD
    split
    · rename_i h0; subst h0; simp
    · have h1 : n / b < 2 ^ f := by
        have h2 : n / b ≤ n / 2 := Nat.div_le_div_left hb (by omega)
        have : n / 2 < 2 ^ f := by rw [Nat.div_lt_iff_lt_mul (by omega)]; rwa [Nat.pow_succ] at h
        omega
      have := ih (n / b) h1
      rwa [Nat.div_div_eq_div_mul, Nat.mul_comm, ← Nat.pow_succ] at this
theorem digL_len (b n k : Nat) : (digL b n k).length = k := by simp [digL]
theorem digL_succ (b n k : Nat) : digL b n (k + 1) = digL b n k ++ [((n / b ^ k % b : Nat) : Int)] := by simp [digL, List.range_succ]
theorem dgs_len (b n : Nat) : (dgs b n).length ≤ 20 := by unfold dgs; rw [digL_len]; exact lenD_le b 20 n
theorem div_step (b n k : Nat) : n / b ^ k / b = n / b ^ (k + 1) := by rw [Nat.div_div_eq_div_mul, ← Nat.pow_succ]
theorem dgs_end {b n k : Nat} (hk : k ≤ lenD b 20 n) (h : n / b ^ k = 0) : digL b n k = dgs b n := by
  unfold dgs
  rcases Nat.lt_or_eq_of_le hk with h' | h'
  · have := lenD_pos b 20 n k h'; omega
  · rw [h']
theorem dgs_more {b n k : Nat} (hb : 2 ≤ b) (hn : n ≤ 1000000) (hk : k ≤ lenD b 20 n) (h : 0 < n / b ^ k) : k + 1 ≤ lenD b 20 n := by
  rcases Nat.lt_or_eq_of_le hk with h' | h'
  · omega
  · have := lenD_end hb 20 n (by omega)
    rw [h'] at h
    omega

set_option maxRecDepth 100000 in
set_option maxHeartbeats 1000000 in
theorem meDigits_any (b n : Nat) (w : World) (hb2 : 2 ≤ b) (hb64 : b ≤ 64) (hn : n ≤ 1000000) :
    Calls Tryd.prog 16 #[.int .i64 (n : Int), .int .i64 (b : Int)] w fun e w' => ∃ A c, e = .returned (.slice A (dgs b n).length c) ∧ OwI w' w.heap.size (.slice A (dgs b n).length c) (dgs b n) ∧ Below w.heap.size w w' := by
  have hb0 : ((b : Int) == 0) = false := by simp; omega
  go_enter Tryd.func16, Tryd.ntmps16
  go_wp2
  go_loopw [0, 5] (fun nv ov wr => ∃ (k : Nat) (A1 : Option Addr) (c1 : Nat), k ≤ lenD b 20 n ∧ nv = .int .i64 ((n / b ^ k : Nat) : Int) ∧ ov = .slice A1 k c1 ∧ OwI wr w.heap.size ov (digL b n k) ∧ Below w.heap.size w wr) (fun nv _ _ => (intOf nv).toNat)
  case atStart => exact ⟨0, none, 0, by omega, by simp, rfl, OwI.nil _ _, Below.refl _ _⟩
  case round =>
    obtain ⟨k, A1, c1, hk, rfl, rfl, hown, hbel⟩ := hrel
    have OWN := Lib.hid hown
    have BEL := Lib.hid hbel
    have hs := hbel.size
    clear hown hbel
    have hMn : n / b ^ k ≤ n := Nat.div_le_self _ _
    have E1 := Lib.hid (digL_succ b n k)
    have E2 := Lib.hid (div_step b n k)
    have EE := Lib.hid (fun h : n / b ^ k = 0 => dgs_end hk h)
    have EM := Lib.hid (fun h : 0 < n / b ^ k => dgs_more hb2 hn hk h)
    have EL := Lib.hid (digL_len b n k)
    have hk20 := lenD_le b 20 n
    obtain ⟨M, hM⟩ : ∃ M, n / b ^ k = M := ⟨_, rfl⟩
    rw [hM] at hMn E1 E2 EE EM
    rw [hM]
    clear hM
    by_cases hp : 0 < M
    · have ip : (0 : Int) < (M : Int) := by omega
      have hdl : M / b < M := Nat.div_lt_self hp (by omega)
      obtain ⟨Q, hQ⟩ : ∃ Q, M / b = Q := ⟨_, rfl⟩
      rw [hQ] at E2 hdl
      have ew : wrap64 ((M : Int) / (b : Int)) = (Q : Int) := by
        rw [show (M : Int) / (b : Int) = (Q : Int) by rw [← hQ]; push_cast; rfl]
        unfold wrap64; omega
      clear hQ
      go_wp2_with (at_builtin; refine list_step (fun K hK => ?_); refine step_app_int rfl (.tmp 11) (.tmp 15) rfl w.heap.size k _ (digL b n k) rfl (OWN.out.alloc _) EL.out wr.heap.size 1 ((M % b : Nat) : Int) rfl (by simp) (by omega) (by simp; omega) ?_; intro A3 c3 w3 hown3 hg3 hbel3; go_simp; refine hK _ _ ?_; clear hK K)
      go_roundw
      case rel => exact ⟨k + 1, A3, c3, EM.out hp, by rw [ew, ← E2.out], rfl, by rw [E1.out]; exact hown3, (BEL.out.alloc hs _).trans hbel3⟩
      case measure => rw [ew]; simp [intOf]; omega
    · have h0 : M = 0 := by omega
      have ip : ¬ (0 : Int) < (M : Int) := by omega
      have ED := Lib.hid (EE.out h0)
      go_wp2
      go_ret
      exact ⟨A1, c1, by rw [← ED.out, EL.out]; rfl, by rw [← ED.out, EL.out]; exact OWN.out, BEL.out⟩

def dgB (x b : Int) : Bool := isNum x && inB b 2 64
def dgR (x b : Int) : List Int := if dgB x b then dgs b.toNat x.toNat else []
theorem dgR_le (x b : Int) : (dgR x b).length ≤ 1000 := by
  unfold dgR
  split
  · have := dgs_len b.toNat x.toNat; omega
  · simp
theorem dgR_false {x b : Int} (h : dgB x b = false) : dgR x b = [] := by unfold dgR; rw [h]; rfl
theorem dgR_true {x b : Int} (h : dgB x b = true) : dgR x b = dgs b.toNat x.toNat := by unfold dgR; rw [if_pos h]

end Go.Proofs.YtodjnafalbbmjaaDoor
