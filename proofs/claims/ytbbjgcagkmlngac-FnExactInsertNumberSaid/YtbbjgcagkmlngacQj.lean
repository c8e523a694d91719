/- Bit lengths. -/
import Derived.Test.YtbbjgcagkmlngacSa
import Derived.Test.YtbbjgcagkmlngacBl
import Derived.Lib.BitFns
namespace Go.Proofs.Ytbbjgcagkmlngac
open Go.RowKit

def bl (n : Int) : Nat := Lib.bitLen n.toNat
theorem bl_more {n : Nat} {b : Nat} (hn : n ≤ 1000000) (h : 2 ^ b ≤ n) : b + 1 ≤ Lib.bitLen n := by
  rw [Lib.bitLen_shift b n h (by omega)]
  have h1 : n / 2 ^ b ≠ 0 := by
    have := Nat.div_pos h (Nat.two_pow_pos b)
    omega
  have h2 : n / 2 ^ b ≤ n := Nat.div_le_self _ _
  rw [Lib.bitLen_half (n / 2 ^ b) h1 (by omega)]
  omega
theorem bl_bd {n : Nat} (hn : n ≤ 1000000) : Lib.bitLen n ≤ 20 := Lib.bitLen_le n 20 (by omega) (by omega)

set_option maxRecDepth 100000 in
set_option maxHeartbeats 1000000 in
theorem chLength_any (n : Int) (w : World) (h0 : 0 ≤ n) (h1 : n ≤ 1000000) :
    Calls Try.prog 56 #[.int .i64 n] w fun e w' => e = .returned (.int .i64 (bl n)) ∧ w = w' := by
  obtain ⟨N, rfl⟩ : ∃ N : Nat, n = N := ⟨n.toNat, by omega⟩
  have hbd := bl_bd (n := N) (by omega)
  obtain ⟨L, hL⟩ : ∃ L, Lib.bitLen N = L := ⟨_, rfl⟩
  have e : bl (N : Int) = L := by unfold bl; rw [← hL]; rfl
  rw [e]
  rw [hL] at hbd
  have HL := Lib.hid hL
  clear hL e
  go_enter Try.func56, Try.ntmps56
  go_wp2
  go_loop [3] (fun i => ∃ b : Nat, b ≤ L ∧ i = .int .i64 b) (fun i => L - (intOf i).toNat)
  case atStart => exact ⟨0, by omega, rfl⟩
  case round =>
    obtain ⟨b, hb, rfl⟩ := hrel
    by_cases hp : 2 ^ b ≤ N
    · have hlt : b + 1 ≤ L := by rw [← HL.out]; exact bl_more (by omega) hp
      have ip : (0 : Int) < (N : Int) / 2 ^ b := by
        have h := Nat.div_pos hp (Nat.two_pow_pos b)
        have e : ((N / 2 ^ b : Nat) : Int) = (N : Int) / 2 ^ b := by push_cast; rfl
        omega
      clear hp
      go_wp2
      go_round
      case rel => exact ⟨b + 1, by omega, by go_num⟩
      case measure => simp [intOf]; omega
    · have hle : L ≤ b := by rw [← HL.out]; exact Lib.bitLen_le N b (by omega) (by omega)
      have ip : ¬ (0 : Int) < (N : Int) / 2 ^ b := by
        have h := Nat.div_eq_of_lt (Nat.lt_of_not_le hp)
        have e : ((N / 2 ^ b : Nat) : Int) = (N : Int) / 2 ^ b := by push_cast; rfl
        omega
      have eb : b = L := by omega
      subst eb
      clear hp
      go_wp2
      go_ret
      exact ⟨rfl, rfl⟩

def isNum (n : Int) : Bool := inB n 1 1000000
def bitN (n : Int) : Int := if isNum n then (bl n : Int) else 0
theorem bitN_true {n : Int} (h : isNum n = true) : bitN n = bl n := by unfold bitN; rw [if_pos h]
theorem bitN_false {n : Int} (h : isNum n = false) : bitN n = 0 := by unfold bitN; rw [h]; rfl
theorem isNum_rng {n : Int} (h : isNum n = true) : 1 ≤ n ∧ n ≤ 1000000 := by
  unfold isNum inB at h
  simpa using h

theorem chNumber_any (n : Int) (w : World) : Calls Try.prog 59 #[.int .i64 n] w fun e w' => e = .returned (.bool (isNum n)) ∧ w = w' := by
  go_enter Try.func59, Try.ntmps59
  go_wp2_with (go_at_call 76; refine (l1In_any _ _ _ _).mono ?_; rintro e w' ⟨rfl, rfl⟩)
  go_ret
  exact ⟨rfl, rfl⟩

end Go.Proofs.Ytbbjgcagkmlngac
