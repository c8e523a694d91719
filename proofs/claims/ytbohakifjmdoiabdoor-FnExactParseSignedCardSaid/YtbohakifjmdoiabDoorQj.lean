/- Bit lengths. -/
import Derived.Test.YtbohakifjmdoiabDoorSa
import Derived.Test.YtbohakifjmdoiabDoorBl
import Derived.Lib.BitFns
namespace Go.Proofs.YtbohakifjmdoiabDoor
open Go.RowKit

def bl (n : Int) : Nat := Lib.bitLen n.toNat
theorem bl_more {n : Nat} {b : Nat} (hn : n ≤ 1000000) (h : 2 ^ b ≤ n) : b + 1 ≤ Lib.bitLen n := by
  rw [Lib.bitLen_shift b n h (by omega)]
  have h1 : n / 2 ^ b ≠ 0 := by
    have := Nat.div_pos h (Nat.two_pow_pos b)
    omega
  have h2 : n / 2 ^ b ≤ n := Nat.div_le_self _ _
  rw [Lib.bitLen_half (n / 2 ^ b) h1 (by omega)]
  omega
theorem bl_bd {n : Nat} (hn : n ≤ 1000000) : Lib.bitLen n ≤ 20 := Lib.bitLen_le n 20 (by omega) (by omega)

def isNum (n : Int) : Bool := inB n 1 1000000
def bitN (n : Int) : Int := if isNum n then (bl n : Int) else 0
theorem bitN_true {n : Int} (h : isNum n = true) : bitN n = bl n := by unfold bitN; rw [if_pos h]
theorem bitN_false {n : Int} (h : isNum n = false) : bitN n = 0 := by unfold bitN; rw [h]; rfl
theorem isNum_rng {n : Int} (h : isNum n = true) : 1 ≤ n ∧ n ≤ 1000000 := by
  unfold isNum inB at h
  simpa using h


end Go.Proofs.YtbohakifjmdoiabDoor
