/- digitOf of the program. -/
import Derived.Test.YtbohakifjmdoiabDoorN9A
import Derived.Test.YtbohakifjmdoiabDoorN9z
namespace Go.Proofs.YtbohakifjmdoiabDoor
open Go.RowKit

def tbl (k : Int) : Int := if k = 0 then 45 else if k = 1 then 48 else 43
set_option maxRecDepth 100000 in
set_option maxHeartbeats 4000000 in
theorem digitOf_any (z : Int) (w : World) (hT : LtT w) :
    Calls Tryd.prog 19 #[.int .u8 z] w fun e w' => e = .returned (.tuple #[.int .i64 (if okL z then dgL z else 0), .bool (okL z)]) ∧ w = w' := by
  obtain ⟨T0, T1, T2⟩ := hT
  obtain ⟨R, hR⟩ : ∃ R : Value, Value.tuple #[.int .i64 (if okL z then dgL z else 0), .bool (okL z)] = R := ⟨_, rfl⟩
  have HR := Lib.hid hR
  rw [hR]
  clear hR
  go_enter Tryd.func19, Tryd.ntmps19
  have x0 : ∀ W : World, (Instr.index 37 (.agg #[.int .u8 45, .int .u8 48, .int .u8 43]) (.int .i64 0)).run Tryd.prog W = .ok (.int .u8 45) W := fun W => by kernel_rfl
  have x1 : ∀ W : World, (Instr.index 37 (.agg #[.int .u8 45, .int .u8 48, .int .u8 43]) (.int .i64 1)).run Tryd.prog W = .ok (.int .u8 48) W := fun W => by kernel_rfl
  have x2 : ∀ W : World, (Instr.index 37 (.agg #[.int .u8 45, .int .u8 48, .int .u8 43]) (.int .i64 2)).run Tryd.prog W = .ok (.int .u8 43) W := fun W => by kernel_rfl
  go_wp2
  go_loopw [7] (fun i wr => ∃ k : Int, 0 ≤ k ∧ k ≤ 3 ∧ i = .int .i64 k ∧ (∀ j, 0 ≤ j → j < k → tbl j ≠ z) ∧ wr = w) (fun i _ => 3 - (intOf i).toNat)
  case atStart => exact ⟨0, by omega, by omega, rfl, fun j h0 hj => absurd hj (by omega), rfl⟩
  case round =>
    obtain ⟨k, hk0, hk, rfl, hnz, rfl⟩ := hrel
    have NZ := Lib.hid hnz
    clear hnz
    obtain rfl | rfl | rfl | rfl : k = 0 ∨ k = 1 ∨ k = 2 ∨ k = 3 := by omega
    · by_cases h : z = 45
      · have E := Lib.hid (show Value.tuple #[.int .i64 (-1), .bool true] = R by rw [← HR.out, h]; rfl)
        have ic : ((45 : Int) == z) = true := by simp [h]
        clear h
        go_wp2
        go_ret2
        exact ⟨by rw [← E.out]; rfl, rfl⟩
      · have NZ2 := Lib.hid (show ∀ j, 0 ≤ j → j < 0+1 → tbl j ≠ z from fun j h0 hj e => by
          by_cases e2 : j = 0
          · subst e2; exact h e.symm
          · exact NZ.out j h0 (by omega) e)
        have ic : ((45 : Int) == z) = false := by simpa using fun e => h e.symm
        clear h
        go_wp2
        go_roundw
        case rel => exact ⟨0+1, by omega, by omega, by go_num, NZ2.out, trivial⟩
        case measure => simp [intOf]
    · by_cases h : z = 48
      · have E := Lib.hid (show Value.tuple #[.int .i64 (0), .bool true] = R by rw [← HR.out, h]; rfl)
        have ic : ((48 : Int) == z) = true := by simp [h]
        clear h
        go_wp2
        go_ret2
        exact ⟨by rw [← E.out]; rfl, rfl⟩
      · have NZ2 := Lib.hid (show ∀ j, 0 ≤ j → j < 1+1 → tbl j ≠ z from fun j h0 hj e => by
          by_cases e2 : j = 1
          · subst e2; exact h e.symm
          · exact NZ.out j h0 (by omega) e)
        have ic : ((48 : Int) == z) = false := by simpa using fun e => h e.symm
        clear h
        go_wp2
        go_roundw
        case rel => exact ⟨1+1, by omega, by omega, by go_num, NZ2.out, trivial⟩
        case measure => simp [intOf]
    · by_cases h : z = 43
      · have E := Lib.hid (show Value.tuple #[.int .i64 (1), .bool true] = R by rw [← HR.out, h]; rfl)
        have ic : ((43 : Int) == z) = true := by simp [h]
        clear h
        go_wp2
        go_ret2
        exact ⟨by rw [← E.out]; rfl, rfl⟩
      · have NZ2 := Lib.hid (show ∀ j, 0 ≤ j → j < 2+1 → tbl j ≠ z from fun j h0 hj e => by
          by_cases e2 : j = 2
          · subst e2; exact h e.symm
          · exact NZ.out j h0 (by omega) e)
        have ic : ((43 : Int) == z) = false := by simpa using fun e => h e.symm
        clear h
        go_wp2
        go_roundw
        case rel => exact ⟨2+1, by omega, by omega, by go_num, NZ2.out, trivial⟩
        case measure => simp [intOf]
    · have z1 : z ≠ 45 := fun e => NZ.out 0 (by omega) (by omega) e.symm
      have z2 : z ≠ 48 := fun e => NZ.out 1 (by omega) (by omega) e.symm
      have z3 : z ≠ 43 := fun e => NZ.out 2 (by omega) (by omega) e.symm
      have E := Lib.hid (show Value.tuple #[.int .i64 0, .bool false] = R by rw [← HR.out, show okL z = false by simp [okL, z1, z2, z3]]; rfl)
      clear z1 z2 z3
      go_wp2
      go_ret2
      exact ⟨by rw [← E.out]; rfl, rfl⟩
end Go.Proofs.YtbohakifjmdoiabDoor
