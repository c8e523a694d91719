/- Window digits and the sparse form: of both programs. -/
import Derived.Test.YtbohakifjmdoiabDoorN9a
namespace Go.Proofs.YtbohakifjmdoiabDoor
open Go.RowKit

/-- A width and its power. -/
def WT (W T : Int) : Prop := (W = 2 ∧ T = 4) ∨ (W = 3 ∧ T = 8) ∨ (W = 4 ∧ T = 16) ∨ (W = 5 ∧ T = 32) ∨ (W = 6 ∧ T = 64)
theorem WT.tt {W T : Int} (h : WT W T) : TT T := by rcases h with ⟨_, h⟩ | ⟨_, h⟩ | ⟨_, h⟩ | ⟨_, h⟩ | ⟨_, h⟩ <;> simp [TT, h]
def isN9 (n : Int) : Bool := inB n (-1000000) 1000000
def pwT (W : Int) : Int := if W = 2 then 4 else if W = 3 then 8 else if W = 4 then 16 else if W = 5 then 32 else 64
theorem pwT_ok {W : Int} (h : inB W 2 6 = true) : WT W (pwT W) := by
  have h : 2 ≤ W ∧ W ≤ 6 := by simpa [inB] using h
  have : W = 2 ∨ W = 3 ∨ W = 4 ∨ W = 5 ∨ W = 6 := by omega
  rcases this with rfl | rfl | rfl | rfl | rfl <;> simp [WT, pwT]

theorem tmod2 (n : Int) : n.tmod 2 = 0 ↔ n % 2 = 0 := by
  rw [← Int.dvd_iff_tmod_eq_zero, ← Int.dvd_iff_emod_eq_zero]
theorem tdiv2 {x : Int} (h : x % 2 = 0) : x.tdiv 2 = x / 2 := Int.tdiv_eq_ediv_of_dvd (Int.dvd_of_emod_eq_zero h)
end Go.Proofs.YtbohakifjmdoiabDoor
