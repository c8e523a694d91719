/- Lengths of words: values and products. -/
import Derived.Test.YtbbfbccemonihabMol
namespace Go.Proofs.Ytbbfbccemonihab
open Go.RowKit
def hasW (n : Int) : Bool := inB n 0 2000
def addW (a b : Int) : Int := a + b
theorem hasW_rng {n : Int} (h : hasW n = true) : 0 ≤ n ∧ n ≤ 2000 := by simpa [hasW, inB] using h
set_option maxHeartbeats 1000000 in
theorem lenHas_any (n : Int) (w : World) : Calls Try.prog 207 #[.agg #[], .int .i64 n] w fun e w' => e = .returned (.bool (hasW n)) ∧ Below w.heap.size w w' := by
  have hc : (¬ 0 ≤ n) ∨ (0 ≤ n ∧ ¬ n ≤ 2000) ∨ (0 ≤ n ∧ n ≤ 2000) := by omega
  obtain ⟨b, hb⟩ : ∃ b, hasW n = b := ⟨_, rfl⟩
  have HB := Lib.hid hb
  rw [hb]
  clear hb
  rcases hc with h1 | ⟨h1, h2⟩ | ⟨h1, h2⟩
  all_goals
    go_enter Try.func207, Try.ntmps207
    go_wp2
    go_ret
    exact ⟨ret_bool (by rw [← HB.out]; unfold hasW inB; simp [*] <;> omega), (Below.refl _ _).alloc (Nat.le_refl _) _⟩
theorem addW_any (a b : Int) (w : World) (ha : hasW a = true) (hb : hasW b = true) : Calls Try.prog 208 #[.agg #[], .int .i64 a, .int .i64 b] w fun e w' => e = .returned (.int .i64 (addW a b)) ∧ Below w.heap.size w w' := by
  obtain ⟨a0, a1⟩ := hasW_rng ha
  obtain ⟨b0, b1⟩ := hasW_rng hb
  have hw : wrap64 (a + b) = a + b := by unfold wrap64; omega
  clear ha hb
  go_enter Try.func208, Try.ntmps208
  go_wp2
  go_ret
  exact ⟨rfl, (Below.refl _ _).alloc (Nat.le_refl _) _⟩
theorem wl_len (p : Pl) (l : List Int) : (runV hasW addW p l).length ≤ 1000 := by
  unfold runV
  split
  · rename_i h
    unfold runB at h
    rw [Bool.and_eq_true] at h
    obtain ⟨_, _, _, _, _, ho, _⟩ := good_facts h.1
    rw [outs_len]
    omega
  · simp
theorem wrapA {x y : Nat} (hx : x ≤ 2000) (hy : y ≤ 2000) : IntKind.i64.wrap ((x : Int) + (y : Int)) = ((x + y : Nat) : Int) := by
  rw [show (x : Int) + (y : Int) = ((x + y : Nat) : Int) by push_cast; rfl]
  exact IntWalk.i64_in _ (by omega)
theorem all_hasW (l : List Int) : l.all hasW = allB l 0 2000 := rfl
end Go.Proofs.Ytbbfbccemonihab
