/- Lists that are answered if they are chains; copies of lists. -/
import Derived.Test.YtbbfbccemonihabQg
import Derived.Test.YtbbfbccemonihabQj
import Derived.Test.YtbbfbccemonihabQn0
namespace Go.Proofs.Ytbbfbccemonihab
open Go.RowKit

/-- A list that is answered if b. -/
def selL (b : Bool) (l : List Int) : List Int := if b then l else []
theorem selL_true {b : Bool} {l : List Int} (h : b = true) : selL b l = l := by unfold selL; rw [if_pos h]
theorem selL_false {b : Bool} {l : List Int} (h : b = false) : selL b l = [] := by unfold selL; rw [h]; rfl
theorem selL_le {b : Bool} {l : List Int} (h : b = true → chG l = true) : (selL b l).length ≤ 1000 := by
  cases b with
  | false => simp [selL]
  | true => have := (chG_chn (h rfl)).most; rw [selL_true rfl]; omega
theorem and_chG {b : Bool} {l : List Int} (h : (b && chG l) = true) : chG l = true := by simp only [Bool.and_eq_true] at h; exact h.2

set_option maxRecDepth 100000 in
set_option maxHeartbeats 1000000 in
theorem chIf_any (B : Nat) (A : Option Addr) (c : Nat) (l : List Int) (w : World) (hl : l.length ≤ 1048576) (hown : OwI w B (.slice A l.length c) l) :
    Calls Try.prog 142 #[.slice A l.length c] w fun e w' =>
      ∃ A' c', e = .returned (.tuple #[.slice A' (selL (chG l) l).length c', .bool (chG l)]) ∧ OwI w' B (.slice A' (selL (chG l) l).length c') (selL (chG l) l) ∧ Below w.heap.size w w' := by
  have hS := chGood_any w.heap.size A c l w hl (Nat.le_refl _) hown.rd
  have OWN := Lib.hid hown
  clear hown
  cases hg : chG l with
  | false =>
    rw [hg] at hS
    have HS := Lib.hid hS
    have GG := Lib.hid hg
    clear hS hg
    go_enter Try.func142, Try.ntmps142
    go_wp2_with (go_at_call 141; refine HS.out.mono ?_; rintro e w2 ⟨rfl, hb2⟩)
    go_ret2
    exact ⟨none, 0, rfl, OwI.nil _ _, hb2⟩
  | true =>
    rw [hg] at hS
    have HS := Lib.hid hS
    clear hS hg
    go_enter Try.func142, Try.ntmps142
    go_wp2_with (go_at_call 141; refine HS.out.mono ?_; rintro e w2 ⟨rfl, hb2⟩)
    go_ret2
    exact ⟨A, c, by rw [selL_true rfl]; rfl, by rw [selL_true rfl]; exact OWN.out.below hb2, hb2⟩
set_option maxRecDepth 100000 in
set_option maxHeartbeats 1000000 in
theorem chainOrNone_any (B : Nat) (A : Option Addr) (c : Nat) (l : List Int) (w : World) (hl : l.length ≤ 1048576) (hown : OwI w B (.slice A l.length c) l) :
    Calls Try.prog 145 #[.slice A l.length c] w fun e w' =>
      ∃ A' c', e = .returned (.tuple #[.slice A' (selL (chG l) l).length c', .bool (chG l)]) ∧ OwI w' B (.slice A' (selL (chG l) l).length c') (selL (chG l) l) ∧ Below w.heap.size w w' := by
  have hS := implIsChain_any w.heap.size A c l w (Nat.le_refl _) hl hown.cap hown.rd
  have OWN := Lib.hid hown
  clear hown
  cases hg : chG l with
  | false =>
    rw [hg] at hS
    have HS := Lib.hid hS
    have GG := Lib.hid hg
    clear hS hg
    go_enter Try.func145, Try.ntmps145
    go_wp2_with (go_at_call 143; refine HS.out.mono ?_; rintro e w2 ⟨rfl, hb2⟩)
    go_ret2
    exact ⟨none, 0, rfl, OwI.nil _ _, hb2⟩
  | true =>
    rw [hg] at hS
    have HS := Lib.hid hS
    clear hS hg
    go_enter Try.func145, Try.ntmps145
    go_wp2_with (go_at_call 143; refine HS.out.mono ?_; rintro e w2 ⟨rfl, hb2⟩)
    go_ret2
    exact ⟨A, c, by rw [selL_true rfl]; rfl, by rw [selL_true rfl]; exact OWN.out.below hb2, hb2⟩

theorem eq_nil_A (A : Option Addr) (n c : Nat) (W : World) : (binOp .eql 189 (.slice A n c) (.slice none 0 0)).run Try.prog W = .ok (.bool A.isNone) W := by
  simp only [binOp]
  simp [run_equal_slice_nil W 189 3 A n c Try.underlying189]
end Go.Proofs.Ytbbfbccemonihab
