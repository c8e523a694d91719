/- Lists that are answered if they are chains; copies of lists. -/
import Derived.Test.YtbbjgcagkmlngacQg
import Derived.Test.YtbbjgcagkmlngacQj
import Derived.Test.YtbbjgcagkmlngacQn0
namespace Go.Proofs.Ytbbjgcagkmlngac
open Go.RowKit

/-- A list that is answered if b. -/
def selL (b : Bool) (l : List Int) : List Int := if b then l else []
theorem selL_true {b : Bool} {l : List Int} (h : b = true) : selL b l = l := by unfold selL; rw [if_pos h]
theorem selL_false {b : Bool} {l : List Int} (h : b = false) : selL b l = [] := by unfold selL; rw [h]; rfl
theorem selL_le {b : Bool} {l : List Int} (h : b = true → chG l = true) : (selL b l).length ≤ 1000 := by
  cases b with
  | false => simp [selL]
  | true => have := (chG_chn (h rfl)).most; rw [selL_true rfl]; omega
theorem and_chG {b : Bool} {l : List Int} (h : (b && chG l) = true) : chG l = true := by simp only [Bool.and_eq_true] at h; exact h.2

set_option maxRecDepth 100000 in
set_option maxHeartbeats 1000000 in
theorem chIf_any (B : Nat) (A : Option Addr) (c : Nat) (l : List Int) (w : World) (hl : l.length ≤ 1048576) (hown : OwI w B (.slice A l.length c) l) :
    Calls Try.prog 60 #[.slice A l.length c] w fun e w' =>
      ∃ A' c', e = .returned (.tuple #[.slice A' (selL (chG l) l).length c', .bool (chG l)]) ∧ OwI w' B (.slice A' (selL (chG l) l).length c') (selL (chG l) l) ∧ Below w.heap.size w w' := by
  have hS := chGood_any w.heap.size A c l w hl (Nat.le_refl _) hown.rd
  have OWN := Lib.hid hown
  clear hown
  cases hg : chG l with
  | false =>
    rw [hg] at hS
    have HS := Lib.hid hS
    have GG := Lib.hid hg
    clear hS hg
    go_enter Try.func60, Try.ntmps60
    go_wp2_with (go_at_call 49; refine HS.out.mono ?_; rintro e w2 ⟨rfl, hb2⟩)
    go_ret2
    exact ⟨none, 0, rfl, OwI.nil _ _, hb2⟩
  | true =>
    rw [hg] at hS
    have HS := Lib.hid hS
    clear hS hg
    go_enter Try.func60, Try.ntmps60
    go_wp2_with (go_at_call 49; refine HS.out.mono ?_; rintro e w2 ⟨rfl, hb2⟩)
    go_ret2
    exact ⟨A, c, by rw [selL_true rfl]; rfl, by rw [selL_true rfl]; exact OWN.out.below hb2, hb2⟩
set_option maxRecDepth 100000 in
set_option maxHeartbeats 1000000 in
theorem chainOrNone_any (B : Nat) (A : Option Addr) (c : Nat) (l : List Int) (w : World) (hl : l.length ≤ 1048576) (hown : OwI w B (.slice A l.length c) l) :
    Calls Try.prog 62 #[.slice A l.length c] w fun e w' =>
      ∃ A' c', e = .returned (.tuple #[.slice A' (selL (chG l) l).length c', .bool (chG l)]) ∧ OwI w' B (.slice A' (selL (chG l) l).length c') (selL (chG l) l) ∧ Below w.heap.size w w' := by
  have hS := implIsChain_any w.heap.size A c l w (Nat.le_refl _) hl hown.cap hown.rd
  have OWN := Lib.hid hown
  clear hown
  cases hg : chG l with
  | false =>
    rw [hg] at hS
    have HS := Lib.hid hS
    have GG := Lib.hid hg
    clear hS hg
    go_enter Try.func62, Try.ntmps62
    go_wp2_with (go_at_call 17; refine HS.out.mono ?_; rintro e w2 ⟨rfl, hb2⟩)
    go_ret2
    exact ⟨none, 0, rfl, OwI.nil _ _, hb2⟩
  | true =>
    rw [hg] at hS
    have HS := Lib.hid hS
    clear hS hg
    go_enter Try.func62, Try.ntmps62
    go_wp2_with (go_at_call 17; refine HS.out.mono ?_; rintro e w2 ⟨rfl, hb2⟩)
    go_ret2
    exact ⟨A, c, by rw [selL_true rfl]; rfl, by rw [selL_true rfl]; exact OWN.out.below hb2, hb2⟩

theorem eq_nil_A (A : Option Addr) (n c : Nat) (W : World) : (binOp .eql 60 (.slice A n c) (.slice none 0 0)).run Try.prog W = .ok (.bool A.isNone) W := by
  simp only [binOp]
  simp [run_equal_slice_nil W 60 3 A n c Try.underlying60]
set_option maxRecDepth 100000 in
set_option maxHeartbeats 1000000 in
theorem cloneA_any (B : Nat) (A : Option Addr) (c : Nat) (l : List Int) (w : World) (hm : l.length ≤ 1000000) (h0 : 0 < l.length) (hB : B ≤ w.heap.size) (hr : Rd w B 1 A l.length (l.map I)) :
    Calls Try.prog 81 #[.slice A l.length c] w fun e w' => ∃ A' c', e = .returned (.slice A' l.length c') ∧ OwI w' w.heap.size (.slice A' l.length c') l ∧ Below w.heap.size w w' := by
  obtain ⟨ad, rfl⟩ := hr.addr h0
  have H := Lib.hid hr
  clear hr
  have hnil := fun W => eq_nil_A (some ad) l.length c W
  go_enter Try.func81, Try.ntmps81
  go_wp2_with (first
    | (at_builtin; refine list_step (fun K hK => ?_); refine step_appM Try.underlying60 info_int rfl (by omega) (by omega) rfl (.tmp 5) (.tmp 6) rfl w.heap.size 0 _ [] rfl (own_empty 1 (Nat.le_refl _)) _ l.length c (l.map I) rfl (H.out.alloc hB _) (ints_one l) (by omega) (by simp) ?_; intro A2 c2 w2 hown2 hg2 hbel2; go_simp; refine hK _ _ ?_; clear hK K))
  go_ret
  simp only [Nat.zero_add, List.nil_append] at hown2
  exact ⟨A2, c2, by simp, hown2, ((Below.refl _ _).alloc (Nat.le_refl _) _).trans hbel2⟩
/-- The same at nil. -/
theorem cloneA_nil (w : World) : Calls Try.prog 81 #[.slice none 0 0] w fun e w' => e = .returned (.slice none 0 0) ∧ w = w' := by
  have hnil := fun W => eq_nil_A none 0 0 W
  go_enter Try.func81, Try.ntmps81
  go_wp2
  go_ret
  exact ⟨rfl, rfl⟩
end Go.Proofs.Ytbbjgcagkmlngac
