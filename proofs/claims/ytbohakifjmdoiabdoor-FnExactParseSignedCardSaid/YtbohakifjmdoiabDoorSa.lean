/- Contracts of the small functions of the model. -/
import Derived.Test.YtbohakifjmdoiabDoorBase
namespace Go.Proofs.YtbohakifjmdoiabDoor
open Go.RowKit

def inB (n lo hi : Int) : Bool := decide (lo ≤ n) && decide (n ≤ hi)
def hasI (l : List Int) (n : Int) : Bool := l.contains n
def allB (l : List Int) (lo hi : Int) : Bool := l.all fun n => inB n lo hi

theorem hasI_take {l : List Int} {n : Int} {k : Nat} (hk : k < l.length) (h : hasI (l.take k) n = false) : hasI (l.take (k + 1)) n = (l[k] == n) := by
  unfold hasI at *
  rw [List.take_succ_eq_append_getElem hk]
  simp only [List.contains_append, h, Bool.false_or, List.contains_cons, List.contains_nil, Bool.or_false]
  exact Bool.beq_comm
theorem hasI_hit {l : List Int} {n : Int} {k : Nat} (hk : k < l.length) (h : (l[k] == n) = true) : hasI l n = true := by
  unfold hasI
  simp at h ⊢
  exact h ▸ List.getElem_mem hk
theorem hasI_end {l : List Int} {n : Int} {k : Nat} (hk : ¬ k < l.length) (h : hasI (l.take k) n = false) : hasI l n = false := by
  rwa [List.take_of_length_le (by omega)] at h
theorem allB_take {l : List Int} {lo hi : Int} {k : Nat} (hk : k < l.length) (h : allB (l.take k) lo hi = true) : allB (l.take (k + 1)) lo hi = inB l[k] lo hi := by
  unfold allB at *
  rw [List.take_succ_eq_append_getElem hk, List.all_append, h]
  simp
theorem allB_miss {l : List Int} {lo hi : Int} {k : Nat} (hk : k < l.length) (h : inB l[k] lo hi = false) : allB l lo hi = false := by
  unfold allB
  rw [List.all_eq_false]
  exact ⟨_, List.getElem_mem hk, by simp [h]⟩
theorem allB_end {l : List Int} {lo hi : Int} {k : Nat} (hk : ¬ k < l.length) (h : allB (l.take k) lo hi = true) : allB l lo hi = true := by
  rwa [List.take_of_length_le (by omega)] at h

set_option maxHeartbeats 400000 in
theorem l1In_any (n lo hi : Int) (w : World) :
    Calls Tryd.prog 16 #[.int .i64 n, .int .i64 lo, .int .i64 hi] w fun e w' => e = .returned (.bool (inB n lo hi)) ∧ w = w' := by
  by_cases h1 : lo ≤ n <;> by_cases h2 : n ≤ hi
  all_goals
    go_enter Tryd.func16, Tryd.ntmps16
    go_wp2
    go_ret
    exact ⟨ret_bool (by simp [inB, h1, h2]), rfl⟩

set_option maxHeartbeats 400000 in
theorem l1All_any (B : Nat) (A : Option Addr) (c : Nat) (l : List Int) (lo hi : Int) (w : World) (hm : l.length ≤ 4000000) (hr : Rd w B 1 A l.length (l.map I)) :
    Calls Tryd.prog 20 #[.slice A l.length c, .int .i64 lo, .int .i64 hi] w fun e w' => e = .returned (.bool (allB l lo hi)) ∧ w = w' := by
  have H := Lib.hid hr
  clear hr
  go_enter Tryd.func20, Tryd.ntmps20
  go_wp2
  go_loop [11] (fun i => ∃ k : Nat, k ≤ l.length ∧ i = .int .i64 k ∧ allB (l.take k) lo hi = true) (fun i => l.length - (intOf i).toNat)
  case atStart => exact ⟨0, by omega, rfl, rfl⟩
  case round =>
    obtain ⟨k, hk, rfl, hq⟩ := hrel
    have Q := Lib.hid hq
    clear hq
    by_cases hlt : k < l.length
    · obtain ⟨b, off, rfl, hb, hcell⟩ := H.out.int hlt
      by_cases hin : inB l[k] lo hi = true
      · go_wp2_with (go_at_call 16; refine (l1In_any _ _ _ _).mono ?_; rintro e w' ⟨rfl, rfl⟩)
        go_round
        case rel => exact ⟨k + 1, by omega, by go_num, by rw [allB_take hlt Q.out]; exact hin⟩
        case measure => simp [intOf]; omega
      · have hin' : inB l[k] lo hi = false := by simpa using hin
        clear hin
        go_wp2_with (go_at_call 16; refine (l1In_any _ _ _ _).mono ?_; rintro e w' ⟨rfl, rfl⟩)
        go_ret
        exact ⟨ret_bool (allB_miss hlt hin').symm, rfl⟩
    · go_wp2
      go_ret
      exact ⟨ret_bool (allB_end hlt Q.out).symm, rfl⟩

def eqI (a b : List Int) : Bool := decide (a = b)
theorem same_take {a b : List Int} {k : Nat} (ha : k < a.length) (hb : k < b.length) (h : a.take k = b.take k) (he : a[k] = b[k]) : a.take (k + 1) = b.take (k + 1) := by
  rw [List.take_succ_eq_append_getElem ha, List.take_succ_eq_append_getElem hb, h, he]
theorem eqI_miss {a b : List Int} {k : Nat} (ha : k < a.length) (hb : k < b.length) (h : (a[k] != b[k]) = true) : eqI a b = false := by
  unfold eqI
  rw [decide_eq_false_iff_not]
  intro e
  subst e
  simp at h
theorem eqI_len {a b : List Int} (h : a.length ≠ b.length) : eqI a b = false := by
  unfold eqI
  rw [decide_eq_false_iff_not]
  intro e
  exact h (by rw [e])
theorem eqI_end {a b : List Int} {k : Nat} (hl : a.length = b.length) (hk : ¬ k < a.length) (h : a.take k = b.take k) : eqI a b = true := by
  unfold eqI
  rw [List.take_of_length_le (by omega), List.take_of_length_le (by omega)] at h
  simp [h]

def mostI (a b : Int) : Int := if b < a then a else b
def leastI (a b : Int) : Int := if a < b then a else b
def sumL (a b : List Int) : List Int := List.zipWith (fun x y => leastI (x + y) 1000001) a b
theorem sumL_length (a b : List Int) (h : a.length ≤ b.length) : (sumL a b).length = a.length := by simp [sumL]; omega
theorem sumL_take {a b : List Int} {k : Nat} (ha : k < a.length) (hb : k < b.length) : (sumL a b).take (k + 1) = (sumL a b).take k ++ [leastI (a[k] + b[k]) 1000001] := by
  rw [List.take_succ_eq_append_getElem (by simp [sumL]; omega)]
  simp [sumL]

end Go.Proofs.YtbohakifjmdoiabDoor
