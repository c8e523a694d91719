/- The program's values of a plan: what is there, products. -/
import Derived.Test.YtpopomcaknbhnaaIa
namespace Go.Proofs.Ytpopomcaknbhnaa
open Go.RowKit

def hasB (x : Int) (n : Nat) : Bool := decide (0 ≤ x) && decide (x < n)
def hasAllB (l : List Int) (n : Nat) : Bool := l.all fun x => hasB x n

set_option maxHeartbeats 400000 in
theorem has_any (g o n c : Nat) (A : Option Addr) (x : Int) (w : World) (hc : w.cell? ⟨g, o, none⟩ = some (.slice A n c)) :
    Calls Try.prog 156 #[.pointer (some ⟨g, o, none⟩), .int .i64 x] w fun e w' => e = .returned (.bool (hasB x n)) ∧ w = w' := by
  by_cases h1 : 0 ≤ x <;> by_cases h2 : x < n
  all_goals
    go_enter Try.func156, Try.ntmps156
    go_wp2
    go_ret
    exact ⟨ret_bool (by simp [hasB, h1, h2]), rfl⟩

theorem hasAllB_take {l : List Int} {n k : Nat} (hk : k < l.length) : hasAllB (l.take (k + 1)) n = (hasAllB (l.take k) n && hasB l[k] n) := by
  unfold hasAllB
  rw [List.take_succ_eq_append_getElem hk, List.all_append]
  simp
theorem hasAllB_miss {l : List Int} {n k : Nat} (hk : k < l.length) (h : hasB l[k] n = false) : hasAllB l n = false := by
  unfold hasAllB
  rw [List.all_eq_false]
  exact ⟨_, List.getElem_mem hk, by simp [h]⟩

set_option maxHeartbeats 400000 in
theorem hasAll_any (B g o n c : Nat) (A A2 : Option Addr) (c2 : Nat) (l : List Int) (w : World) (hc : w.cell? ⟨g, o, none⟩ = some (.slice A n c)) (hm : l.length ≤ 4000000) (hr : Rd w B 1 A2 l.length (l.map I)) :
    Calls Try.prog 153 #[.pointer (some ⟨g, o, none⟩), .slice A2 l.length c2] w fun e w' => e = .returned (.bool (hasAllB l n)) ∧ w = w' := by
  have H := Lib.hid hr
  have HC := Lib.hid hc
  clear hr hc
  go_enter Try.func153, Try.ntmps153
  go_wp2
  go_loop [9] (fun i => ∃ k : Nat, k ≤ l.length ∧ i = .int .i64 k ∧ hasAllB (l.take k) n = true) (fun i => l.length - (intOf i).toNat)
  case atStart => exact ⟨0, by omega, rfl, rfl⟩
  case round =>
    obtain ⟨k, hk, rfl, hq⟩ := hrel
    have Q := Lib.hid hq
    clear hq
    by_cases hlt : k < l.length
    · obtain ⟨b, off, rfl, hb, hcell⟩ := H.out.int hlt
      obtain ⟨gi, hgi⟩ : ∃ b, hasB l[k] n = b := ⟨_, rfl⟩
      cases gi with
      | true =>
        go_wp2_with (go_at_call 156; refine (has_any _ _ _ _ _ _ _ HC.out).mono ?_; rintro e w' ⟨rfl, rfl⟩)
        go_round
        case rel => exact ⟨k + 1, by omega, by go_num, by rw [hasAllB_take hlt, Q.out, hgi]; rfl⟩
        case measure => simp [intOf]; omega
      | false =>
        go_wp2_with (go_at_call 156; refine (has_any _ _ _ _ _ _ _ HC.out).mono ?_; rintro e w' ⟨rfl, rfl⟩)
        go_ret
        exact ⟨ret_bool (hasAllB_miss hlt hgi).symm, rfl⟩
    · go_wp2
      go_ret
      refine ⟨ret_bool ?_, rfl⟩
      have := Q.out
      rw [List.take_of_length_le (by omega)] at this
      exact this.symm

/-- The product of two values, if a step may have it. -/
def mulI (rows : List (List Int)) (a b : Int) : Option (List Int) :=
  if decide (a ≤ b) && (hasB a rows.length && hasB b rows.length) then
    let r := List.zipWith (· + ·) (rows.getD a.toNat []) (rows.getD b.toNat [])
    if allB r 0 1000000 then some r else none
  else none
end Go.Proofs.Ytpopomcaknbhnaa
