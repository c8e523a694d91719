/- The model's small functions of chains: rising lists, the sums of a number. -/
import Derived.Test.YtbbjgcagkmlngadDoorQm
import Derived.Test.YtbbjgcagkmlngadDoorBase2
namespace Go.Proofs.YtbbjgcagkmlngadDoor
open Go.RowKit

/-- The cell of element k. -/
theorem Rd.intD {w : World} {B : Nat} {A : Option Addr} {l : List Int} (h : Rd w B 1 A l.length (l.map I)) {k : Nat} (hk : k < l.length) :
    ∃ b off, A = some ⟨b, off, none⟩ ∧ b < B ∧ w.cell? ⟨b, off + k, none⟩ = some (.int .i64 (l.getD k 0)) := by
  obtain ⟨b, off, e, hb, hc⟩ := h.int hk
  exact ⟨b, off, e, hb, by rw [hc]; simp [hk]⟩
/-- All cells of a list that is not empty. -/
theorem Rd.cells {w : World} {B : Nat} {A : Option Addr} {l : List Int} (h : Rd w B 1 A l.length (l.map I)) (h0 : 0 < l.length) :
    ∃ b off, A = some ⟨b, off, none⟩ ∧ b < B ∧ ∀ k, k < l.length → w.cell? ⟨b, off + k, none⟩ = some (.int .i64 (l.getD k 0)) := by
  obtain ⟨b, off, e, hb, hc⟩ := h.2 (by omega)
  refine ⟨b, off, e, hb, fun k hk => ?_⟩
  rw [hc k (by omega)]
  simp [I, hk]

set_option maxHeartbeats 1000000 in
theorem l1Rising_any (B : Nat) (A : Option Addr) (c : Nat) (l : List Int) (lo hi : Int) (w : World) (hm : l.length ≤ 4000000) (hr : Rd w B 1 A l.length (l.map I)) :
    Calls Tryd.prog 55 #[.slice A l.length c, .int .i64 lo, .int .i64 hi] w fun e w' => e = .returned (.bool (risB l lo hi l.length)) ∧ w = w' := by
  have H := Lib.hid hr
  clear hr
  go_enter Tryd.func55, Tryd.ntmps55
  go_wp2
  go_loop [11] (fun i => ∃ k : Nat, k ≤ l.length ∧ i = .int .i64 k ∧ risB l lo hi k = true) (fun i => l.length - (intOf i).toNat)
  case atStart => exact ⟨0, by omega, rfl, rfl⟩
  case round =>
    obtain ⟨k, hk, rfl, hq⟩ := hrel
    have Q := Lib.hid hq
    clear hq
    by_cases hlt : k < l.length
    · obtain ⟨b, off, rfl, hb, hc⟩ := H.out.cells (by omega)
      have hcell := hc k hlt
      obtain ⟨x, hx⟩ : ∃ x, l.getD k 0 = x := ⟨_, rfl⟩
      rw [hx] at hcell
      by_cases hin : inB x lo hi = true
      · by_cases h0 : k = 0
        · subst h0
          have S := Lib.hid (show risB l lo hi (0 + 1) = true by rw [risB_succ, Q.out, hx, hin]; rfl)
          rw [Nat.add_zero] at hcell
          have HC := Lib.hid hc
          have HX := Lib.hid hx
          clear hc hx
          go_wp2_with (go_at_call 54; refine (l1In_any _ _ _ _).mono ?_; rintro e w' ⟨rfl, rfl⟩)
          go_round
          case rel => exact ⟨0 + 1, by omega, by go_num, S.out⟩
          case measure => simp [intOf]; omega
        · obtain ⟨j, rfl⟩ : ∃ j, k = j + 1 := ⟨k - 1, by omega⟩
          have hcell2 := hc j (by omega)
          obtain ⟨y, hy⟩ : ∃ y, l.getD j 0 = y := ⟨_, rfl⟩
          rw [hy] at hcell2
          have ik : (0 : Int) < ((j : Int) + 1) := by omega
          have ij : (j : Int) < (l.length : Int) := by omega
          by_cases hyx : x ≤ y
          · have S := Lib.hid (risB_false (l := l) (lo := lo) (hi := hi) (k := j + 1) l.length hlt (by rw [hx, show j + 1 - 1 = j from rfl, hy, hin]; simp; omega))
            have HC := Lib.hid hc
            have HX := Lib.hid hx
            clear hc hx h0 hy
            go_wp2_with (go_at_call 54; refine (l1In_any _ _ _ _).mono ?_; rintro e w' ⟨rfl, rfl⟩)
            go_ret
            exact ⟨ret_bool S.out.symm, rfl⟩
          · have S := Lib.hid (show risB l lo hi (j + 1 + 1) = true by rw [risB_succ, Q.out, hx, hin, show j + 1 - 1 = j from rfl, hy]; simp; omega)
            have HC := Lib.hid hc
            have HX := Lib.hid hx
            clear hc hx h0 hy
            go_wp2_with (go_at_call 54; refine (l1In_any _ _ _ _).mono ?_; rintro e w' ⟨rfl, rfl⟩)
            go_round
            case rel => exact ⟨j + 1 + 1, by omega, by go_num, S.out⟩
            case measure => simp [intOf]; omega
      · have hin' : inB x lo hi = false := by simpa using hin
        have S := Lib.hid (risB_false (l := l) (lo := lo) (hi := hi) (k := k) l.length hlt (by rw [hx, hin']; rfl))
        have HC := Lib.hid hc
        have HX := Lib.hid hx
        clear hin hc hx
        go_wp2_with (go_at_call 54; refine (l1In_any _ _ _ _).mono ?_; rintro e w' ⟨rfl, rfl⟩)
        go_ret
        exact ⟨ret_bool S.out.symm, rfl⟩
    · have e : k = l.length := by omega
      subst e
      go_wp2
      go_ret
      exact ⟨ret_bool Q.out.symm, rfl⟩
end Go.Proofs.YtbbjgcagkmlngadDoor
