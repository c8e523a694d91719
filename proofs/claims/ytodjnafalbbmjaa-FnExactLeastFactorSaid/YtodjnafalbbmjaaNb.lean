/- Least factors. -/
import Derived.Test.YtodjnafalbbmjaaNa
namespace Go.Proofs.Ytodjnafalbbmjaa
open Go.RowKit

def lfF (n : Nat) : Nat → Nat → Nat
  | 0, _ => n
  | f + 1, d => if n < d * d then n else if n % d = 0 then d else lfF n f (d + 1)
/-- The least factor of n. -/
def lfac (n : Nat) : Nat := lfF n 1000 2

theorem lfF_end {n f d : Nat} (h : n < d * d) : lfF n f d = n := by
  cases f with
  | zero => rfl
  | succ f => unfold lfF; rw [if_pos h]
theorem lfF_hit {n f d : Nat} (hn : n ≤ 1000000) (hf : f + d = 1002) (h : ¬ n < d * d) (hm : n % d = 0) : lfF n f d = d := by
  cases f with
  | zero =>
    obtain rfl : d = 1002 := by omega
    omega
  | succ f => unfold lfF; rw [if_neg h, if_pos hm]
theorem lfF_next {n f d : Nat} (hn : n ≤ 1000000) (hf : f + d = 1002) (h : ¬ n < d * d) (hm : n % d ≠ 0) : ∃ g, g + (d + 1) = 1002 ∧ lfF n g (d + 1) = lfF n f d := by
  cases f with
  | zero =>
    obtain rfl : d = 1002 := by omega
    omega
  | succ f =>
    refine ⟨f, by omega, ?_⟩
    show _ = (if n < d * d then n else if n % d = 0 then d else lfF n f (d + 1))
    rw [if_neg h, if_neg hm]

set_option maxRecDepth 100000 in
set_option maxHeartbeats 1000000 in
theorem meFactor_any (n : Nat) (w : World) (hn : n ≤ 1000000) :
    Calls Try.prog 44 #[.int .i64 (n : Int)] w fun e w' => e = .returned (.int .i64 (lfac n : Nat)) ∧ w = w' := by
  go_enter Try.func44, Try.ntmps44
  go_wp2
  go_loop [3] (fun dv => ∃ d f : Nat, 2 ≤ d ∧ f + d = 1002 ∧ dv = .int .i64 d ∧ lfF n f d = lfac n) (fun dv => (1002 - intOf dv).toNat)
  case atStart => exact ⟨2, 1000, by omega, by omega, rfl, rfl⟩
  case round =>
    obtain ⟨d, f, hd, hf, rfl, hq⟩ := hrel
    have Q := Lib.hid hq
    clear hq
    have hd2 : d ≤ 1002 := by omega
    have hdd : d * d ≤ 1002 * 1002 := Nat.mul_le_mul hd2 hd2
    obtain ⟨D, hD⟩ : ∃ D, d * d = D := ⟨_, rfl⟩
    have eD : (d : Int) * (d : Int) = (D : Int) := by rw [← hD]; push_cast; rfl
    have ewD : IntKind.i64.wrap (D : Int) = (D : Int) := IntWalk.i64_in _ (by omega)
    have hd0 : ((d : Int) == 0) = false := by simp; omega
    by_cases hlt : n < d * d
    · have E := Lib.hid (lfF_end hlt (f := f))
      have ip : ¬ (D : Int) ≤ (n : Int) := by omega
      clear hlt
      go_wp2
      go_ret
      exact ⟨by rw [← Q.out, E.out]; rfl, rfl⟩
    · have ip : (D : Int) ≤ (n : Int) := by omega
      by_cases hm : n % d = 0
      · have E := Lib.hid (lfF_hit hn hf hlt hm)
        have er : (((n : Int) % (d : Int)) == 0) = true := by rw [show (n : Int) % (d : Int) = ((n % d : Nat) : Int) by push_cast; rfl, hm]; rfl
        clear hlt hm
        go_wp2
        go_ret
        exact ⟨by rw [← Q.out, E.out]; rfl, rfl⟩
      · obtain ⟨g, hg, hgq⟩ := lfF_next hn hf hlt hm
        have er : (((n : Int) % (d : Int)) == 0) = false := by
          rw [show (n : Int) % (d : Int) = ((n % d : Nat) : Int) by push_cast; rfl]
          simp
          omega
        have E := Lib.hid (hgq.trans Q.out)
        clear hlt hm hgq
        go_wp2
        go_round
        case rel => exact ⟨d + 1, g, by omega, by omega, by go_num, E.out⟩
        case measure => simp [intOf]; omega

def lfB (x : Int) : Bool := isNum x && decide (x ≠ 1)
def lfV (x : Int) : Int := if lfB x then (lfac x.toNat : Int) else 0
theorem lfV_false {x : Int} (h : lfB x = false) : lfV x = 0 := by unfold lfV; rw [h]; rfl
theorem lfV_true {x : Int} (h : lfB x = true) : lfV x = (lfac x.toNat : Int) := by unfold lfV; rw [if_pos h]

set_option maxRecDepth 100000 in
set_option maxHeartbeats 1000000 in
theorem specFactor_any (x : Int) (w : World) : Calls Try.prog 18 #[.int .i64 x] w fun e w' => e = .returned (.tuple #[.int .i64 (lfV x), .bool (lfB x)]) ∧ w = w' := by
  obtain ⟨g1, h1⟩ : ∃ g, isNum x = g := ⟨_, rfl⟩
  have H1 := Lib.hid h1
  cases g1 with
  | false =>
    have EB := Lib.hid (show lfB x = false by unfold lfB; rw [h1]; rfl)
    have EV := Lib.hid (lfV_false EB.out)
    clear h1
    go_enter Try.func18, Try.ntmps18
    go_wp2_with (go_at_call 39; refine (chNumber_any _ _).mono ?_; rw [H1.out]; rintro e w' ⟨rfl, rfl⟩)
    go_ret2
    exact ⟨by rw [EV.out, EB.out]; rfl, rfl⟩
  | true =>
  by_cases hx : x = 1
  · have EB := Lib.hid (show lfB x = false by unfold lfB; rw [hx]; rfl)
    have EV := Lib.hid (lfV_false EB.out)
    have ix : (x == 1) = true := by simpa using hx
    clear h1 hx
    go_enter Try.func18, Try.ntmps18
    go_wp2_with (go_at_call 39; refine (chNumber_any _ _).mono ?_; rw [H1.out]; rintro e w' ⟨rfl, rfl⟩)
    go_ret2
    exact ⟨by rw [EV.out, EB.out]; rfl, rfl⟩
  · have EB := Lib.hid (show lfB x = true by unfold lfB; rw [h1, decide_eq_true hx]; rfl)
    have ev := lfV_true EB.out
    have ix : (x == 1) = false := by simpa using hx
    have ⟨r1, r2⟩ := isNum_rng h1
    obtain ⟨n, rfl⟩ : ∃ n : Nat, x = n := ⟨x.toNat, by omega⟩
    rw [show ((n : Int)).toNat = n by omega] at ev
    have EV := Lib.hid ev
    have hn : n ≤ 1000000 := by omega
    clear h1 hx ev r1 r2
    go_enter Try.func18, Try.ntmps18
    go_wp2_with (first
      | (go_at_call 39; refine (chNumber_any _ _).mono ?_; rw [H1.out]; rintro e w' ⟨rfl, rfl⟩)
      | (go_at_call 44; refine (meFactor_any n _ hn).mono ?_; rintro e w' ⟨rfl, rfl⟩))
    go_ret2
    exact ⟨by rw [EV.out, EB.out]; rfl, rfl⟩

set_option maxRecDepth 100000 in
set_option maxHeartbeats 1000000 in
theorem implFactor_any (x : Int) (w : World) : Calls Try.prog 19 #[.int .i64 x] w fun e w' => e = .returned (.tuple #[.int .i64 (lfV x), .bool (lfB x)]) ∧ w = w' := by
  obtain ⟨g1, h1⟩ : ∃ g, isNum x = g := ⟨_, rfl⟩
  have H1 := Lib.hid h1
  cases g1 with
  | false =>
    have EB := Lib.hid (show lfB x = false by unfold lfB; rw [h1]; rfl)
    have EV := Lib.hid (lfV_false EB.out)
    clear h1
    go_enter Try.func19, Try.ntmps19
    go_wp2_with (go_at_call 42; refine (isExponent_any _ _).mono ?_; rw [H1.out]; rintro e w' ⟨rfl, rfl⟩)
    go_ret2
    exact ⟨by rw [EV.out, EB.out]; rfl, rfl⟩
  | true =>
  by_cases hx : x = 1
  · have EB := Lib.hid (show lfB x = false by unfold lfB; rw [hx]; rfl)
    have EV := Lib.hid (lfV_false EB.out)
    have ix : (x == 1) = true := by simpa using hx
    clear h1 hx
    go_enter Try.func19, Try.ntmps19
    go_wp2_with (go_at_call 42; refine (isExponent_any _ _).mono ?_; rw [H1.out]; rintro e w' ⟨rfl, rfl⟩)
    go_ret2
    exact ⟨by rw [EV.out, EB.out]; rfl, rfl⟩
  · have EB := Lib.hid (show lfB x = true by unfold lfB; rw [h1, decide_eq_true hx]; rfl)
    have ev := lfV_true EB.out
    have ix : (x == 1) = false := by simpa using hx
    have ⟨r1, r2⟩ := isNum_rng h1
    obtain ⟨n, rfl⟩ : ∃ n : Nat, x = n := ⟨x.toNat, by omega⟩
    rw [show ((n : Int)).toNat = n by omega] at ev
    have EV := Lib.hid ev
    have hn : n ≤ 1000000 := by omega
    clear h1 hx ev r1 r2
    go_enter Try.func19, Try.ntmps19
    go_wp2_with (go_at_call 42; refine (isExponent_any _ _).mono ?_; rw [H1.out]; rintro e w' ⟨rfl, rfl⟩)
    go_loop [4] (fun dv => ∃ d f : Nat, 2 ≤ d ∧ f + d = 1002 ∧ dv = .int .i64 d ∧ lfF n f d = lfac n) (fun dv => (1002 - intOf dv).toNat)
    case atStart => exact ⟨2, 1000, by omega, by omega, rfl, rfl⟩
    case round =>
      obtain ⟨d, f, hd, hf, rfl, hq⟩ := hrel
      have Q := Lib.hid hq
      clear hq
      have hd2 : d ≤ 1002 := by omega
      have hdd : d * d ≤ 1002 * 1002 := Nat.mul_le_mul hd2 hd2
      obtain ⟨D, hD⟩ : ∃ D, d * d = D := ⟨_, rfl⟩
      have eD : (d : Int) * (d : Int) = (D : Int) := by rw [← hD]; push_cast; rfl
      have ewD : IntKind.i64.wrap (D : Int) = (D : Int) := IntWalk.i64_in _ (by omega)
      have hd0 : ((d : Int) == 0) = false := by simp; omega
      by_cases hlt : n < d * d
      · have E := Lib.hid (lfF_end hlt (f := f))
        have ip : ¬ (D : Int) ≤ (n : Int) := by omega
        clear hlt
        go_wp2
        go_ret2
        exact ⟨by rw [EV.out, EB.out, ← Q.out, E.out]; rfl, rfl⟩
      · have ip : (D : Int) ≤ (n : Int) := by omega
        by_cases hm : n % d = 0
        · have E := Lib.hid (lfF_hit hn hf hlt hm)
          have er : (((n : Int) % (d : Int)) == 0) = true := by rw [show (n : Int) % (d : Int) = ((n % d : Nat) : Int) by push_cast; rfl, hm]; rfl
          clear hlt hm
          go_wp2
          go_ret2
          exact ⟨by rw [EV.out, EB.out, ← Q.out, E.out]; rfl, rfl⟩
        · obtain ⟨g, hg, hgq⟩ := lfF_next hn hf hlt hm
          have er : (((n : Int) % (d : Int)) == 0) = false := by
            rw [show (n : Int) % (d : Int) = ((n % d : Nat) : Int) by push_cast; rfl]
            simp
            omega
          have E := Lib.hid (hgq.trans Q.out)
          clear hlt hm hgq
          go_wp2
          go_round
          case rel => exact ⟨d + 1, g, by omega, by omega, by go_num, E.out⟩
          case measure => simp [intOf]; omega
end Go.Proofs.Ytodjnafalbbmjaa
