/- Powers of residues, of the model and of the program. -/
import Derived.Test.YtbbfbccemonihabMoe
namespace Go.Proofs.Ytbbfbccemonihab
open Go.RowKit

theorem nrem (a m : Nat) : ((a : Nat) : Int) % (m : Int) = ((a % m : Nat) : Int) := by push_cast; rfl
theorem pow20 {e : Nat} (h : e ≤ 1000000) : e < 2 ^ 20 := by omega
theorem isPower_any (e : Int) (w : World) : Calls Try.prog 107 #[.int .i64 e] w fun r w' => r = .returned (.bool (inB e 0 1000000)) ∧ w = w' := by
  by_cases h1 : 0 ≤ e <;> by_cases h2 : e ≤ 1000000
  all_goals
    go_enter Try.func107, Try.ntmps107
    go_wp2
    go_ret
    exact ⟨ret_bool (by simp [inB, h1, h2]), rfl⟩

set_option maxRecDepth 100000 in
set_option maxHeartbeats 2000000 in
theorem moPower_any (m x e : Nat) (w : World) (n2 : 2 ≤ m) (n4 : m ≤ 10000) (hx : x < m) (he : e ≤ 1000000) :
    Calls Try.prog 114 #[.int .i64 (x : Int), .int .i64 (e : Int), .int .i64 (m : Int)] w fun r w' => r = .returned (.int .i64 ((pwr (mulM m) 20 e (1 % m) x : Nat) : Int)) ∧ Below w.heap.size w w' := by
  have h20 := pow20 he
  obtain ⟨R, hR⟩ : ∃ R, pwr (mulM m) 20 e (1 % m) x = R := ⟨_, rfl⟩
  have HR := Lib.hid hR
  rw [hR]
  clear hR
  have HE := Lib.hid h20
  have hm0 : ((m : Int) == 0) = false := by simp; omega
  have h1m : 1 % m = 1 := Nat.mod_eq_of_lt (by omega)
  have hq : (1 : Int) % (m : Int) = 1 := Int.emod_eq_of_lt (by omega) (by omega)
  rw [h1m] at HR
  clear h20 h1m
  go_enter Try.func114, Try.ntmps114
  go_wp2
  go_loop [0, 1, 7] (fun xv ev ov => ∃ (f e' v o : Nat), xv = .int .i64 (v : Int) ∧ ev = .int .i64 (e' : Int) ∧ ov = .int .i64 (o : Int) ∧ v < m ∧ o < m ∧ e' ≤ 1000000 ∧ Hid (e' < 2 ^ f) ∧ Hid (pwr (mulM m) f e' o v = R)) (fun _ ev _ => (intOf ev).toNat)
  case atStart => exact ⟨20, e, x, 1, rfl, rfl, by rw [hq]; rfl, hx, by omega, he, HE, HR⟩
  case round =>
    obtain ⟨f, e', v, o, rfl, rfl, rfl, hv, ho, he', hf, hpw⟩ := hrel
    clear hx he HE HR
    by_cases h0 : 0 < e'
    · have i0 : (0 : Int) < (e' : Int) := by omega
      have ed : (e' : Int) / 2 = ((e' / 2 : Nat) : Int) := by omega
      have hdl : e' / 2 < e' := by omega
      obtain ⟨D, hD⟩ : ∃ D, e' / 2 = D := ⟨_, rfl⟩
      have HD := Lib.hid hD
      rw [hD] at ed hdl
      have hp := prod_le n4 hv hv
      have hp2 := prod_le n4 ho hv
      have e1 : (v : Int) * (v : Int) = ((v * v : Nat) : Int) := by push_cast; rfl
      have e2 : (o : Int) * (v : Int) = ((o * v : Nat) : Int) := by push_cast; rfl
      have w1 : wrap64 ((v : Int) * (v : Int)) = ((v * v : Nat) : Int) := by rw [e1]; unfold wrap64; omega
      have w2 : wrap64 ((o : Int) * (v : Int)) = ((o * v : Nat) : Int) := by rw [e2]; unfold wrap64; omega
      have V1 := Lib.hid (mulM_lt (a := v) (b := v) n2)
      have V2 := Lib.hid (mulM_lt (a := o) (b := v) n2)
      have W1 := Lib.hid (show mulM m v v = v * v % m from rfl)
      have W2 := Lib.hid (show mulM m o v = o * v % m from rfl)
      obtain ⟨P, hP⟩ : ∃ P, v * v = P := ⟨_, rfl⟩
      obtain ⟨Q, hQ⟩ : ∃ Q, o * v = Q := ⟨_, rfl⟩
      rw [hP] at w1 W1 hp
      rw [hQ] at w2 W2 hp2
      have N1 := Lib.hid (nrem P m)
      have N2 := Lib.hid (nrem Q m)
      have fF := Lib.hid (show ∃ f', f = f' + 1 from by
        cases f with
        | zero => exfalso; have := hf.out; simp at this; omega
        | succ f' => exact ⟨f', rfl⟩)
      have T1 := Lib.hid (tmodN P m)
      have T2 := Lib.hid (tmodN Q m)
      clear hP hQ e1 e2 hD hp hp2
      by_cases ho2 : e' % 2 = 1
      · have im : (e' : Int) % 2 = 1 := by omega
        have OD := Lib.hid ho2
        clear ho2
        go_wp2
        go_round
        case rel =>
          obtain ⟨f', hff⟩ := fF.out
          subst hff
          refine ⟨f', D, mulM m v v, mulM m o v, ?_, by rw [← ed], ?_, V1.out, V2.out, by omega, Lib.hid ?_, Lib.hid ?_⟩
          · first | rw [N1.out, ← W1.out] | rw [T1.out, ← W1.out]
          · first | rw [N2.out, ← W2.out] | rw [T2.out, ← W2.out]
          · rw [← HD.out]; exact half_lt hf.out
          · rw [← HD.out, ← pwL_odd _ _ _ _ _ OD.out]; exact hpw.out
        case measure => simp [intOf]; omega
      · have im : ¬ (e' : Int) % 2 = 1 := by omega
        have OD := Lib.hid (show e' % 2 = 0 by omega)
        clear ho2
        go_wp2
        go_round
        case rel =>
          obtain ⟨f', hff⟩ := fF.out
          subst hff
          refine ⟨f', D, mulM m v v, o, ?_, by rw [← ed], rfl, V1.out, ho, by omega, Lib.hid ?_, Lib.hid ?_⟩
          · first | rw [N1.out, ← W1.out] | rw [T1.out, ← W1.out]
          · rw [← HD.out]; exact half_lt hf.out
          · rw [← HD.out, ← pwL_even _ _ _ _ _ h0 OD.out]; exact hpw.out
        case measure => simp [intOf]; omega
    · have h0' : e' = 0 := by omega
      subst h0'
      rw [pwL_zero] at hpw
      go_wp2
      go_ret
      exact ⟨by rw [hpw.out]; rfl, Below.refl _ _⟩
end Go.Proofs.Ytbbfbccemonihab
