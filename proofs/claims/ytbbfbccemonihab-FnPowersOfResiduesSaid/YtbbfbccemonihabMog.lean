/- PowersModulo, of the model and of the program. -/
import Derived.Test.YtbbfbccemonihabMof
namespace Go.Proofs.Ytbbfbccemonihab
open Go.RowKit

set_option maxRecDepth 100000 in
set_option maxHeartbeats 2000000 in
/-- timesPower for residues. -/
theorem timesR_any (m p x e : Nat) (w : World) (n2 : 2 ≤ m) (n4 : m ≤ 10000) (hp : p < m) (hx : x < m) (he : e ≤ 1000000) :
    Calls Try.prog 113 #[.iface 117 (.agg #[.int .i64 (m : Int)]), .int .i64 (p : Int), .int .i64 (x : Int), .int .i64 (e : Int)] w fun r w' => r = .returned (.int .i64 ((pwr (mulM m) 20 e p x : Nat) : Int)) ∧ Below w.heap.size w w' := by
  have h20 := pow20 he
  obtain ⟨R, hR⟩ : ∃ R, pwr (mulM m) 20 e p x = R := ⟨_, rfl⟩
  have HR := Lib.hid hR
  rw [hR]
  clear hR
  have HE := Lib.hid h20
  clear h20
  go_enter Try.func113, Try.ntmps113
  go_wp2
  go_loopw [2, 3, 9] (fun xv ev ov wr => ∃ (f e' v o : Nat), xv = .int .i64 (v : Int) ∧ ev = .int .i64 (e' : Int) ∧ ov = .int .i64 (o : Int) ∧ v < m ∧ o < m ∧ e' ≤ 1000000 ∧ Hid (e' < 2 ^ f) ∧ Hid (pwr (mulM m) f e' o v = R) ∧ Below w.heap.size w wr) (fun _ ev _ _ => (intOf ev).toNat)
  case atStart => exact ⟨20, e, x, p, rfl, rfl, rfl, hx, hp, he, HE, HR, Below.refl _ _⟩
  case round =>
    obtain ⟨f, e', v, o, rfl, rfl, rfl, hv, ho, he', hf, hpw, hbel⟩ := hrel
    have BEL := Lib.hid hbel
    have hsz := hbel.size
    clear hx hp he HE HR hbel
    by_cases h0 : 0 < e'
    · have i0 : (0 : Int) < (e' : Int) := by omega
      have ed : (e' : Int) / 2 = ((e' / 2 : Nat) : Int) := by omega
      have hdl : e' / 2 < e' := by omega
      obtain ⟨D, hD⟩ : ∃ D, e' / 2 = D := ⟨_, rfl⟩
      have HD := Lib.hid hD
      rw [hD] at ed hdl
      have V1 := Lib.hid (mulM_lt (a := v) (b := v) n2)
      have V2 := Lib.hid (mulM_lt (a := o) (b := v) n2)
      have M1 := Lib.hid (fun W => resMul_any m v v W n2 n4 hv hv)
      have M2 := Lib.hid (fun W => resMul_any m o v W n2 n4 ho hv)
      obtain ⟨P, hP⟩ : ∃ P, mulM m v v = P := ⟨_, rfl⟩
      obtain ⟨Q, hQ⟩ : ∃ Q, mulM m o v = Q := ⟨_, rfl⟩
      have HP := Lib.hid hP
      have HQ := Lib.hid hQ
      rw [hP] at M1 V1
      rw [hQ] at M2 V2
      have fF := Lib.hid (show ∃ f', f = f' + 1 from by
        cases f with
        | zero => exfalso; have := hf.out; simp at this; omega
        | succ f' => exact ⟨f', rfl⟩)
      clear hP hQ hD
      by_cases ho2 : e' % 2 = 1
      · have im : (e' : Int) % 2 = 1 := by omega
        have OD := Lib.hid ho2
        clear ho2
        go_wp2_with fail
        refine (M2.out _).mono ?_
        rintro r w2 ⟨rfl, hb2⟩
        have BEL2 := Lib.hid (BEL.out.trans (hb2.mono hsz))
        have hs2 := hb2.size
        clear hb2
        go_wp2_with fail
        refine (M1.out _).mono ?_
        rintro r w3 ⟨rfl, hb3⟩
        have BEL3 := Lib.hid (BEL2.out.trans (hb3.mono (by omega)))
        clear hb3
        go_wp2
        go_roundw
        case rel =>
          obtain ⟨f', hff⟩ := fF.out
          subst hff
          refine ⟨f', D, P, Q, rfl, by rw [← ed], rfl, V1.out, V2.out, by omega, Lib.hid ?_, Lib.hid ?_, BEL3.out⟩
          · rw [← HD.out]; exact half_lt hf.out
          · rw [← HD.out, ← HP.out, ← HQ.out, ← pwL_odd _ _ _ _ _ OD.out]; exact hpw.out
        case measure => simp [intOf]; omega
      · have im : ¬ (e' : Int) % 2 = 1 := by omega
        have OD := Lib.hid (show e' % 2 = 0 by omega)
        clear ho2
        go_wp2_with fail
        refine (M1.out _).mono ?_
        rintro r w3 ⟨rfl, hb3⟩
        have BEL3 := Lib.hid (BEL.out.trans (hb3.mono hsz))
        clear hb3
        go_wp2
        go_roundw
        case rel =>
          obtain ⟨f', hff⟩ := fF.out
          subst hff
          refine ⟨f', D, P, o, rfl, by rw [← ed], rfl, V1.out, ho, by omega, Lib.hid ?_, Lib.hid ?_, BEL3.out⟩
          · rw [← HD.out]; exact half_lt hf.out
          · rw [← HD.out, ← HP.out, ← pwL_even _ _ _ _ _ h0 OD.out]; exact hpw.out
        case measure => simp [intOf]; omega
    · have h0' : e' = 0 := by omega
      subst h0'
      rw [pwL_zero] at hpw
      go_wp2
      go_ret
      exact ⟨by rw [hpw.out]; rfl, BEL.out⟩
end Go.Proofs.Ytbbfbccemonihab
