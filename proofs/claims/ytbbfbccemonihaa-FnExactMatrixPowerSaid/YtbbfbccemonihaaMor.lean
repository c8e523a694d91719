/- PermutationPower, of the model and of the program. -/
import Derived.Test.YtbbfbccemonihaaMoq
import Derived.Test.YtbbfbccemonihaaMof
namespace Go.Proofs.Ytbbfbccemonihaa
open Go.RowKit

set_option maxRecDepth 100000 in
set_option maxHeartbeats 2000000 in
/-- timesPower for permutations. -/
theorem timesP_any (B B0 n e : Nat) (q : Int) (AF AV : Option Addr) (cf cv : Nat) (F v0 : List Int) (w : World) (h8 : n ≤ 8) (hB : B ≤ w.heap.size) (hB0 : B0 ≤ w.heap.size) (hF : Pt n F) (hV : Pt n v0) (he : e ≤ 1000000) (hown : OwI w B0 (.slice AF n cf) F) (hr : Rd w B 1 AV n (v0.map I)) :
    Calls Try.prog 91 #[.iface 107 (.agg #[.int .i64 q]), .slice AF n cf, .slice AV n cv, .int .i64 (e : Int)] w fun r w' => ∃ A' c', r = .returned (.slice A' n c') ∧ OwI w' B0 (.slice A' n c') (pwr thn 20 e F v0) ∧ Below w.heap.size w w' := by
  have h20 := pow20 he
  obtain ⟨R, hR⟩ : ∃ R, pwr thn 20 e F v0 = R := ⟨_, rfl⟩
  have HR := Lib.hid hR
  rw [hR]
  clear hR
  have HE := Lib.hid h20
  have HF := Lib.hid hF
  have HV := Lib.hid hV
  have OW := Lib.hid hown
  have RV := Lib.hid (hr.more hB)
  clear h20 hF hV hown hr
  go_enter Try.func91, Try.ntmps91
  go_wp2
  go_loopw [2, 3, 9] (fun xv ev ov wr => ∃ (f e' : Nat) (A1 A2 : Option Addr) (c1 c2 : Nat) (v o : List Int), xv = .slice A1 n c1 ∧ ev = .int .i64 (e' : Int) ∧ ov = .slice A2 n c2 ∧ Hid (Pt n v) ∧ Hid (Pt n o) ∧ e' ≤ 1000000 ∧ Hid (e' < 2 ^ f) ∧ Hid (pwr thn f e' o v = R) ∧ Hid (Rd wr wr.heap.size 1 A1 n (v.map I)) ∧ Hid (OwI wr B0 (.slice A2 n c2) o) ∧ Hid (Below w.heap.size w wr)) (fun _ ev _ _ => (intOf ev).toNat)
  case atStart => exact ⟨20, e, AV, AF, cv, cf, v0, F, rfl, rfl, rfl, HV, HF, he, HE, HR, RV, OW, Lib.hid (Below.refl _ _)⟩
  case round =>
    obtain ⟨f, e', A1, A2, c1, c2, v, o, rfl, rfl, rfl, hv, ho, he', hf, hpw, hrv, hoo, hbel⟩ := hrel
    clear HE HR he HV HF OW RV
    have hsz := hbel.out.size
    by_cases h0 : 0 < e'
    · have i0 : (0 : Int) < (e' : Int) := by omega
      have ed : (e' : Int) / 2 = ((e' / 2 : Nat) : Int) := by omega
      have hdl : e' / 2 < e' := by omega
      obtain ⟨D, hD⟩ : ∃ D, e' / 2 = D := ⟨_, rfl⟩
      have HD := Lib.hid hD
      rw [hD] at ed hdl
      have V1 := Lib.hid (hv.out.thn hv.out)
      have V2 := Lib.hid (ho.out.thn hv.out)
      have ROO := Lib.hid (show Rd wr wr.heap.size 1 A2 n (o.map I) by have h := OwI.rd (l := o) (c := c2) (A := A2) (w := wr) (B := B0) (by rw [ho.out.1]; exact hoo.out); rw [ho.out.1] at h; exact h)
      have M1 := Lib.hid (fun W hB hr => pmMul_any wr.heap.size n q A1 A1 c1 c1 v v W h8 hB hv.out hv.out hr hr)
      have M2 := Lib.hid (fun W hB hr hr' => pmMul_any wr.heap.size n q A2 A1 c2 c1 o v W h8 hB ho.out hv.out hr hr')
      obtain ⟨P, hP⟩ : ∃ P, thn v v = P := ⟨_, rfl⟩
      obtain ⟨Q, hQ⟩ : ∃ Q, thn o v = Q := ⟨_, rfl⟩
      have HP := Lib.hid hP
      have HQ := Lib.hid hQ
      rw [hP] at M1 V1
      rw [hQ] at M2 V2
      have fF := Lib.hid (show ∃ f', f = f' + 1 from by
        cases f with
        | zero => exfalso; have := hf.out; simp at this; omega
        | succ f' => exact ⟨f', rfl⟩)
      clear hP hQ hD
      by_cases ho2 : e' % 2 = 1
      · have im : (e' : Int) % 2 = 1 := by omega
        have OD := Lib.hid ho2
        clear ho2
        go_wp2_with fail
        refine (M2.out wr (Nat.le_refl _) ROO.out hrv.out).mono ?_
        rintro r w2 ⟨A3, c3, rfl, ho3, hb2⟩
        have BEL2 := Lib.hid (hbel.out.trans (hb2.mono hsz))
        have hs2 := hb2.size
        have O3 := Lib.hid ho3
        have RV2 := Lib.hid (hrv.out.below hb2)
        clear hb2 ho3
        go_wp2_with fail
        refine (M1.out w2 hs2 RV2.out).mono ?_
        rintro r w3 ⟨A4, c4, rfl, ho4, hb3⟩
        have BEL3 := Lib.hid (BEL2.out.trans (hb3.mono (by omega)))
        have O33 := Lib.hid ((O3.out.below hb3).base (show B0 ≤ wr.heap.size by omega))
        have O4 := Lib.hid ho4
        clear hb3 ho4
        go_wp2
        go_roundw
        case rel =>
          obtain ⟨f', hff⟩ := fF.out
          subst hff
          refine ⟨f', D, A4, A3, c4, c3, P, Q, rfl, by rw [← ed], rfl, V1, V2, by omega, Lib.hid ?_, Lib.hid ?_, Lib.hid ?_, O33, BEL3⟩
          · rw [← HD.out]; exact half_lt hf.out
          · rw [← HD.out, ← HP.out, ← HQ.out, ← pwL_odd _ _ _ _ _ OD.out]; exact hpw.out
          · have h := OwI.rd (l := P) (c := c4) (A := A4) (w := w3) (B := w2.heap.size) (by rw [V1.out.1]; exact O4.out)
            rw [V1.out.1] at h
            exact h
        case measure => simp [intOf]; omega
      · have im : ¬ (e' : Int) % 2 = 1 := by omega
        have OD := Lib.hid (show e' % 2 = 0 by omega)
        clear ho2
        go_wp2_with fail
        refine (M1.out wr (Nat.le_refl _) hrv.out).mono ?_
        rintro r w3 ⟨A4, c4, rfl, ho4, hb3⟩
        have BEL3 := Lib.hid (hbel.out.trans (hb3.mono hsz))
        have O33 := Lib.hid (hoo.out.below hb3)
        have O4 := Lib.hid ho4
        clear hb3 ho4
        go_wp2
        go_roundw
        case rel =>
          obtain ⟨f', hff⟩ := fF.out
          subst hff
          refine ⟨f', D, A4, A2, c4, c2, P, o, rfl, by rw [← ed], rfl, V1, ho, by omega, Lib.hid ?_, Lib.hid ?_, Lib.hid ?_, O33, BEL3⟩
          · rw [← HD.out]; exact half_lt hf.out
          · rw [← HD.out, ← HP.out, ← pwL_even _ _ _ _ _ h0 OD.out]; exact hpw.out
          · have h := OwI.rd (l := P) (c := c4) (A := A4) (w := w3) (B := wr.heap.size) (by rw [V1.out.1]; exact O4.out)
            rw [V1.out.1] at h
            exact h
        case measure => simp [intOf]; omega
    · have h0' : e' = 0 := by omega
      subst h0'
      rw [pwL_zero] at hpw
      go_wp2
      go_ret
      exact ⟨A2, c2, rfl, by rw [← hpw.out]; exact hoo.out, hbel.out⟩
end Go.Proofs.Ytbbfbccemonihaa
