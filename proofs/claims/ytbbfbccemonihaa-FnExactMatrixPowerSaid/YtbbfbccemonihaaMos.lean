/- PermutationPower, of the model and of the program. -/
import Derived.Test.YtbbfbccemonihaaMor
namespace Go.Proofs.Ytbbfbccemonihaa
open Go.RowKit

set_option maxRecDepth 100000 in
set_option maxHeartbeats 2000000 in
/-- The power of a permutation, by the model. -/
theorem moRaise_any (B n e : Nat) (A : Option Addr) (c : Nat) (a : List Int) (w : World) (h8 : n ≤ 8) (hB : B ≤ w.heap.size) (ha : Pt n a) (he : e ≤ 1000000) (hr : Rd w B 1 A n (a.map I)) :
    Calls Try.prog 90 #[.slice A n c, .int .i64 (e : Int)] w fun r w' => ∃ A' c', r = .returned (.slice A' n c') ∧ OwI w' w.heap.size (.slice A' n c') (itr a e) ∧ Below w.heap.size w w' := by
  have h20 := pow20 he
  have h1 := pwL_itr ha h20
  rw [ha.1] at h1
  have HR := Lib.hid h1
  obtain ⟨R, hR⟩ : ∃ R, itr a e = R := ⟨_, rfl⟩
  rw [hR] at HR
  rw [hR]
  clear hR h1
  have HE := Lib.hid h20
  have HA := Lib.hid ha
  have RV := Lib.hid (hr.more hB)
  have HU := Lib.hid (ups_pt n)
  clear h20 ha hr
  go_enter Try.func90, Try.ntmps90
  go_wp2
  go_loopw [5, 9] (fun ov iv wr => ∃ (k : Nat) (A1 : Option Addr) (c1 : Nat), k ≤ n ∧ iv = .int .i64 (k : Int) ∧ ov = .slice A1 k c1 ∧ OwI wr w.heap.size ov (ups k) ∧ Below w.heap.size w wr) (fun _ iv _ => n - (intOf iv).toNat)
  case atStart => exact ⟨0, none, 0, by omega, rfl, rfl, OwI.nil _ _, Below.refl _ _⟩
  case round =>
    obtain ⟨k, A1, c1, hk, rfl, rfl, hown, hbel⟩ := hrel
    have OWN := Lib.hid hown
    have BEL := Lib.hid hbel
    have hs := hbel.size
    clear hown hbel
    by_cases hlt : k < n
    · have ik : (k : Int) < (n : Int) := by omega
      have UL := Lib.hid (ups_length k)
      have US := Lib.hid (ups_succ k)
      go_wp2_with (at_builtin; refine list_step (fun K hK => ?_); refine step_app_int rfl (.tmp 12) (.tmp 14) rfl w.heap.size k _ (ups k) rfl (OWN.out.alloc _) UL.out wr.heap.size 1 (k : Int) rfl (by simp) (by omega) (by simp; omega) ?_; intro A3 c3 w3 hown3 hg3 hbel3; go_simp; refine hK _ _ ?_; clear hK K)
      go_roundw
      case rel => exact ⟨k + 1, A3, c3, by omega, by go_num, rfl, by rw [US.out]; exact hown3, (BEL.out.alloc hs _).trans hbel3⟩
      case measure => simp [intOf]; omega
    · have hk' : k = n := by omega
      subst hk'
      obtain ⟨wo, rfl⟩ : ∃ wo, wo = wr := ⟨wr, rfl⟩
      have RV := Lib.hid ((RV.out.below BEL.out).more hs)
      go_wp2
      go_loopw [0, 1, 5] (fun xv ev ov wr => ∃ (f e' : Nat) (A1 A2 : Option Addr) (c1 c2 : Nat) (v o : List Int), xv = .slice A1 k c1 ∧ ev = .int .i64 (e' : Int) ∧ ov = .slice A2 k c2 ∧ Hid (Pt k v) ∧ Hid (Pt k o) ∧ e' ≤ 1000000 ∧ Hid (e' < 2 ^ f) ∧ Hid (pwr thn f e' o v = R) ∧ Hid (Rd wr wr.heap.size 1 A1 k (v.map I)) ∧ Hid (OwI wr w.heap.size (.slice A2 k c2) o) ∧ Hid (Below w.heap.size w wr)) (fun _ ev _ _ => (intOf ev).toNat)
      case atStart => exact ⟨20, e, A, A1, c, c1, a, ups k, rfl, rfl, rfl, HA, HU, he, HE, HR, RV, OWN, BEL⟩
      case round =>
        obtain ⟨f, e', A1', A2, c1', c2, v, o, rfl, rfl, rfl, hv, ho, he', hf, hpw, hrv, hoo, hbel⟩ := hrel
        clear HE HR he HA HU RV OWN BEL hs
        have hsz := hbel.out.size
        by_cases h0 : 0 < e'
        · have i0 : (0 : Int) < (e' : Int) := by omega
          have ed : (e' : Int) / 2 = ((e' / 2 : Nat) : Int) := by omega
          have hdl : e' / 2 < e' := by omega
          obtain ⟨D, hD⟩ : ∃ D, e' / 2 = D := ⟨_, rfl⟩
          have HD := Lib.hid hD
          rw [hD] at ed hdl
          have V1 := Lib.hid (hv.out.thn hv.out)
          have V2 := Lib.hid (ho.out.thn hv.out)
          have ROO := Lib.hid (show Rd wr wr.heap.size 1 A2 k (o.map I) by have h := OwI.rd (l := o) (c := c2) (A := A2) (w := wr) (B := w.heap.size) (by rw [ho.out.1]; exact hoo.out); rw [ho.out.1] at h; exact h)
          have M1 := Lib.hid (fun W hB hr => moThen_any wr.heap.size k A1' A1' c1' c1' v v W h8 hB hv.out hv.out hr hr)
          have M2 := Lib.hid (fun W hB hr hr' => moThen_any wr.heap.size k A2 A1' c2 c1' o v W h8 hB ho.out hv.out hr hr')
          obtain ⟨P, hP⟩ : ∃ P, thn v v = P := ⟨_, rfl⟩
          obtain ⟨Q, hQ⟩ : ∃ Q, thn o v = Q := ⟨_, rfl⟩
          have HP := Lib.hid hP
          have HQ := Lib.hid hQ
          rw [hP] at M1 V1
          rw [hQ] at M2 V2
          have fF := Lib.hid (show ∃ f', f = f' + 1 from by
            cases f with
            | zero => exfalso; have := hf.out; simp at this; omega
            | succ f' => exact ⟨f', rfl⟩)
          clear hP hQ hD
          by_cases ho2 : e' % 2 = 1
          · have im : (e' : Int) % 2 = 1 := by omega
            have OD := Lib.hid ho2
            clear ho2
            go_wp2_with fail
            go_at_call 87
            refine (M2.out wr (Nat.le_refl _) ROO.out hrv.out).mono ?_
            rintro r w2 ⟨A3, c3, rfl, ho3, hb2⟩
            have BEL2 := Lib.hid (hbel.out.trans (hb2.mono hsz))
            have hs2 := hb2.size
            have O3 := Lib.hid ho3
            have RV2 := Lib.hid (hrv.out.below hb2)
            clear hb2 ho3
            go_wp2_with fail
            go_at_call 87
            refine (M1.out w2 hs2 RV2.out).mono ?_
            rintro r w3 ⟨A4, c4, rfl, ho4, hb3⟩
            have BEL3 := Lib.hid (BEL2.out.trans (hb3.mono (by omega)))
            have O33 := Lib.hid ((O3.out.below hb3).base (show w.heap.size ≤ wr.heap.size by omega))
            have O4 := Lib.hid ho4
            clear hb3 ho4
            go_wp2
            go_roundw
            case rel =>
              obtain ⟨f', hff⟩ := fF.out
              subst hff
              refine ⟨f', D, A4, A3, c4, c3, P, Q, rfl, by rw [← ed], rfl, V1, V2, by omega, Lib.hid ?_, Lib.hid ?_, Lib.hid ?_, O33, BEL3⟩
              · rw [← HD.out]; exact half_lt hf.out
              · rw [← HD.out, ← HP.out, ← HQ.out, ← pwL_odd _ _ _ _ _ OD.out]; exact hpw.out
              · have h := OwI.rd (l := P) (c := c4) (A := A4) (w := w3) (B := w2.heap.size) (by rw [V1.out.1]; exact O4.out)
                rw [V1.out.1] at h
                exact h
            case measure => simp [intOf]; omega
          · have im : ¬ (e' : Int) % 2 = 1 := by omega
            have OD := Lib.hid (show e' % 2 = 0 by omega)
            clear ho2
            go_wp2_with fail
            go_at_call 87
            refine (M1.out wr (Nat.le_refl _) hrv.out).mono ?_
            rintro r w3 ⟨A4, c4, rfl, ho4, hb3⟩
            have BEL3 := Lib.hid (hbel.out.trans (hb3.mono hsz))
            have O33 := Lib.hid (hoo.out.below hb3)
            have O4 := Lib.hid ho4
            clear hb3 ho4
            go_wp2
            go_roundw
            case rel =>
              obtain ⟨f', hff⟩ := fF.out
              subst hff
              refine ⟨f', D, A4, A2, c4, c2, P, o, rfl, by rw [← ed], rfl, V1, ho, by omega, Lib.hid ?_, Lib.hid ?_, Lib.hid ?_, O33, BEL3⟩
              · rw [← HD.out]; exact half_lt hf.out
              · rw [← HD.out, ← HP.out, ← pwL_even _ _ _ _ _ h0 OD.out]; exact hpw.out
              · have h := OwI.rd (l := P) (c := c4) (A := A4) (w := w3) (B := wr.heap.size) (by rw [V1.out.1]; exact O4.out)
                rw [V1.out.1] at h
                exact h
            case measure => simp [intOf]; omega
        · have h0' : e' = 0 := by omega
          subst h0'
          rw [pwL_zero] at hpw
          go_wp2
          go_ret
          exact ⟨A2, c2, rfl, by rw [← hpw.out]; exact hoo.out, hbel.out⟩
end Go.Proofs.Ytbbfbccemonihaa
