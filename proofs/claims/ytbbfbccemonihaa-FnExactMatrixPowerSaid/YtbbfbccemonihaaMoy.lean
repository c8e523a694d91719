/- Powers of matrices, of the model and of the program. -/
import Derived.Test.YtbbfbccemonihaaMow
import Derived.Test.YtbbfbccemonihaaMot
namespace Go.Proofs.Ytbbfbccemonihaa
open Go.RowKit

theorem obj_set4_other {w : World} {g k : Nat} {o : Obj} (h : w.heap[k]? = some o) (hne : k ≠ g) (a b c d : Value) :
    ((((w.setCell ⟨g, 0, none⟩ a).setCell ⟨g, 1, none⟩ b).setCell ⟨g, 2, none⟩ c).setCell ⟨g, 3, none⟩ d).heap[k]? = some o := by
  rw [Below.heap_setCell _ _ _ _ (fun e => hne e), Below.heap_setCell _ _ _ _ (fun e => hne e), Below.heap_setCell _ _ _ _ (fun e => hne e), Below.heap_setCell _ _ _ _ (fun e => hne e)]
  exact h
def oneX : Nx := ⟨1, 0, 0, 1⟩
def mwG (X : Mx) (e m : Int) : Bool := inX m X && inB e 0 1000000
/-- The power of a matrix of residues. -/
def mwN (M : Nat) (Y : Nx) (e : Nat) : Nx := pwr (mulX M) 20 e oneX Y
def toNx (X : Mx) : Nx := ⟨X.a.toNat, X.b.toNat, X.c.toNat, X.d.toNat⟩
def mwV (X : Mx) (e m : Int) : Mx := if mwG X e m then (mwN m.toNat (toNx X) e.toNat).mx else zeroX
theorem mw_bad {X : Mx} {e m : Int} (h : mwG X e m = false) : mwV X e m = zeroX := by unfold mwV; rw [h]; rfl
theorem mw_good {M e : Nat} {Y : Nx} (h : mwG Y.mx (e : Int) (M : Int) = true) : mwV Y.mx (e : Int) (M : Int) = (mwN M Y e).mx := by
  unfold mwV
  rw [if_pos h, show (M : Int).toNat = M by omega, show (e : Int).toNat = e by omega]
  rfl
theorem oneX_ok {M : Nat} (h : 2 ≤ M) : okN M oneX := ⟨show 1 < M by omega, show 0 < M by omega, show 0 < M by omega, show 1 < M by omega⟩

set_option maxRecDepth 100000 in
set_option maxHeartbeats 8000000 in
theorem timesX_any (M e : Nat) (F X : Nx) (w : World) (n2 : 2 ≤ M) (n4 : M ≤ 10000) (hF : okN M F) (hX : okN M X) (he : e ≤ 1000000) :
    Calls Try.prog 82 #[.iface 98 (.agg #[.int .i64 (M : Int)]), mxV F.mx, mxV X.mx, .int .i64 (e : Int)] w fun r w' => r = .returned (mxV (pwr (mulX M) 20 e F X).mx) ∧ Below w.heap.size w w' := by
  have h20 := pow20 he
  obtain ⟨R, hR⟩ : ∃ R, pwr (mulX M) 20 e F X = R := ⟨_, rfl⟩
  have HR := Lib.hid hR
  rw [hR]
  clear hR
  have HE := Lib.hid h20
  have HX := Lib.hid hX
  have HF := Lib.hid hF
  clear h20 hX hF
  show Calls Try.prog 82 #[.iface 98 (.agg #[.int .i64 (M : Int)]), .agg #[.int .i64 (F.a : Int), .int .i64 (F.b : Int), .int .i64 (F.c : Int), .int .i64 (F.d : Int)], .agg #[.int .i64 (X.a : Int), .int .i64 (X.b : Int), .int .i64 (X.c : Int), .int .i64 (X.d : Int)], .int .i64 (e : Int)] w fun r w' => r = .returned (.agg #[.int .i64 (R.a : Int), .int .i64 (R.b : Int), .int .i64 (R.c : Int), .int .i64 (R.d : Int)]) ∧ Below w.heap.size w w'
  go_enter Try.func82, Try.ntmps82
  go_wp2
  generalize hw4 : World.alloc (World.alloc (World.alloc (World.alloc w _) _) _) _ = w4
  obtain ⟨q0, q1, q2, q3, qs, qb⟩ := four_new hw4
  clear hw4
  have QV := Lib.hid q1
  have QR := Lib.hid q2
  have QO := Lib.hid q3
  have BEL := Lib.hid qb
  clear q0 q1 q2 q3 qb qs
  go_loopw [3] (fun ev wr => ∃ (f e' : Nat) (v o : Nx), ev = .int .i64 (e' : Int) ∧ Hid (okN M v) ∧ Hid (okN M o) ∧ e' ≤ 1000000 ∧ Hid (e' < 2 ^ f) ∧ Hid (pwr (mulX M) f e' o v = R) ∧ Hid (wr.heap[w.heap.size + 1]? = some (.cells #[.int .i64 (v.a : Int), .int .i64 (v.b : Int), .int .i64 (v.c : Int), .int .i64 (v.d : Int)] 46 (0, 0))) ∧ Hid (wr.heap[w.heap.size + 1 + 1 + 1]? = some (.cells #[.int .i64 (o.a : Int), .int .i64 (o.b : Int), .int .i64 (o.c : Int), .int .i64 (o.d : Int)] 46 (0, 0))) ∧ Hid (wr.heap[w.heap.size + 1 + 1]? = some (.cells #[.int .i64 0, .int .i64 0, .int .i64 0, .int .i64 0] 46 (0, 0))) ∧ Hid (Below w.heap.size w wr)) (fun ev _ => (intOf ev).toNat)
  case atStart => exact ⟨20, e, X, F, rfl, HX, HF, he, HE, HR, QV, QO, QR, BEL⟩
  case round =>
    clear BEL
    obtain ⟨f, e', v, o, rfl, hv, ho, he', hf, hpw, hqv, hqo, hqr, hbel⟩ := hrel
    clear HE HR he QV QO QR HX HF
    have hgv : w.heap.size + 1 < wr.heap.size := (Array.getElem?_eq_some_iff.1 hqv.out).1
    have hgo : w.heap.size + 1 + 1 + 1 < wr.heap.size := (Array.getElem?_eq_some_iff.1 hqo.out).1
    have hgr : w.heap.size + 1 + 1 < wr.heap.size := (Array.getElem?_eq_some_iff.1 hqr.out).1
    have hsz := hbel.out.size
    by_cases h0 : 0 < e'
    · have i0 : (0 : Int) < (e' : Int) := by omega
      have ed : (e' : Int) / 2 = ((e' / 2 : Nat) : Int) := by omega
      have hdl : e' / 2 < e' := by omega
      obtain ⟨D, hD⟩ : ∃ D, e' / 2 = D := ⟨_, rfl⟩
      have HD := Lib.hid hD
      rw [hD] at ed hdl
      have V1 := Lib.hid (mulX_ok (m := M) (by omega) v v)
      have V2 := Lib.hid (mulX_ok (m := M) (by omega) o v)
      have M1 := fun W => mxMul_any M v v W n2 n4 hv.out hv.out
      have M2 := fun W => mxMul_any M o v W n2 n4 ho.out hv.out
      obtain ⟨P, hP⟩ : ∃ P, mulX M v v = P := ⟨_, rfl⟩
      obtain ⟨Q, hQ⟩ : ∃ Q, mulX M o v = Q := ⟨_, rfl⟩
      have HP := Lib.hid hP
      have HQ := Lib.hid hQ
      rw [hP] at M1 V1
      rw [hQ] at M2 V2
      simp only [mxV, Nx.mx] at M1 M2
      have M1 := Lib.hid M1
      have M2 := Lib.hid M2
      have fF := Lib.hid (show ∃ f', f = f' + 1 from by
        cases f with
        | zero => exfalso; have := hf.out; simp at this; omega
        | succ f' => exact ⟨f', rfl⟩)
      clear hP hQ hD
      by_cases ho2 : e' % 2 = 1
      · have im : (e' : Int) % 2 = 1 := by omega
        have OD := Lib.hid ho2
        clear ho2
        obtain ⟨⟨a1, a2, a3, a4⟩, f1, f2, f3, f4⟩ := cells4 hqv.out
        obtain ⟨⟨b1, b2, b3, b4⟩, k1, k2, k3, k4⟩ := cells4 hqo.out
        go_wp2_with fail
        clear a1 a2 a3 a4 f1 f2 f3 f4 b1 b2 b3 b4 k1 k2 k3 k4
        refine (M2.out wr).mono ?_
        rintro r w2 ⟨rfl, hb2⟩
        have QV2 := Lib.hid (obj_keep hqv.out hb2 hgv)
        have QO2 := Lib.hid (obj_keep hqo.out hb2 hgo)
        have QR2 := Lib.hid (obj_keep hqr.out hb2 hgr)
        have BEL2 := Lib.hid (hbel.out.trans (hb2.mono hsz))
        have hs2 := hb2.size
        clear hb2
        obtain ⟨⟨b1, b2, b3, b4⟩, k1, k2, k3, k4⟩ := cells4 QO2.out
        obtain ⟨⟨a1, a2, a3, a4⟩, f1, f2, f3, f4⟩ := cells4 QV2.out
        go_wp2_with fail
        generalize hw3 : ((((w2.setCell ⟨w.heap.size + 1 + 1 + 1, 0, none⟩ (.int .i64 (Q.a : Int))).setCell ⟨w.heap.size + 1 + 1 + 1, 1, none⟩ (.int .i64 (Q.b : Int))).setCell ⟨w.heap.size + 1 + 1 + 1, 2, none⟩ (.int .i64 (Q.c : Int))).setCell ⟨w.heap.size + 1 + 1 + 1, 3, none⟩ (.int .i64 (Q.d : Int))) = w3
        have QV3 := Lib.hid (show w3.heap[w.heap.size + 1]? = some (.cells #[.int .i64 (v.a : Int), .int .i64 (v.b : Int), .int .i64 (v.c : Int), .int .i64 (v.d : Int)] 46 (0, 0)) by rw [← hw3]; exact obj_set4_other QV2.out (by omega) _ _ _ _)
        have QO3 := Lib.hid (show w3.heap[w.heap.size + 1 + 1 + 1]? = some (.cells #[.int .i64 (Q.a : Int), .int .i64 (Q.b : Int), .int .i64 (Q.c : Int), .int .i64 (Q.d : Int)] 46 (0, 0)) by rw [← hw3]; exact obj_set4 QO2.out)
        have QR3 := Lib.hid (show w3.heap[w.heap.size + 1 + 1]? = some (.cells #[.int .i64 0, .int .i64 0, .int .i64 0, .int .i64 0] 46 (0, 0)) by rw [← hw3]; exact obj_set4_other QR2.out (by omega) _ _ _ _)
        have BEL3 := Lib.hid (show Below w.heap.size w w3 by rw [← hw3]; exact bel_set4 BEL2.out (by omega) _ _ _ _)
        have hs3 : w3.heap.size = w2.heap.size := by rw [← hw3]; simp [World.setCell]
        clear a1 a2 a3 a4 f1 f2 f3 f4 b1 b2 b3 b4 k1 k2 k3 k4 hw3
        refine (M1.out w3).mono ?_
        rintro r w4 ⟨rfl, hb4⟩
        have QV4 := Lib.hid (obj_keep QV3.out hb4 (by omega))
        have QO4 := Lib.hid (obj_keep QO3.out hb4 (by omega))
        have QR4 := Lib.hid (obj_keep QR3.out hb4 (by omega))
        have BEL4 := Lib.hid (BEL3.out.trans (hb4.mono (by omega)))
        clear hb4
        obtain ⟨⟨a1, a2, a3, a4⟩, f1, f2, f3, f4⟩ := cells4 QV4.out
        go_wp2
        go_roundw
        case rel =>
          obtain ⟨f', hff⟩ := fF.out
          subst hff
          refine ⟨f', D, P, Q, by rw [← ed], V1, V2, by omega, Lib.hid ?_, Lib.hid ?_, Lib.hid (obj_set4 QV4.out), Lib.hid (obj_set4_other QO4.out (by omega) _ _ _ _), Lib.hid (obj_set4_other QR4.out (by omega) _ _ _ _), Lib.hid (bel_set4 BEL4.out (by omega) _ _ _ _)⟩
          · rw [← HD.out]; exact half_lt hf.out
          · rw [← HD.out, ← HP.out, ← HQ.out, ← pwL_odd _ _ _ _ _ OD.out]; exact hpw.out
        case measure => simp [intOf]; omega
      · have im : ¬ (e' : Int) % 2 = 1 := by omega
        have OD := Lib.hid (show e' % 2 = 0 by omega)
        clear ho2
        obtain ⟨⟨a1, a2, a3, a4⟩, f1, f2, f3, f4⟩ := cells4 hqv.out
        go_wp2_with fail
        clear a1 a2 a3 a4 f1 f2 f3 f4
        refine (M1.out wr).mono ?_
        rintro r w4 ⟨rfl, hb4⟩
        have QV4 := Lib.hid (obj_keep hqv.out hb4 hgv)
        have QO4 := Lib.hid (obj_keep hqo.out hb4 hgo)
        have QR4 := Lib.hid (obj_keep hqr.out hb4 hgr)
        have BEL4 := Lib.hid (hbel.out.trans (hb4.mono hsz))
        clear hb4
        obtain ⟨⟨a1, a2, a3, a4⟩, f1, f2, f3, f4⟩ := cells4 QV4.out
        go_wp2
        go_roundw
        case rel =>
          obtain ⟨f', hff⟩ := fF.out
          subst hff
          refine ⟨f', D, P, o, by rw [← ed], V1, ho, by omega, Lib.hid ?_, Lib.hid ?_, Lib.hid (obj_set4 QV4.out), Lib.hid (obj_set4_other QO4.out (by omega) _ _ _ _), Lib.hid (obj_set4_other QR4.out (by omega) _ _ _ _), Lib.hid (bel_set4 BEL4.out (by omega) _ _ _ _)⟩
          · rw [← HD.out]; exact half_lt hf.out
          · rw [← HD.out, ← HP.out, ← pwL_even _ _ _ _ _ h0 OD.out]; exact hpw.out
        case measure => simp [intOf]; omega
    · have h0' : e' = 0 := by omega
      subst h0'
      rw [pwL_zero] at hpw
      obtain rfl : o = R := hpw.out
      obtain ⟨⟨b1, b2, b3, b4⟩, k1, k2, k3, k4⟩ := cells4 hqo.out
      obtain ⟨⟨z1, z2, z3, z4⟩, l1, l2, l3, l4⟩ := cells4 hqr.out
      go_wp2
      refine bodyPost_ret (v := .agg #[.int .i64 (o.a : Int), .int .i64 (o.b : Int), .int .i64 (o.c : Int), .int .i64 (o.d : Int)]) (by simp [results, Try.results82, go_sem, z1, z2, z3, z4]) rfl ⟨rfl, ?_⟩
      exact bel_set4 hbel.out (by omega) _ _ _ _
end Go.Proofs.Ytbbfbccemonihaa
