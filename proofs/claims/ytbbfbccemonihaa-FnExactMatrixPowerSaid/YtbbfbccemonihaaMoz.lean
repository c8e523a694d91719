/- MatrixPower, of the model and of the program. -/
import Derived.Test.YtbbfbccemonihaaMoy
namespace Go.Proofs.Ytbbfbccemonihaa
open Go.RowKit

set_option maxRecDepth 100000 in
set_option maxHeartbeats 8000000 in
theorem specMW_any (B : Nat) (X : Mx) (x m : Int) (w : World) (_hB : B ≤ w.heap.size) :
    Calls Try.prog 33 #[mxV X, .int .i64 x, .int .i64 m] w fun e w' => e = .returned (.tuple #[mxV (mwV X x m), .bool (mwG X x m)]) ∧ Below w.heap.size w w' := by
  show Calls Try.prog 33 #[.agg #[.int .i64 X.a, .int .i64 X.b, .int .i64 X.c, .int .i64 X.d], .int .i64 x, .int .i64 m] w fun e w' => e = .returned (.tuple #[mxV (mwV X x m), .bool (mwG X x m)]) ∧ Below w.heap.size w w'
  cases h1 : inB m 2 10000 with
  | false =>
    have eg : mwG X x m = false := by simp [mwG, inX_eq, h1]
    have EV := Lib.hid (mw_bad eg)
    have EG := Lib.hid eg
    have H1 := Lib.hid h1
    clear h1 eg
    go_enter Try.func33, Try.ntmps33
    go_wp2_with fail
    go_at_call 68
    generalize hw3 : World.alloc (World.alloc w _) _ = w3
    obtain ⟨q1, q2, qs, qb⟩ := two_new hw3
    clear hw3
    have QB := Lib.hid qb
    have Q1 := Lib.hid q1
    have Q2 := Lib.hid q2
    clear q1 q2 qb
    refine (moModulus_any _ _).mono ?_
    rw [H1.out]
    rintro e w4 ⟨rfl, rfl⟩
    obtain ⟨⟨v21, v22, v23, v24⟩, v2f1, v2f2, v2f3, v2f4⟩ := cells4 Q2.out
    go_wp2
    refine bodyPost_ret (v := .tuple #[.agg #[.int .i64 0, .int .i64 0, .int .i64 0, .int .i64 0], .bool false]) (by simp [results, Try.results33, go_sem, v21, v22, v23, v24]) rfl ⟨by rw [EG.out, EV.out]; rfl, ?_⟩
    exact bel_set4 QB.out (by omega) _ _ _ _
  | true =>
  have hm : 2 ≤ m ∧ m ≤ 10000 := by simpa [inB] using h1
  obtain ⟨m2, m4⟩ := hm
  have H1 := Lib.hid h1
  cases h2 : allB (mxL X) 0 (m - 1) with
  | false =>
    have eg : mwG X x m = false := by simp [mwG, inX_eq, h2]
    have EV := Lib.hid (mw_bad eg)
    have EG := Lib.hid eg
    have C2 := Lib.hid (fun W => moMatrix_any m X W m2 m4)
    rw [h2] at C2
    clear h1 h2 eg m2 m4
    go_enter Try.func33, Try.ntmps33
    go_wp2_with fail
    go_at_call 68
    generalize hw3 : World.alloc (World.alloc w _) _ = w3
    obtain ⟨q1, q2, qs, qb⟩ := two_new hw3
    clear hw3
    have QB := Lib.hid qb
    have Q1 := Lib.hid q1
    have Q2 := Lib.hid q2
    clear q1 q2 qb
    refine (moModulus_any _ _).mono ?_
    rw [H1.out]
    rintro e w4 ⟨rfl, rfl⟩
    obtain ⟨⟨v11, v12, v13, v14⟩, v1f1, v1f2, v1f3, v1f4⟩ := cells4 Q1.out
    go_wp2_with fail
    go_at_call 77
    clear v11 v12 v13 v14 v1f1 v1f2 v1f3 v1f4
    refine (C2.out w3).mono ?_
    rintro e w4 ⟨rfl, hb⟩
    have QB := Lib.hid (QB.out.trans (hb.mono (by omega)))
    have Q1 := Lib.hid (obj_keep Q1.out hb (by omega))
    have Q2 := Lib.hid (obj_keep Q2.out hb (by omega))
    have hsw4 : w3.heap.size ≤ w4.heap.size := hb.size
    clear hb
    obtain ⟨⟨v21, v22, v23, v24⟩, v2f1, v2f2, v2f3, v2f4⟩ := cells4 Q2.out
    go_wp2
    refine bodyPost_ret (v := .tuple #[.agg #[.int .i64 0, .int .i64 0, .int .i64 0, .int .i64 0], .bool false]) (by simp [results, Try.results33, go_sem, v21, v22, v23, v24]) rfl ⟨by rw [EG.out, EV.out]; rfl, ?_⟩
    exact bel_set4 QB.out (by omega) _ _ _ _
  | true =>
  cases h3 : inB x 0 1000000 with
  | false =>
    have eg : mwG X x m = false := by simp [mwG, h3]
    have EV := Lib.hid (mw_bad eg)
    have EG := Lib.hid eg
    have C2 := Lib.hid (fun W => moMatrix_any m X W m2 m4)
    rw [h2] at C2
    have H3 := Lib.hid h3
    clear h1 h2 h3 eg m2 m4
    go_enter Try.func33, Try.ntmps33
    go_wp2_with fail
    go_at_call 68
    generalize hw3 : World.alloc (World.alloc w _) _ = w3
    obtain ⟨q1, q2, qs, qb⟩ := two_new hw3
    clear hw3
    have QB := Lib.hid qb
    have Q1 := Lib.hid q1
    have Q2 := Lib.hid q2
    clear q1 q2 qb
    refine (moModulus_any _ _).mono ?_
    rw [H1.out]
    rintro e w4 ⟨rfl, rfl⟩
    obtain ⟨⟨v11, v12, v13, v14⟩, v1f1, v1f2, v1f3, v1f4⟩ := cells4 Q1.out
    go_wp2_with fail
    go_at_call 77
    clear v11 v12 v13 v14 v1f1 v1f2 v1f3 v1f4
    refine (C2.out w3).mono ?_
    rintro e w4 ⟨rfl, hb⟩
    have QB := Lib.hid (QB.out.trans (hb.mono (by omega)))
    have Q1 := Lib.hid (obj_keep Q1.out hb (by omega))
    have Q2 := Lib.hid (obj_keep Q2.out hb (by omega))
    have hsw4 : w3.heap.size ≤ w4.heap.size := hb.size
    clear hb
    go_wp2_with fail
    go_at_call 81
    refine (moExponent_any _ _).mono ?_
    rw [H3.out]
    rintro e w5 ⟨rfl, rfl⟩
    obtain ⟨⟨v21, v22, v23, v24⟩, v2f1, v2f2, v2f3, v2f4⟩ := cells4 Q2.out
    go_wp2
    refine bodyPost_ret (v := .tuple #[.agg #[.int .i64 0, .int .i64 0, .int .i64 0, .int .i64 0], .bool false]) (by simp [results, Try.results33, go_sem, v21, v22, v23, v24]) rfl ⟨by rw [EG.out, EV.out]; rfl, ?_⟩
    exact bel_set4 QB.out (by omega) _ _ _ _
  | true =>
    have eg : mwG X x m = true := by simp only [mwG, inX_eq, h1, h2, h3]; rfl
    have EG := Lib.hid eg
    obtain ⟨M, NX, rfl, rfl, n2, n4, hX⟩ := inX_nx (m := m) (X := X) (by rw [inX_eq, h1, h2]; rfl)
    have hx : 0 ≤ x ∧ x ≤ 1000000 := by simpa [inB] using h3
    obtain ⟨n, rfl⟩ : ∃ n : Nat, x = n := ⟨x.toNat, by omega⟩
    have hn : n ≤ 1000000 := by omega
    have EV := Lib.hid (mw_good eg)
    have H3 := Lib.hid h3
    have C2 := fun W => moMatrix_any (M : Int) NX.mx W m2 m4
    rw [h2] at C2
    simp only [mxV, Nx.mx] at C2
    have C2 := Lib.hid C2
    have HE := Lib.hid (pow20 hn)
    have HX := Lib.hid hX
    have HO := Lib.hid (oneX_ok n2)
    obtain ⟨R, hR⟩ : ∃ R, mwN M NX n = R := ⟨_, rfl⟩
    rw [hR] at EV
    have HR := Lib.hid (show pwr (mulX M) 20 n oneX NX = R from hR)
    clear h1 h2 h3 eg m2 m4 hX hx hR
    show Calls Try.prog 33 #[.agg #[.int .i64 (NX.a : Int), .int .i64 (NX.b : Int), .int .i64 (NX.c : Int), .int .i64 (NX.d : Int)], .int .i64 (n : Int), .int .i64 (M : Int)] w fun e w' => e = .returned (.tuple #[mxV (mwV NX.mx (n : Int) (M : Int)), .bool (mwG NX.mx (n : Int) (M : Int))]) ∧ Below w.heap.size w w'
    go_enter Try.func33, Try.ntmps33
    go_wp2_with fail
    go_at_call 68
    generalize hw3 : World.alloc (World.alloc w _) _ = w3
    obtain ⟨q1, q2, qs, qb⟩ := two_new hw3
    clear hw3
    have QB := Lib.hid qb
    have Q1 := Lib.hid q1
    have Q2 := Lib.hid q2
    clear q1 q2 qb
    refine (moModulus_any _ _).mono ?_
    rw [H1.out]
    rintro e w4 ⟨rfl, rfl⟩
    obtain ⟨⟨v11, v12, v13, v14⟩, v1f1, v1f2, v1f3, v1f4⟩ := cells4 Q1.out
    go_wp2_with fail
    go_at_call 77
    clear v11 v12 v13 v14 v1f1 v1f2 v1f3 v1f4
    refine (C2.out w3).mono ?_
    rintro e w4 ⟨rfl, hb⟩
    have QB := Lib.hid (QB.out.trans (hb.mono (by omega)))
    have Q1 := Lib.hid (obj_keep Q1.out hb (by omega))
    have Q2 := Lib.hid (obj_keep Q2.out hb (by omega))
    have hsw4 : w3.heap.size ≤ w4.heap.size := hb.size
    clear hb
    go_wp2_with fail
    go_at_call 81
    refine (moExponent_any _ _).mono ?_
    rw [H3.out]
    rintro e w5 ⟨rfl, rfl⟩
    go_wp2
    generalize hw6 : World.alloc w4 _ = w6
    obtain ⟨q9, qs9, qb9⟩ := obj4 hw6
    clear hw6
    have QV := Lib.hid (obj_keep Q1.out qb9 (by omega))
    have QR := Lib.hid (obj_keep Q2.out qb9 (by omega))
    have QO := Lib.hid (show w6.heap[w4.heap.size]? = some (.cells #[.int .i64 (oneX.a : Int), .int .i64 (oneX.b : Int), .int .i64 (oneX.c : Int), .int .i64 (oneX.d : Int)] 46 (0, 0)) from q9)
    have BEL := Lib.hid (QB.out.trans (qb9.mono (by omega)))
    have hg9 : w.heap.size + 2 ≤ w4.heap.size := by omega
    clear q9 qb9 Q1 Q2 QB
    go_loopw [1] (fun ev wr => ∃ (f e' : Nat) (v o : Nx), ev = .int .i64 (e' : Int) ∧ Hid (okN M v) ∧ Hid (okN M o) ∧ e' ≤ 1000000 ∧ Hid (e' < 2 ^ f) ∧ Hid (pwr (mulX M) f e' o v = R) ∧ Hid (wr.heap[w.heap.size]? = some (.cells #[.int .i64 (v.a : Int), .int .i64 (v.b : Int), .int .i64 (v.c : Int), .int .i64 (v.d : Int)] 46 (0, 0))) ∧ Hid (wr.heap[w4.heap.size]? = some (.cells #[.int .i64 (o.a : Int), .int .i64 (o.b : Int), .int .i64 (o.c : Int), .int .i64 (o.d : Int)] 46 (0, 0))) ∧ Hid (wr.heap[w.heap.size + 1]? = some (.cells #[.int .i64 0, .int .i64 0, .int .i64 0, .int .i64 0] 46 (0, 0))) ∧ Hid (Below w.heap.size w wr)) (fun ev _ => (intOf ev).toNat)
    case atStart => exact ⟨20, n, NX, oneX, rfl, HX, HO, hn, HE, HR, QV, QO, QR, BEL⟩
    case round =>
      clear BEL
      obtain ⟨f, e', v, o, rfl, hv, ho, he', hf, hpw, hqv, hqo, hqr, hbel⟩ := hrel
      clear HE HR QV QO QR HX HO
      have hgv : w.heap.size < wr.heap.size := (Array.getElem?_eq_some_iff.1 hqv.out).1
      have hgo : w4.heap.size < wr.heap.size := (Array.getElem?_eq_some_iff.1 hqo.out).1
      have hgr : w.heap.size + 1 < wr.heap.size := (Array.getElem?_eq_some_iff.1 hqr.out).1
      have hsz := hbel.out.size
      by_cases h0 : 0 < e'
      · have i0 : (0 : Int) < (e' : Int) := by omega
        have ed : (e' : Int) / 2 = ((e' / 2 : Nat) : Int) := by omega
        have hdl : e' / 2 < e' := by omega
        obtain ⟨D, hD⟩ : ∃ D, e' / 2 = D := ⟨_, rfl⟩
        have HD := Lib.hid hD
        rw [hD] at ed hdl
        have V1 := Lib.hid (mulX_ok (m := M) (by omega) v v)
        have V2 := Lib.hid (mulX_ok (m := M) (by omega) o v)
        have M1 := fun W => moTimes_any M v v W n2 n4 hv.out hv.out
        have M2 := fun W => moTimes_any M o v W n2 n4 ho.out hv.out
        obtain ⟨P, hP⟩ : ∃ P, mulX M v v = P := ⟨_, rfl⟩
        obtain ⟨Q, hQ⟩ : ∃ Q, mulX M o v = Q := ⟨_, rfl⟩
        have HP := Lib.hid hP
        have HQ := Lib.hid hQ
        rw [hP] at M1 V1
        rw [hQ] at M2 V2
        simp only [mxV, Nx.mx] at M1 M2
        have M1 := Lib.hid M1
        have M2 := Lib.hid M2
        have fF := Lib.hid (show ∃ f', f = f' + 1 from by
          cases f with
          | zero => exfalso; have := hf.out; simp at this; omega
          | succ f' => exact ⟨f', rfl⟩)
        clear hP hQ hD
        by_cases ho2 : e' % 2 = 1
        · have im : (e' : Int) % 2 = 1 := by omega
          have OD := Lib.hid ho2
          clear ho2
          obtain ⟨⟨a1, a2, a3, a4⟩, f1, f2, f3, f4⟩ := cells4 hqv.out
          obtain ⟨⟨b1, b2, b3, b4⟩, k1, k2, k3, k4⟩ := cells4 hqo.out
          go_wp2_with fail
          go_at_call 78
          clear a1 a2 a3 a4 f1 f2 f3 f4 b1 b2 b3 b4 k1 k2 k3 k4
          refine (M2.out wr).mono ?_
          rintro r w2 ⟨rfl, hb2⟩
          have QV2 := Lib.hid (obj_keep hqv.out hb2 hgv)
          have QO2 := Lib.hid (obj_keep hqo.out hb2 hgo)
          have QR2 := Lib.hid (obj_keep hqr.out hb2 hgr)
          have BEL2 := Lib.hid (hbel.out.trans (hb2.mono hsz))
          have hs2 := hb2.size
          clear hb2
          obtain ⟨⟨b1, b2, b3, b4⟩, k1, k2, k3, k4⟩ := cells4 QO2.out
          obtain ⟨⟨a1, a2, a3, a4⟩, f1, f2, f3, f4⟩ := cells4 QV2.out
          go_wp2_with fail
          go_at_call 78
          generalize hw3 : ((((w2.setCell ⟨w4.heap.size, 0, none⟩ (.int .i64 (Q.a : Int))).setCell ⟨w4.heap.size, 1, none⟩ (.int .i64 (Q.b : Int))).setCell ⟨w4.heap.size, 2, none⟩ (.int .i64 (Q.c : Int))).setCell ⟨w4.heap.size, 3, none⟩ (.int .i64 (Q.d : Int))) = w3
          have QV3 := Lib.hid (show w3.heap[w.heap.size]? = some (.cells #[.int .i64 (v.a : Int), .int .i64 (v.b : Int), .int .i64 (v.c : Int), .int .i64 (v.d : Int)] 46 (0, 0)) by rw [← hw3]; exact obj_set4_other QV2.out (by omega) _ _ _ _)
          have QO3 := Lib.hid (show w3.heap[w4.heap.size]? = some (.cells #[.int .i64 (Q.a : Int), .int .i64 (Q.b : Int), .int .i64 (Q.c : Int), .int .i64 (Q.d : Int)] 46 (0, 0)) by rw [← hw3]; exact obj_set4 QO2.out)
          have QR3 := Lib.hid (show w3.heap[w.heap.size + 1]? = some (.cells #[.int .i64 0, .int .i64 0, .int .i64 0, .int .i64 0] 46 (0, 0)) by rw [← hw3]; exact obj_set4_other QR2.out (by omega) _ _ _ _)
          have BEL3 := Lib.hid (show Below w.heap.size w w3 by rw [← hw3]; exact bel_set4 BEL2.out (by omega) _ _ _ _)
          have hs3 : w3.heap.size = w2.heap.size := by rw [← hw3]; simp [World.setCell]
          clear a1 a2 a3 a4 f1 f2 f3 f4 b1 b2 b3 b4 k1 k2 k3 k4 hw3
          refine (M1.out w3).mono ?_
          rintro r w4 ⟨rfl, hb4⟩
          have QV4 := Lib.hid (obj_keep QV3.out hb4 (by omega))
          have QO4 := Lib.hid (obj_keep QO3.out hb4 (by omega))
          have QR4 := Lib.hid (obj_keep QR3.out hb4 (by omega))
          have BEL4 := Lib.hid (BEL3.out.trans (hb4.mono (by omega)))
          clear hb4
          obtain ⟨⟨a1, a2, a3, a4⟩, f1, f2, f3, f4⟩ := cells4 QV4.out
          go_wp2
          go_roundw
          case rel =>
            obtain ⟨f', hff⟩ := fF.out
            subst hff
            refine ⟨f', D, P, Q, by rw [← ed], V1, V2, by omega, Lib.hid ?_, Lib.hid ?_, Lib.hid (obj_set4 QV4.out), Lib.hid (obj_set4_other QO4.out (by omega) _ _ _ _), Lib.hid (obj_set4_other QR4.out (by omega) _ _ _ _), Lib.hid (bel_set4 BEL4.out (by omega) _ _ _ _)⟩
            · rw [← HD.out]; exact half_lt hf.out
            · rw [← HD.out, ← HP.out, ← HQ.out, ← pwL_odd _ _ _ _ _ OD.out]; exact hpw.out
          case measure => simp [intOf]; omega
        · have im : ¬ (e' : Int) % 2 = 1 := by omega
          have OD := Lib.hid (show e' % 2 = 0 by omega)
          clear ho2
          obtain ⟨⟨a1, a2, a3, a4⟩, f1, f2, f3, f4⟩ := cells4 hqv.out
          go_wp2_with fail
          go_at_call 78
          clear a1 a2 a3 a4 f1 f2 f3 f4
          refine (M1.out wr).mono ?_
          rintro r w4 ⟨rfl, hb4⟩
          have QV4 := Lib.hid (obj_keep hqv.out hb4 hgv)
          have QO4 := Lib.hid (obj_keep hqo.out hb4 hgo)
          have QR4 := Lib.hid (obj_keep hqr.out hb4 hgr)
          have BEL4 := Lib.hid (hbel.out.trans (hb4.mono hsz))
          clear hb4
          obtain ⟨⟨a1, a2, a3, a4⟩, f1, f2, f3, f4⟩ := cells4 QV4.out
          go_wp2
          go_roundw
          case rel =>
            obtain ⟨f', hff⟩ := fF.out
            subst hff
            refine ⟨f', D, P, o, by rw [← ed], V1, ho, by omega, Lib.hid ?_, Lib.hid ?_, Lib.hid (obj_set4 QV4.out), Lib.hid (obj_set4_other QO4.out (by omega) _ _ _ _), Lib.hid (obj_set4_other QR4.out (by omega) _ _ _ _), Lib.hid (bel_set4 BEL4.out (by omega) _ _ _ _)⟩
            · rw [← HD.out]; exact half_lt hf.out
            · rw [← HD.out, ← HP.out, ← pwL_even _ _ _ _ _ h0 OD.out]; exact hpw.out
          case measure => simp [intOf]; omega
      · have h0' : e' = 0 := by omega
        subst h0'
        rw [pwL_zero] at hpw
        obtain rfl : o = R := hpw.out
        obtain ⟨⟨b1, b2, b3, b4⟩, k1, k2, k3, k4⟩ := cells4 hqo.out
        obtain ⟨⟨z1, z2, z3, z4⟩, l1, l2, l3, l4⟩ := cells4 hqr.out
        go_wp2
        refine bodyPost_ret (v := .tuple #[.agg #[.int .i64 (o.a : Int), .int .i64 (o.b : Int), .int .i64 (o.c : Int), .int .i64 (o.d : Int)], .bool true]) (by simp [results, Try.results33, go_sem, z1, z2, z3, z4]) rfl ⟨by rw [EG.out, EV.out]; rfl, ?_⟩
        exact bel_set4 hbel.out (by omega) _ _ _ _

set_option maxRecDepth 100000 in
set_option maxHeartbeats 8000000 in
theorem implMW_any (B : Nat) (X : Mx) (x m : Int) (w : World) (_hB : B ≤ w.heap.size) :
    Calls Try.prog 34 #[mxV X, .int .i64 x, .int .i64 m] w fun e w' => e = .returned (.tuple #[mxV (mwV X x m), .bool (mwG X x m)]) ∧ Below w.heap.size w w' := by
  show Calls Try.prog 34 #[.agg #[.int .i64 X.a, .int .i64 X.b, .int .i64 X.c, .int .i64 X.d], .int .i64 x, .int .i64 m] w fun e w' => e = .returned (.tuple #[mxV (mwV X x m), .bool (mwG X x m)]) ∧ Below w.heap.size w w'
  cases h1 : inX m X with
  | false =>
    have eg : mwG X x m = false := by simp [mwG, h1]
    have EV := Lib.hid (mw_bad eg)
    have EG := Lib.hid eg
    have C1 := Lib.hid (fun W => mxHas_any m X W)
    rw [h1] at C1
    clear h1 eg
    go_enter Try.func34, Try.ntmps34
    go_wp2_with fail
    go_at_call 79
    generalize hw3 : World.alloc (World.alloc (World.alloc w _) _) _ = w3
    obtain ⟨q1, q2, q3, qs, qb⟩ := three_new hw3
    clear hw3
    have QB := Lib.hid qb
    have Q1 := Lib.hid q1
    have Q2 := Lib.hid q2
    have Q3 := Lib.hid q3
    clear q1 q2 qb q3
    refine (C1.out w3).mono ?_
    rintro e w4 ⟨rfl, hb⟩
    have QB := Lib.hid (QB.out.trans (hb.mono (by omega)))
    have Q1 := Lib.hid (obj_keep Q1.out hb (by omega))
    have Q2 := Lib.hid (obj_keep Q2.out hb (by omega))
    have Q3 := Lib.hid (obj_keep Q3.out hb (by omega))
    have hsw4 : w3.heap.size ≤ w4.heap.size := hb.size
    clear hb
    obtain ⟨⟨v21, v22, v23, v24⟩, v2f1, v2f2, v2f3, v2f4⟩ := cells4 Q2.out
    have v0 := cells1 Q3.out
    go_wp2
    refine bodyPost_ret (v := .tuple #[.agg #[.int .i64 0, .int .i64 0, .int .i64 0, .int .i64 0], .bool false]) (by simp [results, Try.results34, go_sem, v21, v22, v23, v24]) rfl ⟨by rw [EG.out, EV.out]; rfl, ?_⟩
    exact bel_set4 QB.out (by omega) _ _ _ _
  | true =>
  cases h3 : inB x 0 1000000 with
  | false =>
    have eg : mwG X x m = false := by simp [mwG, h3]
    have EV := Lib.hid (mw_bad eg)
    have EG := Lib.hid eg
    have C1 := Lib.hid (fun W => mxHas_any m X W)
    rw [h1] at C1
    have H3 := Lib.hid h3
    clear h1 h3 eg
    go_enter Try.func34, Try.ntmps34
    go_wp2_with fail
    go_at_call 79
    generalize hw3 : World.alloc (World.alloc (World.alloc w _) _) _ = w3
    obtain ⟨q1, q2, q3, qs, qb⟩ := three_new hw3
    clear hw3
    have QB := Lib.hid qb
    have Q1 := Lib.hid q1
    have Q2 := Lib.hid q2
    have Q3 := Lib.hid q3
    clear q1 q2 qb q3
    refine (C1.out w3).mono ?_
    rintro e w4 ⟨rfl, hb⟩
    have QB := Lib.hid (QB.out.trans (hb.mono (by omega)))
    have Q1 := Lib.hid (obj_keep Q1.out hb (by omega))
    have Q2 := Lib.hid (obj_keep Q2.out hb (by omega))
    have Q3 := Lib.hid (obj_keep Q3.out hb (by omega))
    have hsw4 : w3.heap.size ≤ w4.heap.size := hb.size
    clear hb
    go_wp2_with fail
    go_at_call 73
    refine (isPower_any _ _).mono ?_
    rw [H3.out]
    rintro e w5 ⟨rfl, rfl⟩
    obtain ⟨⟨v21, v22, v23, v24⟩, v2f1, v2f2, v2f3, v2f4⟩ := cells4 Q2.out
    have v0 := cells1 Q3.out
    go_wp2
    refine bodyPost_ret (v := .tuple #[.agg #[.int .i64 0, .int .i64 0, .int .i64 0, .int .i64 0], .bool false]) (by simp [results, Try.results34, go_sem, v21, v22, v23, v24]) rfl ⟨by rw [EG.out, EV.out]; rfl, ?_⟩
    exact bel_set4 QB.out (by omega) _ _ _ _
  | true =>
    have eg : mwG X x m = true := by simp only [mwG, h1, h3]; rfl
    have EG := Lib.hid eg
    obtain ⟨M, NX, rfl, rfl, n2, n4, hX⟩ := inX_nx (m := m) (X := X) (by exact h1)
    have hx : 0 ≤ x ∧ x ≤ 1000000 := by simpa [inB] using h3
    obtain ⟨n, rfl⟩ : ∃ n : Nat, x = n := ⟨x.toNat, by omega⟩
    have hn : n ≤ 1000000 := by omega
    have EV := Lib.hid (mw_good eg)
    have H3 := Lib.hid h3
    have C1 := fun W => mxHas_any (M : Int) NX.mx W
    rw [h1] at C1
    have C4 := fun W => timesX_any M n oneX NX W n2 n4 (oneX_ok n2) hX hn
    rw [show pwr (mulX M) 20 n oneX NX = mwN M NX n from rfl] at C4
    obtain ⟨Z, hZ⟩ : ∃ Z, mwN M NX n = Z := ⟨_, rfl⟩
    rw [hZ] at C4 EV
    simp only [mxV, Nx.mx] at C1 C4
    have C1 := Lib.hid C1
    have C4 := Lib.hid C4
    clear h1 h3 eg hX hx hZ
    show Calls Try.prog 34 #[.agg #[.int .i64 (NX.a : Int), .int .i64 (NX.b : Int), .int .i64 (NX.c : Int), .int .i64 (NX.d : Int)], .int .i64 (n : Int), .int .i64 (M : Int)] w fun e w' => e = .returned (.tuple #[mxV (mwV NX.mx (n : Int) (M : Int)), .bool (mwG NX.mx (n : Int) (M : Int))]) ∧ Below w.heap.size w w'
    go_enter Try.func34, Try.ntmps34
    go_wp2_with fail
    go_at_call 79
    generalize hw3 : World.alloc (World.alloc (World.alloc w _) _) _ = w3
    obtain ⟨q1, q2, q3, qs, qb⟩ := three_new hw3
    clear hw3
    have QB := Lib.hid qb
    have Q1 := Lib.hid q1
    have Q2 := Lib.hid q2
    have Q3 := Lib.hid q3
    clear q1 q2 qb q3
    refine (C1.out w3).mono ?_
    rintro e w4 ⟨rfl, hb⟩
    have QB := Lib.hid (QB.out.trans (hb.mono (by omega)))
    have Q1 := Lib.hid (obj_keep Q1.out hb (by omega))
    have Q2 := Lib.hid (obj_keep Q2.out hb (by omega))
    have Q3 := Lib.hid (obj_keep Q3.out hb (by omega))
    have hsw4 : w3.heap.size ≤ w4.heap.size := hb.size
    clear hb
    go_wp2_with fail
    go_at_call 73
    refine (isPower_any _ _).mono ?_
    rw [H3.out]
    rintro e w5 ⟨rfl, rfl⟩
    obtain ⟨⟨v11, v12, v13, v14⟩, v1f1, v1f2, v1f3, v1f4⟩ := cells4 Q1.out
    have v0 := cells1 Q3.out
    go_wp2_with fail
    go_at_call 82
    clear v11 v12 v13 v14 v1f1 v1f2 v1f3 v1f4
    clear v0
    refine (C4.out w4).mono ?_
    rintro e w6 ⟨rfl, hb⟩
    have QB := Lib.hid (QB.out.trans (hb.mono (by omega)))
    have Q1 := Lib.hid (obj_keep Q1.out hb (by omega))
    have Q2 := Lib.hid (obj_keep Q2.out hb (by omega))
    have Q3 := Lib.hid (obj_keep Q3.out hb (by omega))
    have hsw6 : w4.heap.size ≤ w6.heap.size := hb.size
    clear hb
    obtain ⟨⟨v21, v22, v23, v24⟩, v2f1, v2f2, v2f3, v2f4⟩ := cells4 Q2.out
    have v0 := cells1 Q3.out
    go_wp2
    refine bodyPost_ret (v := .tuple #[.agg #[.int .i64 (Z.a : Int), .int .i64 (Z.b : Int), .int .i64 (Z.c : Int), .int .i64 (Z.d : Int)], .bool true]) (by simp [results, Try.results34, go_sem, v21, v22, v23, v24]) rfl ⟨by rw [EG.out, EV.out]; rfl, ?_⟩
    exact bel_set4 QB.out (by omega) _ _ _ _

end Go.Proofs.Ytbbfbccemonihaa
