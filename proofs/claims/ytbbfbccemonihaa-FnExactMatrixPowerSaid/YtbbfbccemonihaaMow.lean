/- Products of matrices, of the model and of the program. -/
import Derived.Test.YtbbfbccemonihaaMov
import Derived.Test.YtbbfbccemonihaaMoh
namespace Go.Proofs.Ytbbfbccemonihaa
open Go.RowKit

theorem four_new {w w4 : World} {o1 o2 o3 o4 : Obj} (h : (((w.alloc o1).alloc o2).alloc o3).alloc o4 = w4) :
    w4.heap[w.heap.size]? = some o1 ∧ w4.heap[w.heap.size + 1]? = some o2 ∧ w4.heap[w.heap.size + 1 + 1]? = some o3 ∧ w4.heap[w.heap.size + 1 + 1 + 1]? = some o4 ∧ w4.heap.size = w.heap.size + 4 ∧ Below w.heap.size w w4 := by
  obtain ⟨w3, h3⟩ : ∃ w3, ((w.alloc o1).alloc o2).alloc o3 = w3 := ⟨_, rfl⟩
  rw [h3] at h
  obtain ⟨a1, a2, a3, b3, c3⟩ := three_new h3
  obtain ⟨a4, b4, c4⟩ := obj4 h
  rw [b3] at a4
  exact ⟨obj_keep a1 c4 (by omega), obj_keep a2 c4 (by omega), obj_keep a3 c4 (by omega), a4, by omega, c3.trans (c4.mono (by omega))⟩
theorem rd4 {w : World} {g : Nat} {a b c d : Int} {t : TypeId} (h : w.heap[g]? = some (.cells #[I a, I b, I c, I d] t (0, 0))) : Rd w w.heap.size 1 (some ⟨g, 0, none⟩) 4 ([a, b, c, d].map I) := by
  obtain ⟨⟨h0, h1, h2, h3⟩, _⟩ := cells4 h
  refine ⟨rfl, fun _ => ⟨g, 0, rfl, (Array.getElem?_eq_some_iff.1 h).1, fun j hj => ?_⟩⟩
  match j, hj with
  | 0, _ => exact h0
  | 1, _ => exact h1
  | 2, _ => exact h2
  | 3, _ => exact h3
theorem cells1 {w : World} {g : Nat} {a : Value} {t : TypeId} (h : w.heap[g]? = some (.cells #[a] t (0, 0))) : w.cell? ⟨g, 0, none⟩ = some a := by
  rw [cell_of_row w _ 0 _ _ (0, 0) h]; rfl
theorem inX_eq (m : Int) (X : Mx) : inX m X = (inB m 2 10000 && allB (mxL X) 0 (m - 1)) := all_inR (by simp [mxL])
def mulZ (m : Int) (X Y : Mx) : Mx := ⟨(X.a * Y.a + X.b * Y.c) % m, (X.a * Y.b + X.b * Y.d) % m, (X.c * Y.a + X.d * Y.c) % m, (X.c * Y.b + X.d * Y.d) % m⟩
theorem mulZ_nx (M : Nat) (X Y : Nx) : mulZ (M : Int) X.mx Y.mx = (mulX M X Y).mx := by
  unfold mulZ mulX Nx.mx
  push_cast
  rfl
def zeroX : Mx := ⟨0, 0, 0, 0⟩
def mpG (X Y : Mx) (m : Int) : Bool := inX m X && inX m Y
def mpV (X Y : Mx) (m : Int) : Mx := if mpG X Y m then mulZ m X Y else zeroX
theorem mp_bad {X Y : Mx} {m : Int} (h : mpG X Y m = false) : mpV X Y m = zeroX := by unfold mpV; rw [h]; rfl

set_option maxRecDepth 100000 in
set_option maxHeartbeats 2000000 in
theorem moMatrix_any (m : Int) (X : Mx) (w : World) (h2 : 2 ≤ m) (h4 : m ≤ 10000) :
    Calls Try.prog 77 #[mxV X, .int .i64 m] w fun e w' => e = .returned (.bool (allB (mxL X) 0 (m - 1))) ∧ Below w.heap.size w w' := by
  have HC := Lib.hid (fun (W : World) A c (hr : Rd W W.heap.size 1 A 4 ((mxL X).map I)) => show Calls Try.prog 70 #[.slice A 4 c, .int .i64 0, .int .i64 (m - 1)] W fun e w' => e = .returned (.bool (allB (mxL X) 0 (m - 1))) ∧ W = w' from l1All_any W.heap.size A c (mxL X) 0 (m - 1) W (by simp [mxL]) hr)
  have hw : wrap64 (m - 1) = m - 1 := by unfold wrap64; omega
  obtain ⟨t, ht⟩ : ∃ t, allB (mxL X) 0 (m - 1) = t := ⟨_, rfl⟩
  rw [ht] at HC
  rw [ht]
  clear ht
  obtain ⟨a, b, c, d⟩ := X
  show Calls Try.prog 77 #[.agg #[.int .i64 a, .int .i64 b, .int .i64 c, .int .i64 d], .int .i64 m] w fun e w' => e = .returned (.bool t) ∧ Below w.heap.size w w'
  go_enter Try.func77, Try.ntmps77
  go_wp2_with fail
  go_at_call 70
  generalize hw2 : World.alloc (World.alloc w _) _ = w2
  obtain ⟨q1, q2, qs, qb⟩ := two_new hw2
  clear hw2
  have QB := Lib.hid qb
  refine (HC.out w2 _ _ (rd4 q2)).mono ?_
  rintro e w3 ⟨rfl, rfl⟩
  clear q1 q2 qb
  go_wp2
  go_ret
  exact ⟨rfl, QB.out⟩

theorem mxAll (m : Int) (X : Mx) (t : Bool) (ht : inX m X = t) (W : World) (A : Option Addr) (c : Nat) (hr : Rd W W.heap.size 1 A 4 ((mxL X).map I)) : Calls Try.prog 72 #[.iface 85 (.agg #[.int .i64 m]), .slice A 4 c] W fun e w' => e = .returned (.bool t) ∧ Below W.heap.size W w' := by
  have e4 : (mxL X).length = 4 := rfl
  have h := hasAllR_any W.heap.size A c m (mxL X) W (by rw [e4]; omega) (Nat.le_refl _) (by rw [e4]; exact hr)
  rw [e4, show (mxL X).all (inR m) = t from ht] at h
  exact h
set_option maxRecDepth 100000 in
set_option maxHeartbeats 2000000 in
theorem mxHas_any (m : Int) (X : Mx) (w : World) :
    Calls Try.prog 79 #[.agg #[.int .i64 m], mxV X] w fun e w' => e = .returned (.bool (inX m X)) ∧ Below w.heap.size w w' := by
  obtain ⟨t, ht⟩ : ∃ t, inX m X = t := ⟨_, rfl⟩
  have HC := Lib.hid (mxAll m X t ht)
  rw [ht]
  clear ht
  obtain ⟨a, b, c, d⟩ := X
  show Calls Try.prog 79 #[.agg #[.int .i64 m], .agg #[.int .i64 a, .int .i64 b, .int .i64 c, .int .i64 d]] w fun e w' => e = .returned (.bool t) ∧ Below w.heap.size w w'
  go_enter Try.func79, Try.ntmps79
  go_wp2_with fail
  go_at_call 72
  generalize hw2 : World.alloc (World.alloc (World.alloc w _) _) _ = w2
  obtain ⟨q1, q2, q3, qs, qb⟩ := three_new hw2
  clear hw2
  have QB := Lib.hid qb
  refine (HC.out w2 _ _ (rd4 q3)).mono ?_
  rintro e w3 ⟨rfl, hb3⟩
  have HB := Lib.hid (QB.out.trans (hb3.mono (by omega)))
  clear q1 q2 q3 qb hb3
  go_wp2
  go_ret
  exact ⟨rfl, HB.out⟩

set_option maxRecDepth 100000 in
set_option maxHeartbeats 8000000 in
theorem mxMul_any (M : Nat) (X Y : Nx) (w : World) (n2 : 2 ≤ M) (n4 : M ≤ 10000) (hX : okN M X) (hY : okN M Y) :
    Calls Try.prog 80 #[.agg #[.int .i64 (M : Int)], mxV X.mx, mxV Y.mx] w fun e w' => e = .returned (mxV (mulX M X Y).mx) ∧ Below w.heap.size w w' := by
  obtain ⟨x1, x2, x3, x4⟩ := X
  obtain ⟨y1, y2, y3, y4⟩ := Y
  obtain ⟨hx1, hx2, hx3, hx4⟩ := hX
  obtain ⟨hy1, hy2, hy3, hy4⟩ := hY
  simp only at hx1 hx2 hx3 hx4 hy1 hy2 hy3 hy4
  obtain ⟨P1, R1, S1, p1, r1, s1, t1, e1⟩ := entry n4 hx1 hy1 hx2 hy3
  obtain ⟨P2, R2, S2, p2, r2, s2, t2, e2⟩ := entry n4 hx1 hy2 hx2 hy4
  obtain ⟨P3, R3, S3, p3, r3, s3, t3, e3⟩ := entry n4 hx3 hy1 hx4 hy3
  obtain ⟨P4, R4, S4, p4, r4, s4, t4, e4⟩ := entry n4 hx3 hy2 hx4 hy4
  have hE : (mulX M ⟨x1, x2, x3, x4⟩ ⟨y1, y2, y3, y4⟩).mx = ⟨((S1 % M : Nat) : Int), ((S2 % M : Nat) : Int), ((S3 % M : Nat) : Int), ((S4 % M : Nat) : Int)⟩ := by rw [e1, e2, e3, e4]; rfl
  rw [hE]
  show Calls Try.prog 80 #[.agg #[.int .i64 (M : Int)], .agg #[.int .i64 (x1 : Int), .int .i64 (x2 : Int), .int .i64 (x3 : Int), .int .i64 (x4 : Int)], .agg #[.int .i64 (y1 : Int), .int .i64 (y2 : Int), .int .i64 (y3 : Int), .int .i64 (y4 : Int)]] w fun e w' => e = .returned (.agg #[.int .i64 ((S1 % M : Nat) : Int), .int .i64 ((S2 % M : Nat) : Int), .int .i64 ((S3 % M : Nat) : Int), .int .i64 ((S4 % M : Nat) : Int)]) ∧ Below w.heap.size w w'
  obtain ⟨D1, d1⟩ : ∃ D, S1 % M = D := ⟨_, rfl⟩
  obtain ⟨D2, d2⟩ : ∃ D, S2 % M = D := ⟨_, rfl⟩
  obtain ⟨D3, d3⟩ : ∃ D, S3 % M = D := ⟨_, rfl⟩
  obtain ⟨D4, d4⟩ : ∃ D, S4 % M = D := ⟨_, rfl⟩
  rw [d1] at t1
  rw [d2] at t2
  rw [d3] at t3
  rw [d4] at t4
  rw [d1, d2, d3, d4]
  have nM0 : ¬ M = 0 := by omega
  clear hE e1 e2 e3 e4 d1 d2 d3 d4 hx1 hx2 hx3 hx4 hy1 hy2 hy3 hy4
  go_enter Try.func80, Try.ntmps80
  go_wp2
  generalize hw3 : World.alloc (World.alloc (World.alloc (World.alloc w _) _) _) _ = w3
  obtain ⟨q0, q1, q2, q3, qs, qb⟩ := four_new hw3
  have c0 := cells1 q0
  clear q0
  clear hw3
  have Q3 := Lib.hid q3
  have QB := Lib.hid qb
  obtain ⟨⟨c1, c2, c3, c4⟩, _, _, _, _⟩ := cells4 q1
  obtain ⟨⟨k1, k2, k3, k4⟩, _, _, _, _⟩ := cells4 q2
  obtain ⟨⟨z1, z2, z3, z4⟩, f1, f2, f3, f4⟩ := cells4 q3
  clear q1 q2 q3 qb
  refine wp_region_Tw [0, 1, 2, 3, 4, 5, 6, 7, 8, 9, 10, 11, 12, 13, 14, 15, 16, 17, 18, 19, 20, 21, 22, 23, 24, 25, 26, 27, 28, 29, 30, 31, 32, 33, 34, 35, 36, 37, 38, 39, 40, 41, 42, 43, 44, 45, 46, 47, 48, 49, 50, 51, 52, 53, 54, 55, 56, 57, 58, 59, 60] [1, 3, 6, 8, 13, 16, 18, 21, 23, 28, 31, 33, 36, 38, 43, 46, 48, 51, 53, 58] (.lp 0 (.lp 2 (.lp 5 (.lp 7 (.lp 11 (.lp 12 (.lp 15 (.lp 17 (.lp 20 (.lp 22 (.lp 26 (.lp 27 (.lp 30 (.lp 32 (.lp 35 (.lp 37 (.lp 41 (.lp 42 (.lp 45 (.lp 47 (.lp 50 (.lp 52 (.lp 56 (.lp 57 (.ls 1 (.ls 3 (.lp 4 (.ls 6 (.ls 8 (.lp 9 (.lp 10 (.ls 13 (.lp 14 (.ls 16 (.ls 18 (.lp 19 (.ls 21 (.ls 23 (.lp 24 (.lp 25 (.ls 28 (.lp 29 (.ls 31 (.ls 33 (.lp 34 (.ls 36 (.ls 38 (.lp 39 (.lp 40 (.ls 43 (.lp 44 (.ls 46 (.ls 48 (.lp 49 (.ls 51 (.ls 53 (.lp 54 (.lp 55 (.ls 58 (.lp 59 (.lp 60 (.hv 61 (.done))))))))))))))))))))))))))))))))))))))))))))))))))))))))))))))) (by kernel_rfl) (by kernel_rfl) ?_
  (repeat (first | (refine T_lp rfl (fun K hK => ?_); go_simp; refine hK _ ?_; clear hK K) | (refine T_ls rfl rfl (fun K hK => ?_); go_simp; refine hK _ ?_; clear hK K)))
  clear c0 c1 c2 c3 c4 k1 k2 k3 k4
  (refine T_hv rfl (by kernel_rfl) (fun K hK => ?_); go_simp)
  (go_simp; refine hK _ _ ?_; clear hK K)
  refine T_done ?_
  go_wp2
  refine bodyPost_ret (v := .agg #[.int .i64 (D1 : Int), .int .i64 (D2 : Int), .int .i64 (D3 : Int), .int .i64 (D4 : Int)]) (by simp [results, Try.results80, go_sem, z1, z2, z3, z4]) rfl ⟨rfl, ?_⟩
  exact bel_set4 QB.out.drew (by omega) _ _ _ _
set_option maxRecDepth 100000 in
set_option maxHeartbeats 4000000 in
theorem specMP_any (B : Nat) (X Y : Mx) (m : Int) (w : World) (_hB : B ≤ w.heap.size) :
    Calls Try.prog 29 #[mxV X, mxV Y, .int .i64 m] w fun e w' => e = .returned (.tuple #[mxV (mpV X Y m), .bool (mpG X Y m)]) ∧ Below w.heap.size w w' := by
  show Calls Try.prog 29 #[.agg #[.int .i64 X.a, .int .i64 X.b, .int .i64 X.c, .int .i64 X.d], .agg #[.int .i64 Y.a, .int .i64 Y.b, .int .i64 Y.c, .int .i64 Y.d], .int .i64 m] w fun e w' => e = .returned (.tuple #[mxV (mpV X Y m), .bool (mpG X Y m)]) ∧ Below w.heap.size w w'
  cases h1 : inB m 2 10000 with
  | false =>
    have eg : mpG X Y m = false := by simp [mpG, inX_eq, h1]
    have EV := Lib.hid (mp_bad eg)
    have EG := Lib.hid eg
    have H1 := Lib.hid h1
    clear h1 eg
    go_enter Try.func29, Try.ntmps29
    go_wp2_with fail
    go_at_call 68
    generalize hw3 : World.alloc (World.alloc (World.alloc w _) _) _ = w3
    obtain ⟨q1, q2, q3, qs, qb⟩ := three_new hw3
    clear hw3
    have QB := Lib.hid qb
    have Q1 := Lib.hid q1
    have Q2 := Lib.hid q2
    have Q3 := Lib.hid q3
    clear q1 q2 q3 qb
    refine (moModulus_any _ _).mono ?_
    rw [H1.out]
    rintro e w4 ⟨rfl, rfl⟩
    obtain ⟨⟨v31, v32, v33, v34⟩, v3f1, v3f2, v3f3, v3f4⟩ := cells4 Q3.out
    go_wp2
    refine bodyPost_ret (v := .tuple #[.agg #[.int .i64 0, .int .i64 0, .int .i64 0, .int .i64 0], .bool false]) (by simp [results, Try.results29, go_sem, v31, v32, v33, v34]) rfl ⟨by rw [EG.out, EV.out]; rfl, ?_⟩
    exact bel_set4 QB.out (by omega) _ _ _ _
  | true =>
  have hm : 2 ≤ m ∧ m ≤ 10000 := by simpa [inB] using h1
  obtain ⟨m2, m4⟩ := hm
  have H1 := Lib.hid h1
  cases h2 : allB (mxL X) 0 (m - 1) with
  | false =>
    have eg : mpG X Y m = false := by simp [mpG, inX_eq, h2]
    have EV := Lib.hid (mp_bad eg)
    have EG := Lib.hid eg
    have C2 := Lib.hid (fun W => moMatrix_any m X W m2 m4)
    rw [h2] at C2
    clear h1 h2 eg m2 m4
    go_enter Try.func29, Try.ntmps29
    go_wp2_with fail
    go_at_call 68
    generalize hw3 : World.alloc (World.alloc (World.alloc w _) _) _ = w3
    obtain ⟨q1, q2, q3, qs, qb⟩ := three_new hw3
    clear hw3
    have QB := Lib.hid qb
    have Q1 := Lib.hid q1
    have Q2 := Lib.hid q2
    have Q3 := Lib.hid q3
    clear q1 q2 q3 qb
    refine (moModulus_any _ _).mono ?_
    rw [H1.out]
    rintro e w4 ⟨rfl, rfl⟩
    obtain ⟨⟨v11, v12, v13, v14⟩, v1f1, v1f2, v1f3, v1f4⟩ := cells4 Q1.out
    go_wp2_with fail
    go_at_call 77
    clear v11 v12 v13 v14 v1f1 v1f2 v1f3 v1f4
    refine (C2.out w3).mono ?_
    rintro e w4 ⟨rfl, hb⟩
    have QB := Lib.hid (QB.out.trans (hb.mono (by omega)))
    have Q1 := Lib.hid (obj_keep Q1.out hb (by omega))
    have Q2 := Lib.hid (obj_keep Q2.out hb (by omega))
    have Q3 := Lib.hid (obj_keep Q3.out hb (by omega))
    have hsw4 : w3.heap.size ≤ w4.heap.size := hb.size
    clear hb
    obtain ⟨⟨v31, v32, v33, v34⟩, v3f1, v3f2, v3f3, v3f4⟩ := cells4 Q3.out
    go_wp2
    refine bodyPost_ret (v := .tuple #[.agg #[.int .i64 0, .int .i64 0, .int .i64 0, .int .i64 0], .bool false]) (by simp [results, Try.results29, go_sem, v31, v32, v33, v34]) rfl ⟨by rw [EG.out, EV.out]; rfl, ?_⟩
    exact bel_set4 QB.out (by omega) _ _ _ _
  | true =>
  cases h3 : allB (mxL Y) 0 (m - 1) with
  | false =>
    have eg : mpG X Y m = false := by simp [mpG, inX_eq, h3]
    have EV := Lib.hid (mp_bad eg)
    have EG := Lib.hid eg
    have C2 := Lib.hid (fun W => moMatrix_any m X W m2 m4)
    rw [h2] at C2
    have C3 := Lib.hid (fun W => moMatrix_any m Y W m2 m4)
    rw [h3] at C3
    clear h1 h2 h3 eg m2 m4
    go_enter Try.func29, Try.ntmps29
    go_wp2_with fail
    go_at_call 68
    generalize hw3 : World.alloc (World.alloc (World.alloc w _) _) _ = w3
    obtain ⟨q1, q2, q3, qs, qb⟩ := three_new hw3
    clear hw3
    have QB := Lib.hid qb
    have Q1 := Lib.hid q1
    have Q2 := Lib.hid q2
    have Q3 := Lib.hid q3
    clear q1 q2 q3 qb
    refine (moModulus_any _ _).mono ?_
    rw [H1.out]
    rintro e w4 ⟨rfl, rfl⟩
    obtain ⟨⟨v11, v12, v13, v14⟩, v1f1, v1f2, v1f3, v1f4⟩ := cells4 Q1.out
    go_wp2_with fail
    go_at_call 77
    clear v11 v12 v13 v14 v1f1 v1f2 v1f3 v1f4
    refine (C2.out w3).mono ?_
    rintro e w4 ⟨rfl, hb⟩
    have QB := Lib.hid (QB.out.trans (hb.mono (by omega)))
    have Q1 := Lib.hid (obj_keep Q1.out hb (by omega))
    have Q2 := Lib.hid (obj_keep Q2.out hb (by omega))
    have Q3 := Lib.hid (obj_keep Q3.out hb (by omega))
    have hsw4 : w3.heap.size ≤ w4.heap.size := hb.size
    clear hb
    obtain ⟨⟨v21, v22, v23, v24⟩, v2f1, v2f2, v2f3, v2f4⟩ := cells4 Q2.out
    go_wp2_with fail
    go_at_call 77
    clear v21 v22 v23 v24 v2f1 v2f2 v2f3 v2f4
    refine (C3.out w4).mono ?_
    rintro e w5 ⟨rfl, hb⟩
    have QB := Lib.hid (QB.out.trans (hb.mono (by omega)))
    have Q1 := Lib.hid (obj_keep Q1.out hb (by omega))
    have Q2 := Lib.hid (obj_keep Q2.out hb (by omega))
    have Q3 := Lib.hid (obj_keep Q3.out hb (by omega))
    have hsw5 : w4.heap.size ≤ w5.heap.size := hb.size
    clear hb
    obtain ⟨⟨v31, v32, v33, v34⟩, v3f1, v3f2, v3f3, v3f4⟩ := cells4 Q3.out
    go_wp2
    refine bodyPost_ret (v := .tuple #[.agg #[.int .i64 0, .int .i64 0, .int .i64 0, .int .i64 0], .bool false]) (by simp [results, Try.results29, go_sem, v31, v32, v33, v34]) rfl ⟨by rw [EG.out, EV.out]; rfl, ?_⟩
    exact bel_set4 QB.out (by omega) _ _ _ _
  | true =>
    have eg : mpG X Y m = true := by simp only [mpG, inX_eq, h1, h2, h3]; rfl
    have EG := Lib.hid eg
    have EV := Lib.hid (show mpV X Y m = mulZ m X Y by unfold mpV; rw [if_pos eg])
    have C2 := Lib.hid (fun W => moMatrix_any m X W m2 m4)
    rw [h2] at C2
    have C3 := Lib.hid (fun W => moMatrix_any m Y W m2 m4)
    rw [h3] at C3
    obtain ⟨M, NX, rfl, rfl, n2, n4, hX⟩ := inX_nx (m := m) (X := X) (by rw [inX_eq, h1, h2]; rfl)
    obtain ⟨M', NY, hMM, rfl, _, _, hY⟩ := inX_nx (m := (M : Int)) (X := Y) (by rw [inX_eq, h1, h3]; rfl)
    obtain rfl : M = M' := by omega
    rw [mulZ_nx] at EV
    have C4 := fun W => moTimes_any M NX NY W n2 n4 hX hY
    obtain ⟨Z, hZ⟩ : ∃ Z, mulX M NX NY = Z := ⟨_, rfl⟩
    rw [hZ] at C4 EV
    simp only [mxV, Nx.mx] at C4
    have C4 := Lib.hid C4
    clear h1 h2 h3 eg m2 m4 hMM hX hY hZ
    go_enter Try.func29, Try.ntmps29
    go_wp2_with fail
    go_at_call 68
    generalize hw3 : World.alloc (World.alloc (World.alloc w _) _) _ = w3
    obtain ⟨q1, q2, q3, qs, qb⟩ := three_new hw3
    clear hw3
    have QB := Lib.hid qb
    have Q1 := Lib.hid q1
    have Q2 := Lib.hid q2
    have Q3 := Lib.hid q3
    clear q1 q2 q3 qb
    refine (moModulus_any _ _).mono ?_
    rw [H1.out]
    rintro e w4 ⟨rfl, rfl⟩
    obtain ⟨⟨v11, v12, v13, v14⟩, v1f1, v1f2, v1f3, v1f4⟩ := cells4 Q1.out
    go_wp2_with fail
    go_at_call 77
    clear v11 v12 v13 v14 v1f1 v1f2 v1f3 v1f4
    refine (C2.out w3).mono ?_
    rintro e w4 ⟨rfl, hb⟩
    have QB := Lib.hid (QB.out.trans (hb.mono (by omega)))
    have Q1 := Lib.hid (obj_keep Q1.out hb (by omega))
    have Q2 := Lib.hid (obj_keep Q2.out hb (by omega))
    have Q3 := Lib.hid (obj_keep Q3.out hb (by omega))
    have hsw4 : w3.heap.size ≤ w4.heap.size := hb.size
    clear hb
    obtain ⟨⟨v21, v22, v23, v24⟩, v2f1, v2f2, v2f3, v2f4⟩ := cells4 Q2.out
    go_wp2_with fail
    go_at_call 77
    clear v21 v22 v23 v24 v2f1 v2f2 v2f3 v2f4
    refine (C3.out w4).mono ?_
    rintro e w5 ⟨rfl, hb⟩
    have QB := Lib.hid (QB.out.trans (hb.mono (by omega)))
    have Q1 := Lib.hid (obj_keep Q1.out hb (by omega))
    have Q2 := Lib.hid (obj_keep Q2.out hb (by omega))
    have Q3 := Lib.hid (obj_keep Q3.out hb (by omega))
    have hsw5 : w4.heap.size ≤ w5.heap.size := hb.size
    clear hb
    obtain ⟨⟨v11, v12, v13, v14⟩, v1f1, v1f2, v1f3, v1f4⟩ := cells4 Q1.out
    obtain ⟨⟨v21, v22, v23, v24⟩, v2f1, v2f2, v2f3, v2f4⟩ := cells4 Q2.out
    go_wp2_with fail
    go_at_call 78
    clear v11 v12 v13 v14 v1f1 v1f2 v1f3 v1f4
    clear v21 v22 v23 v24 v2f1 v2f2 v2f3 v2f4
    refine (C4.out w5).mono ?_
    rintro e w6 ⟨rfl, hb⟩
    have QB := Lib.hid (QB.out.trans (hb.mono (by omega)))
    have Q1 := Lib.hid (obj_keep Q1.out hb (by omega))
    have Q2 := Lib.hid (obj_keep Q2.out hb (by omega))
    have Q3 := Lib.hid (obj_keep Q3.out hb (by omega))
    have hsw6 : w5.heap.size ≤ w6.heap.size := hb.size
    clear hb
    obtain ⟨⟨v31, v32, v33, v34⟩, v3f1, v3f2, v3f3, v3f4⟩ := cells4 Q3.out
    go_wp2
    refine bodyPost_ret (v := .tuple #[.agg #[.int .i64 (Z.a : Int), .int .i64 (Z.b : Int), .int .i64 (Z.c : Int), .int .i64 (Z.d : Int)], .bool true]) (by simp [results, Try.results29, go_sem, v31, v32, v33, v34]) rfl ⟨by rw [EG.out, EV.out]; rfl, ?_⟩
    exact bel_set4 QB.out (by omega) _ _ _ _

set_option maxRecDepth 100000 in
set_option maxHeartbeats 4000000 in
theorem implMP_any (B : Nat) (X Y : Mx) (m : Int) (w : World) (_hB : B ≤ w.heap.size) :
    Calls Try.prog 31 #[mxV X, mxV Y, .int .i64 m] w fun e w' => e = .returned (.tuple #[mxV (mpV X Y m), .bool (mpG X Y m)]) ∧ Below w.heap.size w w' := by
  show Calls Try.prog 31 #[.agg #[.int .i64 X.a, .int .i64 X.b, .int .i64 X.c, .int .i64 X.d], .agg #[.int .i64 Y.a, .int .i64 Y.b, .int .i64 Y.c, .int .i64 Y.d], .int .i64 m] w fun e w' => e = .returned (.tuple #[mxV (mpV X Y m), .bool (mpG X Y m)]) ∧ Below w.heap.size w w'
  cases h1 : inX m X with
  | false =>
    have eg : mpG X Y m = false := by simp [mpG, h1]
    have EV := Lib.hid (mp_bad eg)
    have EG := Lib.hid eg
    have C1 := Lib.hid (fun W => mxHas_any m X W)
    rw [h1] at C1
    clear h1 eg
    go_enter Try.func31, Try.ntmps31
    go_wp2_with fail
    go_at_call 79
    generalize hw3 : World.alloc (World.alloc (World.alloc (World.alloc w _) _) _) _ = w3
    obtain ⟨q1, q2, q3, q4, qs, qb⟩ := four_new hw3
    clear hw3
    have QB := Lib.hid qb
    have Q1 := Lib.hid q1
    have Q2 := Lib.hid q2
    have Q3 := Lib.hid q3
    have Q4 := Lib.hid q4
    clear q1 q2 q3 qb q4
    refine (C1.out w3).mono ?_
    rintro e w4 ⟨rfl, hb⟩
    have QB := Lib.hid (QB.out.trans (hb.mono (by omega)))
    have Q1 := Lib.hid (obj_keep Q1.out hb (by omega))
    have Q2 := Lib.hid (obj_keep Q2.out hb (by omega))
    have Q3 := Lib.hid (obj_keep Q3.out hb (by omega))
    have Q4 := Lib.hid (obj_keep Q4.out hb (by omega))
    have hsw4 : w3.heap.size ≤ w4.heap.size := hb.size
    clear hb
    obtain ⟨⟨v31, v32, v33, v34⟩, v3f1, v3f2, v3f3, v3f4⟩ := cells4 Q3.out
    have v0 := cells1 Q4.out
    go_wp2
    refine bodyPost_ret (v := .tuple #[.agg #[.int .i64 0, .int .i64 0, .int .i64 0, .int .i64 0], .bool false]) (by simp [results, Try.results31, go_sem, v31, v32, v33, v34]) rfl ⟨by rw [EG.out, EV.out]; rfl, ?_⟩
    exact bel_set4 QB.out (by omega) _ _ _ _
  | true =>
  cases h2 : inX m Y with
  | false =>
    have eg : mpG X Y m = false := by simp [mpG, h2]
    have EV := Lib.hid (mp_bad eg)
    have EG := Lib.hid eg
    have C1 := Lib.hid (fun W => mxHas_any m X W)
    rw [h1] at C1
    have C2 := Lib.hid (fun W => mxHas_any m Y W)
    rw [h2] at C2
    clear h1 h2 eg
    go_enter Try.func31, Try.ntmps31
    go_wp2_with fail
    go_at_call 79
    generalize hw3 : World.alloc (World.alloc (World.alloc (World.alloc w _) _) _) _ = w3
    obtain ⟨q1, q2, q3, q4, qs, qb⟩ := four_new hw3
    clear hw3
    have QB := Lib.hid qb
    have Q1 := Lib.hid q1
    have Q2 := Lib.hid q2
    have Q3 := Lib.hid q3
    have Q4 := Lib.hid q4
    clear q1 q2 q3 qb q4
    refine (C1.out w3).mono ?_
    rintro e w4 ⟨rfl, hb⟩
    have QB := Lib.hid (QB.out.trans (hb.mono (by omega)))
    have Q1 := Lib.hid (obj_keep Q1.out hb (by omega))
    have Q2 := Lib.hid (obj_keep Q2.out hb (by omega))
    have Q3 := Lib.hid (obj_keep Q3.out hb (by omega))
    have Q4 := Lib.hid (obj_keep Q4.out hb (by omega))
    have hsw4 : w3.heap.size ≤ w4.heap.size := hb.size
    clear hb
    obtain ⟨⟨v21, v22, v23, v24⟩, v2f1, v2f2, v2f3, v2f4⟩ := cells4 Q2.out
    have v0 := cells1 Q4.out
    go_wp2_with fail
    go_at_call 79
    clear v21 v22 v23 v24 v2f1 v2f2 v2f3 v2f4
    clear v0
    refine (C2.out w4).mono ?_
    rintro e w5 ⟨rfl, hb⟩
    have QB := Lib.hid (QB.out.trans (hb.mono (by omega)))
    have Q1 := Lib.hid (obj_keep Q1.out hb (by omega))
    have Q2 := Lib.hid (obj_keep Q2.out hb (by omega))
    have Q3 := Lib.hid (obj_keep Q3.out hb (by omega))
    have Q4 := Lib.hid (obj_keep Q4.out hb (by omega))
    have hsw5 : w4.heap.size ≤ w5.heap.size := hb.size
    clear hb
    obtain ⟨⟨v31, v32, v33, v34⟩, v3f1, v3f2, v3f3, v3f4⟩ := cells4 Q3.out
    have v0 := cells1 Q4.out
    go_wp2
    refine bodyPost_ret (v := .tuple #[.agg #[.int .i64 0, .int .i64 0, .int .i64 0, .int .i64 0], .bool false]) (by simp [results, Try.results31, go_sem, v31, v32, v33, v34]) rfl ⟨by rw [EG.out, EV.out]; rfl, ?_⟩
    exact bel_set4 QB.out (by omega) _ _ _ _
  | true =>
    have eg : mpG X Y m = true := by simp only [mpG, h1, h2]; rfl
    have EG := Lib.hid eg
    have EV := Lib.hid (show mpV X Y m = mulZ m X Y by unfold mpV; rw [if_pos eg])
    have C1 := Lib.hid (fun W => mxHas_any m X W)
    rw [h1] at C1
    have C2 := Lib.hid (fun W => mxHas_any m Y W)
    rw [h2] at C2
    obtain ⟨M, NX, rfl, rfl, n2, n4, hX⟩ := inX_nx h1
    obtain ⟨M', NY, hMM, rfl, _, _, hY⟩ := inX_nx h2
    obtain rfl : M = M' := by omega
    rw [mulZ_nx] at EV
    have C4 := fun W => mxMul_any M NX NY W n2 n4 hX hY
    obtain ⟨Z, hZ⟩ : ∃ Z, mulX M NX NY = Z := ⟨_, rfl⟩
    rw [hZ] at C4 EV
    simp only [mxV, Nx.mx] at C4
    have C4 := Lib.hid C4
    clear h1 h2 eg hMM hX hY hZ
    go_enter Try.func31, Try.ntmps31
    go_wp2_with fail
    go_at_call 79
    generalize hw3 : World.alloc (World.alloc (World.alloc (World.alloc w _) _) _) _ = w3
    obtain ⟨q1, q2, q3, q4, qs, qb⟩ := four_new hw3
    clear hw3
    have QB := Lib.hid qb
    have Q1 := Lib.hid q1
    have Q2 := Lib.hid q2
    have Q3 := Lib.hid q3
    have Q4 := Lib.hid q4
    clear q1 q2 q3 qb q4
    refine (C1.out w3).mono ?_
    rintro e w4 ⟨rfl, hb⟩
    have QB := Lib.hid (QB.out.trans (hb.mono (by omega)))
    have Q1 := Lib.hid (obj_keep Q1.out hb (by omega))
    have Q2 := Lib.hid (obj_keep Q2.out hb (by omega))
    have Q3 := Lib.hid (obj_keep Q3.out hb (by omega))
    have Q4 := Lib.hid (obj_keep Q4.out hb (by omega))
    have hsw4 : w3.heap.size ≤ w4.heap.size := hb.size
    clear hb
    obtain ⟨⟨v21, v22, v23, v24⟩, v2f1, v2f2, v2f3, v2f4⟩ := cells4 Q2.out
    have v0 := cells1 Q4.out
    go_wp2_with fail
    go_at_call 79
    clear v21 v22 v23 v24 v2f1 v2f2 v2f3 v2f4
    clear v0
    refine (C2.out w4).mono ?_
    rintro e w5 ⟨rfl, hb⟩
    have QB := Lib.hid (QB.out.trans (hb.mono (by omega)))
    have Q1 := Lib.hid (obj_keep Q1.out hb (by omega))
    have Q2 := Lib.hid (obj_keep Q2.out hb (by omega))
    have Q3 := Lib.hid (obj_keep Q3.out hb (by omega))
    have Q4 := Lib.hid (obj_keep Q4.out hb (by omega))
    have hsw5 : w4.heap.size ≤ w5.heap.size := hb.size
    clear hb
    obtain ⟨⟨v11, v12, v13, v14⟩, v1f1, v1f2, v1f3, v1f4⟩ := cells4 Q1.out
    obtain ⟨⟨v21, v22, v23, v24⟩, v2f1, v2f2, v2f3, v2f4⟩ := cells4 Q2.out
    have v0 := cells1 Q4.out
    go_wp2_with fail
    go_at_call 80
    clear v11 v12 v13 v14 v1f1 v1f2 v1f3 v1f4
    clear v21 v22 v23 v24 v2f1 v2f2 v2f3 v2f4
    clear v0
    refine (C4.out w5).mono ?_
    rintro e w6 ⟨rfl, hb⟩
    have QB := Lib.hid (QB.out.trans (hb.mono (by omega)))
    have Q1 := Lib.hid (obj_keep Q1.out hb (by omega))
    have Q2 := Lib.hid (obj_keep Q2.out hb (by omega))
    have Q3 := Lib.hid (obj_keep Q3.out hb (by omega))
    have Q4 := Lib.hid (obj_keep Q4.out hb (by omega))
    have hsw6 : w5.heap.size ≤ w6.heap.size := hb.size
    clear hb
    obtain ⟨⟨v31, v32, v33, v34⟩, v3f1, v3f2, v3f3, v3f4⟩ := cells4 Q3.out
    have v0 := cells1 Q4.out
    go_wp2
    refine bodyPost_ret (v := .tuple #[.agg #[.int .i64 (Z.a : Int), .int .i64 (Z.b : Int), .int .i64 (Z.c : Int), .int .i64 (Z.d : Int)], .bool true]) (by simp [results, Try.results31, go_sem, v31, v32, v33, v34]) rfl ⟨by rw [EG.out, EV.out]; rfl, ?_⟩
    exact bel_set4 QB.out (by omega) _ _ _ _

set_option maxRecDepth 100000 in
set_option maxHeartbeats 2000000 in
theorem toMatrix_any (X : Mx) (w : World) : Calls Try.prog 30 #[.agg #[.int .i64 X.a, .int .i64 X.b, .int .i64 X.c, .int .i64 X.d]] w fun e w' => e = .returned (.agg #[.int .i64 X.a, .int .i64 X.b, .int .i64 X.c, .int .i64 X.d]) ∧ Below w.heap.size w w' := by
  go_enter Try.func30, Try.ntmps30
  go_wp2
  refine bodyPost_ret (v := .agg #[.int .i64 X.a, .int .i64 X.b, .int .i64 X.c, .int .i64 X.d]) (by simp [results, Try.results30, go_sem]) rfl ⟨rfl, ?_⟩
  exact (((Below.refl _ _).alloc (Nat.le_refl _) _).alloc (by simp) _).alloc (by simp; omega) _
set_option maxRecDepth 100000 in
set_option maxHeartbeats 2000000 in
theorem eqMatrix_refl (X : Mx) (w : World) : Calls Try.prog 32 #[.agg #[.int .i64 X.a, .int .i64 X.b, .int .i64 X.c, .int .i64 X.d], .agg #[.int .i64 X.a, .int .i64 X.b, .int .i64 X.c, .int .i64 X.d]] w fun e w' => e = .returned (.bool true) ∧ Below w.heap.size w w' := by
  go_enter Try.func32, Try.ntmps32
  go_wp2
  go_ret
  exact ⟨rfl, ((Below.refl _ _).alloc (Nat.le_refl _) _).alloc (by simp) _⟩
end Go.Proofs.Ytbbfbccemonihaa
