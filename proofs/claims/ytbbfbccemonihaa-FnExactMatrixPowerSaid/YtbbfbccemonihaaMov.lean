/- Matrices of residues: data, products by the model and by the program. -/
import Derived.Test.YtbbfbccemonihaaMoe
import Derived.Test.YtbbfbccemonihaaGa6
namespace Go.Proofs.Ytbbfbccemonihaa
open Go.RowKit

/-- A matrix as it comes in. -/
structure Mx where
  a : Int
  b : Int
  c : Int
  d : Int
/-- A matrix of residues. -/
structure Nx where
  a : Nat
  b : Nat
  c : Nat
  d : Nat
def Nx.mx (X : Nx) : Mx := ⟨X.a, X.b, X.c, X.d⟩
def mxV (X : Mx) : Value := .agg #[.int .i64 X.a, .int .i64 X.b, .int .i64 X.c, .int .i64 X.d]
def okN (m : Nat) (X : Nx) : Prop := X.a < m ∧ X.b < m ∧ X.c < m ∧ X.d < m
def mulX (m : Nat) (X Y : Nx) : Nx := ⟨(X.a * Y.a + X.b * Y.c) % m, (X.a * Y.b + X.b * Y.d) % m, (X.c * Y.a + X.d * Y.c) % m, (X.c * Y.b + X.d * Y.d) % m⟩
theorem mulX_ok {m : Nat} (hm : 0 < m) (X Y : Nx) : okN m (mulX m X Y) := ⟨Nat.mod_lt _ hm, Nat.mod_lt _ hm, Nat.mod_lt _ hm, Nat.mod_lt _ hm⟩
def mxL (X : Mx) : List Int := [X.a, X.b, X.c, X.d]
def inX (m : Int) (X : Mx) : Bool := (mxL X).all (inR m)
theorem inX_nx {m : Int} {X : Mx} (h : inX m X = true) : ∃ (M : Nat) (Y : Nx), m = (M : Int) ∧ X = Y.mx ∧ 2 ≤ M ∧ M ≤ 10000 ∧ okN M Y := by
  unfold inX mxL at h
  simp only [List.all_cons, List.all_nil, Bool.and_true, Bool.and_eq_true] at h
  obtain ⟨h1, h2, h3, h4⟩ := h
  obtain ⟨m2, m4, a0, a1⟩ := inR_rng h1
  obtain ⟨_, _, b0, b1⟩ := inR_rng h2
  obtain ⟨_, _, c0, c1⟩ := inR_rng h3
  obtain ⟨_, _, d0, d1⟩ := inR_rng h4
  refine ⟨m.toNat, ⟨X.a.toNat, X.b.toNat, X.c.toNat, X.d.toNat⟩, by omega, ?_, by omega, by omega, show X.a.toNat < m.toNat by omega, show X.b.toNat < m.toNat by omega, show X.c.toNat < m.toNat by omega, show X.d.toNat < m.toNat by omega⟩
  unfold Nx.mx
  cases X
  simp only [Mx.mk.injEq] at *
  omega
theorem nx_inX {M : Nat} {Y : Nx} (h2 : 2 ≤ M) (h4 : M ≤ 10000) (h : okN M Y) : inX (M : Int) Y.mx = true := by
  obtain ⟨a, b, c, d⟩ := h
  unfold inX mxL Nx.mx
  simp only [List.all_cons, List.all_nil, Bool.and_true, Bool.and_eq_true]
  refine ⟨?_, ?_, ?_, ?_⟩ <;> (rw [inR_eq]; simp only [Bool.and_eq_true, decide_eq_true_eq]; omega)

theorem cells4 {w : World} {g : Nat} {a b c d : Value} {t : TypeId} (h : w.heap[g]? = some (.cells #[a, b, c, d] t (0, 0))) :
    (w.cell? ⟨g, 0, none⟩ = some a ∧ w.cell? ⟨g, 1, none⟩ = some b ∧ w.cell? ⟨g, 2, none⟩ = some c ∧ w.cell? ⟨g, 3, none⟩ = some d) ∧ w.frozen? ⟨g, 0, none⟩ = false ∧ w.frozen? ⟨g, 1, none⟩ = false ∧ w.frozen? ⟨g, 2, none⟩ = false ∧ w.frozen? ⟨g, 3, none⟩ = false := by
  refine ⟨⟨?_, ?_, ?_, ?_⟩, frozen_of_row w _ 0 _ _ h, frozen_of_row w _ 1 _ _ h, frozen_of_row w _ 2 _ _ h, frozen_of_row w _ 3 _ _ h⟩
  · rw [cell_of_row w _ 0 _ _ (0, 0) h]; rfl
  · rw [cell_of_row w _ 1 _ _ (0, 0) h]; rfl
  · rw [cell_of_row w _ 2 _ _ (0, 0) h]; rfl
  · rw [cell_of_row w _ 3 _ _ (0, 0) h]; rfl
theorem obj4 {w w1 : World} {o : Obj} (h : w.alloc o = w1) : w1.heap[w.heap.size]? = some o ∧ w1.heap.size = w.heap.size + 1 ∧ Below w.heap.size w w1 := by
  subst h
  exact ⟨heap_alloc_new w _, by simp, (Below.refl _ _).alloc (Nat.le_refl _) _⟩
theorem obj_keep {w w' : World} {g : Nat} {o : Obj} {C : Nat} (h : w.heap[g]? = some o) (hb : Below C w w') (hC : g < C) : w'.heap[g]? = some o := (hb.block g hC).trans h
theorem obj_set4 {w : World} {g : Nat} {a b c d a' b' c' d' : Value} {t : TypeId} (h : w.heap[g]? = some (.cells #[a, b, c, d] t (0, 0))) :
    ((((w.setCell ⟨g, 0, none⟩ a').setCell ⟨g, 1, none⟩ b').setCell ⟨g, 2, none⟩ c').setCell ⟨g, 3, none⟩ d').heap[g]? = some (.cells #[a', b', c', d'] t (0, 0)) := by
  have h1 := heap_setCell_same w g 0 _ t a' h
  have h2 := heap_setCell_same _ g 1 _ t b' h1
  have h3 := heap_setCell_same _ g 2 _ t c' h2
  have h4 := heap_setCell_same _ g 3 _ t d' h3
  rw [h4]
  rfl
theorem bel_set4 {w0 w : World} {g C : Nat} (hb : Below C w0 w) (hC : C ≤ g) (a b c d : Value) : Below C w0 ((((w.setCell ⟨g, 0, none⟩ a).setCell ⟨g, 1, none⟩ b).setCell ⟨g, 2, none⟩ c).setCell ⟨g, 3, none⟩ d) :=
  (((hb.setCell hC _).setCell hC _).setCell hC _).setCell hC _
/-- Three blocks made in turn. -/
theorem three_new {w w3 : World} {o1 o2 o3 : Obj} (h : ((w.alloc o1).alloc o2).alloc o3 = w3) :
    w3.heap[w.heap.size]? = some o1 ∧ w3.heap[w.heap.size + 1]? = some o2 ∧ w3.heap[w.heap.size + 1 + 1]? = some o3 ∧ w3.heap.size = w.heap.size + 3 ∧ Below w.heap.size w w3 := by
  obtain ⟨w1, h1⟩ : ∃ w1, w.alloc o1 = w1 := ⟨_, rfl⟩
  rw [h1] at h
  obtain ⟨w2, h2⟩ : ∃ w2, w1.alloc o2 = w2 := ⟨_, rfl⟩
  rw [h2] at h
  obtain ⟨a1, b1, c1⟩ := obj4 h1
  obtain ⟨a2, b2, c2⟩ := obj4 h2
  obtain ⟨a3, b3, c3⟩ := obj4 h
  rw [b1] at a2
  rw [b2, b1] at a3
  exact ⟨obj_keep (obj_keep a1 c2 (by omega)) c3 (by omega), obj_keep a2 c3 (by omega), a3, by omega, (c1.trans (c2.mono (by omega))).trans (c3.mono (by omega))⟩
theorem two_new {w w2 : World} {o1 o2 : Obj} (h : (w.alloc o1).alloc o2 = w2) :
    w2.heap[w.heap.size]? = some o1 ∧ w2.heap[w.heap.size + 1]? = some o2 ∧ w2.heap.size = w.heap.size + 2 ∧ Below w.heap.size w w2 := by
  obtain ⟨w1, h1⟩ : ∃ w1, w.alloc o1 = w1 := ⟨_, rfl⟩
  rw [h1] at h
  obtain ⟨a1, b1, c1⟩ := obj4 h1
  obtain ⟨a2, b2, c2⟩ := obj4 h
  rw [b1] at a2
  exact ⟨obj_keep a1 c2 (by omega), a2, by omega, c1.trans (c2.mono (by omega))⟩

theorem wrapS {P Q : Nat} (h : P ≤ 100000000) (h' : Q ≤ 100000000) : IntKind.i64.wrap ((P : Int) + (Q : Int)) = ((P + Q : Nat) : Int) := by
  rw [show (P : Int) + (Q : Int) = ((P + Q : Nat) : Int) by push_cast; rfl]
  exact IntWalk.i64_in _ (by omega)
/-- What an entry of a product is made of. -/
theorem entry {m p q r s : Nat} (hm : m ≤ 10000) (hp : p < m) (hq : q < m) (hr : r < m) (hs : s < m) : ∃ P R S : Nat, IntKind.i64.wrap ((p : Int) * (q : Int)) = (P : Int) ∧ IntKind.i64.wrap ((r : Int) * (s : Int)) = (R : Int) ∧ IntKind.i64.wrap ((P : Int) + (R : Int)) = (S : Int) ∧ (S : Int).tmod (m : Int) = ((S % m : Nat) : Int) ∧ S = p * q + r * s :=
  ⟨p * q, r * s, p * q + r * s, wrapP hm hp hq, wrapP hm hr hs, wrapS (prod_le hm hp hq) (prod_le hm hr hs), tmodN _ _, rfl⟩

set_option maxRecDepth 100000 in
set_option maxHeartbeats 8000000 in
theorem moTimes_any (M : Nat) (X Y : Nx) (w : World) (n2 : 2 ≤ M) (n4 : M ≤ 10000) (hX : okN M X) (hY : okN M Y) :
    Calls Try.prog 78 #[mxV X.mx, mxV Y.mx, .int .i64 (M : Int)] w fun e w' => e = .returned (mxV (mulX M X Y).mx) ∧ Below w.heap.size w w' := by
  obtain ⟨x1, x2, x3, x4⟩ := X
  obtain ⟨y1, y2, y3, y4⟩ := Y
  obtain ⟨hx1, hx2, hx3, hx4⟩ := hX
  obtain ⟨hy1, hy2, hy3, hy4⟩ := hY
  simp only at hx1 hx2 hx3 hx4 hy1 hy2 hy3 hy4
  obtain ⟨P1, R1, S1, p1, r1, s1, t1, e1⟩ := entry n4 hx1 hy1 hx2 hy3
  obtain ⟨P2, R2, S2, p2, r2, s2, t2, e2⟩ := entry n4 hx1 hy2 hx2 hy4
  obtain ⟨P3, R3, S3, p3, r3, s3, t3, e3⟩ := entry n4 hx3 hy1 hx4 hy3
  obtain ⟨P4, R4, S4, p4, r4, s4, t4, e4⟩ := entry n4 hx3 hy2 hx4 hy4
  have hE : (mulX M ⟨x1, x2, x3, x4⟩ ⟨y1, y2, y3, y4⟩).mx = ⟨((S1 % M : Nat) : Int), ((S2 % M : Nat) : Int), ((S3 % M : Nat) : Int), ((S4 % M : Nat) : Int)⟩ := by rw [e1, e2, e3, e4]; rfl
  rw [hE]
  show Calls Try.prog 78 #[.agg #[.int .i64 (x1 : Int), .int .i64 (x2 : Int), .int .i64 (x3 : Int), .int .i64 (x4 : Int)], .agg #[.int .i64 (y1 : Int), .int .i64 (y2 : Int), .int .i64 (y3 : Int), .int .i64 (y4 : Int)], .int .i64 (M : Int)] w fun e w' => e = .returned (.agg #[.int .i64 ((S1 % M : Nat) : Int), .int .i64 ((S2 % M : Nat) : Int), .int .i64 ((S3 % M : Nat) : Int), .int .i64 ((S4 % M : Nat) : Int)]) ∧ Below w.heap.size w w'
  obtain ⟨D1, d1⟩ : ∃ D, S1 % M = D := ⟨_, rfl⟩
  obtain ⟨D2, d2⟩ : ∃ D, S2 % M = D := ⟨_, rfl⟩
  obtain ⟨D3, d3⟩ : ∃ D, S3 % M = D := ⟨_, rfl⟩
  obtain ⟨D4, d4⟩ : ∃ D, S4 % M = D := ⟨_, rfl⟩
  rw [d1] at t1
  rw [d2] at t2
  rw [d3] at t3
  rw [d4] at t4
  rw [d1, d2, d3, d4]
  have nM0 : ¬ M = 0 := by omega
  clear hE e1 e2 e3 e4 d1 d2 d3 d4 hx1 hx2 hx3 hx4 hy1 hy2 hy3 hy4
  go_enter Try.func78, Try.ntmps78
  go_wp2
  generalize hw3 : World.alloc (World.alloc (World.alloc w _) _) _ = w3
  obtain ⟨q1, q2, q3, qs, qb⟩ := three_new hw3
  clear hw3
  have Q3 := Lib.hid q3
  have QB := Lib.hid qb
  obtain ⟨⟨c1, c2, c3, c4⟩, _, _, _, _⟩ := cells4 q1
  obtain ⟨⟨k1, k2, k3, k4⟩, _, _, _, _⟩ := cells4 q2
  obtain ⟨⟨z1, z2, z3, z4⟩, f1, f2, f3, f4⟩ := cells4 q3
  clear q1 q2 q3 qb
  refine wp_region_Tw [0, 1, 2, 3, 4, 5, 6, 7, 8, 9, 10, 11, 12, 13, 14, 15, 16, 17, 18, 19, 20, 21, 22, 23, 24, 25, 26, 27, 28, 29, 30, 31, 32, 33, 34, 35, 36, 37, 38, 39, 40, 41, 42, 43, 44, 45, 46, 47, 48, 49, 50, 51, 52] [1, 3, 6, 8, 14, 16, 19, 21, 27, 29, 32, 34, 40, 42, 45, 47] (.lp 0 (.lp 2 (.lp 5 (.lp 7 (.lp 11 (.lp 13 (.lp 15 (.lp 18 (.lp 20 (.lp 24 (.lp 26 (.lp 28 (.lp 31 (.lp 33 (.lp 37 (.lp 39 (.lp 41 (.lp 44 (.lp 46 (.lp 50 (.ls 1 (.ls 3 (.lp 4 (.ls 6 (.ls 8 (.lp 9 (.lp 10 (.lp 12 (.ls 14 (.ls 16 (.lp 17 (.ls 19 (.ls 21 (.lp 22 (.lp 23 (.lp 25 (.ls 27 (.ls 29 (.lp 30 (.ls 32 (.ls 34 (.lp 35 (.lp 36 (.lp 38 (.ls 40 (.ls 42 (.lp 43 (.ls 45 (.ls 47 (.lp 48 (.lp 49 (.lp 51 (.lp 52 (.hv 53 (.done))))))))))))))))))))))))))))))))))))))))))))))))))))))) (by kernel_rfl) (by kernel_rfl) ?_
  (repeat (first | (refine T_lp rfl (fun K hK => ?_); go_simp; refine hK _ ?_; clear hK K) | (refine T_ls rfl rfl (fun K hK => ?_); go_simp; refine hK _ ?_; clear hK K)))
  clear c1 c2 c3 c4 k1 k2 k3 k4
  (refine T_hv rfl (by kernel_rfl) (fun K hK => ?_); go_simp)
  (go_simp; refine hK _ _ ?_; clear hK K)
  refine T_done ?_
  go_wp2
  refine bodyPost_ret (v := .agg #[.int .i64 (D1 : Int), .int .i64 (D2 : Int), .int .i64 (D3 : Int), .int .i64 (D4 : Int)]) (by simp [results, Try.results78, go_sem, z1, z2, z3, z4]) rfl ⟨rfl, ?_⟩
  exact bel_set4 QB.out.drew (by omega) _ _ _ _
end Go.Proofs.Ytbbfbccemonihaa
