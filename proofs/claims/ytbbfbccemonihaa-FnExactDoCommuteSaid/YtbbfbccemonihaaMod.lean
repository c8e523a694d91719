/- Residues: orders, of the model and of the program. -/
import Derived.Test.YtbbfbccemonihaaMoc
namespace Go.Proofs.Ytbbfbccemonihaa
open Go.RowKit

theorem nremI (a m : Nat) : ((a : Nat) : Int) % (m : Int) = ((a % m : Nat) : Int) := by push_cast; rfl
theorem tmodN (P m : Nat) : (P : Int).tmod (m : Int) = ((P % m : Nat) : Int) := by rw [Int.tmod_eq_emod_of_nonneg (Int.natCast_nonneg P)]; exact nremI P m
theorem inR_eq (m x : Int) : inR m x = (decide (2 ≤ m) && (decide (m ≤ 10000) && (decide (0 ≤ x) && decide (x < m)))) := by
  rw [Bool.eq_iff_iff]
  simp only [inR, inB, Bool.and_eq_true, decide_eq_true_eq]
  omega
set_option maxHeartbeats 1000000 in
theorem resHas_any (m x : Int) (w : World) : Calls Try.prog 75 #[.agg #[.int .i64 m], .int .i64 x] w fun e w' => e = .returned (.bool (inR m x)) ∧ Below w.heap.size w w' := by
  have hc : (¬ 2 ≤ m) ∨ (2 ≤ m ∧ ¬ m ≤ 10000) ∨ (2 ≤ m ∧ m ≤ 10000 ∧ ¬ 0 ≤ x) ∨ (2 ≤ m ∧ m ≤ 10000 ∧ 0 ≤ x ∧ ¬ x < m) ∨ (2 ≤ m ∧ m ≤ 10000 ∧ 0 ≤ x ∧ x < m) := by omega
  obtain ⟨b, hb⟩ : ∃ b, inR m x = b := ⟨_, rfl⟩
  have HB := Lib.hid hb
  rw [hb]
  clear hb
  rcases hc with h1 | ⟨h1, h2⟩ | ⟨h1, h2, h3⟩ | ⟨h1, h2, h3, h4⟩ | ⟨h1, h2, h3, h4⟩
  all_goals
    go_enter Try.func75, Try.ntmps75
    go_wp2
    go_ret
    exact ⟨ret_bool (by rw [← HB.out, inR_eq]; simp [*] <;> omega), (Below.refl _ _).alloc (Nat.le_refl _) _⟩
theorem mulM_lt {m a b : Nat} (h : 2 ≤ m) : mulM m a b < m := Nat.mod_lt _ (by omega)
theorem mulM_int (m a b : Nat) : ((mulM m a b : Nat) : Int) = (a : Int) * (b : Int) % (m : Int) := by unfold mulM; push_cast; rfl
theorem prod_le {m a b : Nat} (hm : m ≤ 10000) (ha : a < m) (hb : b < m) : a * b ≤ 100000000 := Nat.le_trans (Nat.mul_le_mul (show a ≤ 10000 by omega) (show b ≤ 10000 by omega)) (by omega)
theorem wrapN {P : Nat} (h : P ≤ 100000000) : IntKind.i64.wrap ((P : Nat) : Int) = ((P : Nat) : Int) := IntWalk.i64_in _ (by omega)
theorem wrapP {m a b : Nat} (hm : m ≤ 10000) (ha : a < m) (hb : b < m) : IntKind.i64.wrap ((a : Int) * (b : Int)) = ((a * b : Nat) : Int) := by
  rw [show (a : Int) * (b : Int) = ((a * b : Nat) : Int) by push_cast; rfl]
  exact wrapN (prod_le hm ha hb)
set_option maxHeartbeats 1000000 in
theorem resMul_any (m a b : Nat) (w : World) (h2 : 2 ≤ m) (hm : m ≤ 10000) (ha : a < m) (hb : b < m) :
    Calls Try.prog 76 #[.agg #[.int .i64 (m : Int)], .int .i64 (a : Int), .int .i64 (b : Int)] w fun e w' => e = .returned (.int .i64 ((mulM m a b : Nat) : Int)) ∧ Below w.heap.size w w' := by
  have hp := prod_le hm ha hb
  have E := Lib.hid (mulM_int m a b)
  have e1 : (a : Int) * (b : Int) = ((a * b : Nat) : Int) := by push_cast; rfl
  rw [e1] at E
  have hw : wrap64 ((a : Int) * (b : Int)) = ((a * b : Nat) : Int) := by rw [e1]; unfold wrap64; omega
  have hm0 : ((m : Int) == 0) = false := by simp; omega
  obtain ⟨P, hP⟩ : ∃ P, a * b = P := ⟨_, rfl⟩
  rw [hP] at hw hp E
  clear hP e1
  go_enter Try.func76, Try.ntmps76
  go_wp2
  go_ret
  exact ⟨by rw [E.out]; rfl, (Below.refl _ _).alloc (Nat.le_refl _) _⟩

theorem moModulus_any (m : Int) (w : World) : Calls Try.prog 68 #[.int .i64 m] w fun e w' => e = .returned (.bool (inB m 2 10000)) ∧ w = w' := by
  go_enter Try.func68, Try.ntmps68
  go_wp2_with (go_at_call 69; refine (l1In_any _ _ _ _).mono ?_; rintro e w' ⟨rfl, rfl⟩)
  go_ret
  exact ⟨rfl, rfl⟩

/-- The order of a residue. -/
def ordG (x m : Int) : Bool := inR m x && decide (ordN m.toNat x.toNat ≠ 0)
def ordV (x m : Int) : Int := if inR m x then (ordN m.toNat x.toNat : Int) else 0
theorem ord_bad {x m : Int} (h : inR m x = false) : ordG x m = false ∧ ordV x m = 0 := by unfold ordG ordV; rw [h]; exact ⟨rfl, rfl⟩
theorem ord_is {M X e : Nat} (h : inR M X = true) (he : ordN M X = e) : ordG X M = decide (e ≠ 0) ∧ ordV X M = (e : Int) := by
  unfold ordG ordV
  rw [h, show (M : Int).toNat = M by omega, show (X : Int).toNat = X by omega, he]
  exact ⟨rfl, rfl⟩

set_option maxRecDepth 100000 in
set_option maxHeartbeats 2000000 in
theorem specOrder_any (x m : Int) (w : World) : Calls Try.prog 27 #[.int .i64 x, .int .i64 m] w fun e w' => e = .returned (.tuple #[.int .i64 (ordV x m), .bool (ordG x m)]) ∧ Below w.heap.size w w' := by
  have hin : inR m x = (inB m 2 10000 && inB x 0 (m - 1)) := rfl
  cases h1 : inB m 2 10000 with
  | false =>
    obtain ⟨e1, e2⟩ := ord_bad (x := x) (m := m) (by rw [hin, h1]; rfl)
    rw [e1, e2]
    have H1 := Lib.hid h1
    clear h1 hin e1 e2
    go_enter Try.func27, Try.ntmps27
    go_wp2_with (go_at_call 68; refine (moModulus_any _ _).mono ?_; rw [H1.out]; rintro e w' ⟨rfl, rfl⟩)
    go_ret2
    exact ⟨rfl, Below.refl _ _⟩
  | true =>
  have hm : 2 ≤ m ∧ m ≤ 10000 := by simpa [inB] using h1
  have hw : wrap64 (m - 1) = m - 1 := by unfold wrap64; omega
  cases h2 : inB x 0 (m - 1) with
  | false =>
    obtain ⟨e1, e2⟩ := ord_bad (x := x) (m := m) (by rw [hin, h1, h2]; rfl)
    rw [e1, e2]
    have H1 := Lib.hid h1
    have H2 := Lib.hid h2
    clear h1 h2 hin e1 e2
    go_enter Try.func27, Try.ntmps27
    go_wp2_with (first
      | (go_at_call 68; refine (moModulus_any _ _).mono ?_; rw [H1.out]; rintro e w' ⟨rfl, rfl⟩)
      | (go_at_call 69; refine (l1In_any _ _ _ _).mono ?_; rw [H2.out]; rintro e w' ⟨rfl, rfl⟩))
    go_ret2
    exact ⟨rfl, Below.refl _ _⟩
  | true =>
    have hx : 0 ≤ x ∧ x ≤ m - 1 := by simpa [inB] using h2
    obtain ⟨M, rfl⟩ : ∃ M : Nat, m = M := ⟨m.toNat, by omega⟩
    obtain ⟨X, rfl⟩ : ∃ X : Nat, x = X := ⟨x.toNat, by omega⟩
    have HIN := Lib.hid (show inR M X = true by rw [hin, h1, h2]; rfl)
    have H1 := Lib.hid h1
    have H2 := Lib.hid h2
    have m2 : 2 ≤ M := by omega
    have m4 : M ≤ 10000 := by omega
    have hX : X < M := by omega
    have hm0 : ((M : Int) == 0) = false := by simp; omega
    clear h1 h2 hin hm hx
    obtain ⟨P, hP⟩ : ∃ P, P = pwm M X := ⟨_, rfl⟩
    have p1 : P 1 = X := by rw [hP]; exact pw_one hX
    have pS := Lib.hid (show ∀ e, P (e + 1) = P e * X % M by rw [hP]; exact pw_succ M X)
    have pL := Lib.hid (show ∀ e, P e < M by rw [hP]; exact fun e => pw_lt X e (by omega))
    have HP := Lib.hid hP
    clear hP
    have P1 := Lib.hid p1
    clear p1
    go_enter Try.func27, Try.ntmps27
    go_wp2_with (first
      | (go_at_call 68; refine (moModulus_any _ _).mono ?_; rw [H1.out]; rintro e w' ⟨rfl, rfl⟩)
      | (go_at_call 69; refine (l1In_any _ _ _ _).mono ?_; rw [H2.out]; rintro e w' ⟨rfl, rfl⟩))
    go_loop [6, 7] (fun nv ev => ∃ e : Nat, 1 ≤ e ∧ e ≤ M + 1 ∧ nv = .int .i64 (P e : Int) ∧ ev = .int .i64 (e : Int) ∧ ∀ k, 1 ≤ k → k < e → P k ≠ 1) (fun _ ev => M + 1 - (intOf ev).toNat)
    case atStart => exact ⟨1, by omega, by omega, by rw [P1.out], rfl, fun k h1 h2 => by omega⟩
    case round =>
      obtain ⟨e, he1, he2, rfl, rfl, hno⟩ := hrel
      have NO := Lib.hid hno
      clear hno
      obtain ⟨V, hV⟩ : ∃ V, P e = V := ⟨_, rfl⟩
      have hVl : V < M := by rw [← hV]; exact pL.out e
      have HV := Lib.hid hV
      rw [hV]
      clear hV
      by_cases hle : e ≤ M
      · have il : (e : Int) ≤ (M : Int) := by omega
        by_cases h1 : V = 1
        · subst h1
          have hlt : e < M := by
            apply Classical.byContradiction
            intro hh
            have he : e = M := by omega
            have := (ordN_none (x := X) m2 (fun k a b => by rw [← HP.out]; exact NO.out k a (by omega))).2
            rw [← HP.out, ← he, HV.out] at this
            exact this rfl
          obtain ⟨e1, e2⟩ := ord_is HIN.out (ordN_hit he1 hlt (by rw [← HP.out]; exact HV.out) (fun k a b => by rw [← HP.out]; exact NO.out k a b))
          have E1 := Lib.hid e1
          have E2 := Lib.hid e2
          clear e1 e2
          go_wp2
          go_ret2
          exact ⟨by rw [E1.out, E2.out, decide_eq_true (show e ≠ 0 by omega)]; rfl, Below.refl _ _⟩
        · have i1 : ¬ (V : Int) = 1 := by omega
          have hp := prod_le m4 hVl hX
          have e1 : (V : Int) * (X : Int) = ((V * X : Nat) : Int) := by push_cast; rfl
          have hw2 : wrap64 ((V : Int) * (X : Int)) = ((V * X : Nat) : Int) := by rw [e1]; unfold wrap64; omega
          have EM := Lib.hid (show ((V * X : Nat) : Int) % (M : Int) = ((V * X % M : Nat) : Int) by push_cast; rfl)
          obtain ⟨Q, hQ⟩ : ∃ Q, V * X = Q := ⟨_, rfl⟩
          have HQ := Lib.hid hQ
          rw [hQ] at hw2 hp EM
          clear hQ e1
          go_wp2
          go_round
          case rel => exact ⟨e + 1, by omega, by omega, by rw [EM.out, pS.out, HV.out, HQ.out], by go_num, fun k a b => by
            rcases Nat.lt_or_eq_of_le (show k ≤ e by omega) with h | rfl
            · exact NO.out k a h
            · rw [HV.out]; exact h1⟩
          case measure => simp [intOf]; omega
      · have il : ¬ (e : Int) ≤ (M : Int) := by omega
        obtain ⟨e1, e2⟩ := ord_is HIN.out (ordN_none (x := X) m2 (fun k a b => by rw [← HP.out]; exact NO.out k a (by omega))).1
        have E1 := Lib.hid e1
        have E2 := Lib.hid e2
        clear e1 e2
        go_wp2
        go_ret2
        exact ⟨by rw [E1.out, E2.out]; rfl, Below.refl _ _⟩

theorem box1 {w w1 : World} {a : Value} {t : TypeId} (h : w.alloc (.cells #[a] t) = w1) :
    w1.cell? ⟨w.heap.size, 0, none⟩ = some a ∧ w1.heap.size = w.heap.size + 1 ∧ Below w.heap.size w w1 := by
  subst h
  refine ⟨?_, by simp, (Below.refl _ _).alloc (Nat.le_refl _) _⟩
  rw [World.cell?_alloc_at _ _ _ _ rfl]; rfl

set_option maxRecDepth 100000 in
set_option maxHeartbeats 2000000 in
theorem implOrder_any (x m : Int) (w : World) : Calls Try.prog 28 #[.int .i64 x, .int .i64 m] w fun e w' => e = .returned (.tuple #[.int .i64 (ordV x m), .bool (ordG x m)]) ∧ Below w.heap.size w w' := by
  cases h1 : inR m x with
  | false =>
    obtain ⟨e1, e2⟩ := ord_bad h1
    rw [e1, e2]
    have H1 := Lib.hid h1
    clear h1 e1 e2
    go_enter Try.func28, Try.ntmps28
    go_wp2_with fail
    go_at_call 75
    generalize hw1 : World.alloc w _ = w1
    obtain ⟨x0, xs, xb⟩ := box1 hw1
    clear hw1
    refine (resHas_any _ _ _).mono ?_
    rw [H1.out]
    rintro e w2 ⟨rfl, hb2⟩
    have HB := Lib.hid (xb.trans (hb2.mono (by omega)))
    clear hb2 xb x0
    go_wp2
    go_ret2
    exact ⟨rfl, HB.out⟩
  | true =>
    obtain ⟨m2, m4, x0, x1⟩ := inR_rng h1
    obtain ⟨M, rfl⟩ : ∃ M : Nat, m = M := ⟨m.toNat, by omega⟩
    obtain ⟨X, rfl⟩ : ∃ X : Nat, x = X := ⟨x.toNat, by omega⟩
    have HIN := Lib.hid h1
    have n2 : 2 ≤ M := by omega
    have n4 : M ≤ 10000 := by omega
    have hX : X < M := by omega
    clear h1 m2 m4 x0 x1
    obtain ⟨P, hP⟩ : ∃ P, P = pwm M X := ⟨_, rfl⟩
    have P0 := Lib.hid (show P 0 = 1 by rw [hP]; exact pw_zero X n2)
    have pS := Lib.hid (show ∀ e, P (e + 1) = P e * X % M by rw [hP]; exact pw_succ M X)
    have pL := Lib.hid (show ∀ e, P e < M by rw [hP]; exact fun e => pw_lt X e (by omega))
    have HP := Lib.hid hP
    clear hP
    go_enter Try.func28, Try.ntmps28
    go_wp2_with fail
    go_at_call 75
    generalize hw1 : World.alloc w _ = w1
    obtain ⟨x0, xs, xb⟩ := box1 hw1
    clear hw1
    refine (resHas_any _ _ _).mono ?_
    rw [HIN.out]
    rintro e w2 ⟨rfl, hb2⟩
    have C2 := Lib.hid ((hb2.cell (p := ⟨w.heap.size, 0, none⟩) (by simp only []; omega)).trans x0)
    have HB2 := Lib.hid (xb.trans (hb2.mono (by omega)))
    have hs2 : w.heap.size < w2.heap.size := by have := hb2.size; omega
    clear hb2 xb x0 xs
    go_wp2
    go_loopw [7, 8] (fun nv ev wr => ∃ e : Nat, 1 ≤ e ∧ e ≤ M ∧ nv = .int .i64 (P (e - 1) : Int) ∧ ev = .int .i64 (e : Int) ∧ (∀ k, 1 ≤ k → k < e → P k ≠ 1) ∧ wr.cell? ⟨w.heap.size, 0, none⟩ = some (.int .i64 (M : Int)) ∧ w.heap.size < wr.heap.size ∧ Below w.heap.size w wr) (fun _ ev _ => M + 1 - (intOf ev).toNat)
    case atStart => exact ⟨1, by omega, by omega, by rw [P0.out]; rfl, rfl, fun k h1 h2 => by omega, C2.out, hs2, HB2.out⟩
    case round =>
      obtain ⟨e, he1, he2, rfl, rfl, hno, hc, hsz, hbel⟩ := hrel
      have NO := Lib.hid hno
      have BEL := Lib.hid hbel
      clear hno hbel hs2
      obtain ⟨V, hV⟩ : ∃ V, P (e - 1) = V := ⟨_, rfl⟩
      have hVl : V < M := by rw [← hV]; exact pL.out _
      have HV := Lib.hid hV
      rw [hV]
      clear hV
      by_cases hlt : e < M
      · have il : (e : Int) < (M : Int) := by omega
        have EQ := Lib.hid (show mulM M V X = P e by have := pS.out (e - 1); rw [show e - 1 + 1 = e by omega, HV.out] at this; exact this.symm)
        obtain ⟨Q, hQ⟩ : ∃ Q, mulM M V X = Q := ⟨_, rfl⟩
        have HM := Lib.hid (resMul_any M V X wr n2 n4 hVl hX)
        rw [hQ] at HM EQ
        clear hQ
        go_wp2_with fail
        refine HM.out.mono ?_
        rintro e' w3 ⟨rfl, hb3⟩
        have C3 := Lib.hid ((hb3.cell (p := ⟨w.heap.size, 0, none⟩) hsz).trans hc)
        have BEL3 := Lib.hid (BEL.out.trans (hb3.mono (by omega)))
        have hs3 := hb3.size
        clear hb3 hc HM
        by_cases h1 : Q = 1
        · subst h1
          obtain ⟨e1, e2⟩ := ord_is HIN.out (ordN_hit he1 hlt (by rw [← HP.out]; exact EQ.out.symm) (fun k a b => by rw [← HP.out]; exact NO.out k a b))
          have E1 := Lib.hid e1
          have E2 := Lib.hid e2
          clear e1 e2
          go_wp2
          go_ret2
          exact ⟨by rw [E1.out, E2.out, decide_eq_true (show e ≠ 0 by omega)]; rfl, BEL3.out⟩
        · have i1 : ¬ (Q : Int) = 1 := by omega
          go_wp2
          go_roundw
          case rel => exact ⟨e + 1, by omega, by omega, by rw [show e + 1 - 1 = e by omega, ← EQ.out], by go_num, (fun k a b => by
            rcases Nat.lt_or_eq_of_le (show k ≤ e by omega) with h | rfl
            · exact NO.out k a h
            · rw [← EQ.out]; exact h1), C3.out, by omega, BEL3.out⟩
          case measure => simp [intOf]; omega
      · have il : ¬ (e : Int) < (M : Int) := by omega
        obtain ⟨e1, e2⟩ := ord_is HIN.out (ordN_none (x := X) n2 (fun k a b => by rw [← HP.out]; exact NO.out k a (by omega))).1
        have E1 := Lib.hid e1
        have E2 := Lib.hid e2
        clear e1 e2
        go_wp2
        go_ret2
        exact ⟨by rw [E1.out, E2.out]; rfl, BEL.out⟩
end Go.Proofs.Ytbbfbccemonihaa
