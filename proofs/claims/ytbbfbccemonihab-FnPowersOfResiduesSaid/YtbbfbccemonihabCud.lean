/- For the law on powers of residues: an exponent more; orders; bytes that came in. -/
import Derived.Test.YtbbfbccemonihabCuc
import Derived.Test.YtbbfbccemonihabMoi
import Derived.Test.YtbbfbccemonihabOp
namespace Go.Proofs.Ytbbfbccemonihab
open Go.ChangeShapes Go.WideShapes Go.ChangeAt Go.RowKit Go.Deep Go.Joins

theorem RB.below {w w' : World} {B n : Nat} {A : Option Addr} (h : RB w B A n) (hb : Below B w w') : RB w' B A n := h.keep fun _ hp => hb.cell hp
set_option maxRecDepth 100000 in
theorem open_bytes_rb {H : Type} {enc : TypeId × Value → H} {W : World} {base : Nat} {spare : Nat → Bool} {held : Bool} {v : Value} {d : DataW H} {p : List MemPlace} {b0 : Nat} {r : Reach} (hv : Value.okWide Try.prog W r b0 56 v) (h : DataW.Trod enc Try.prog W base spare held 56 v d p) :
    ∃ (A : Option Addr) (n c : Nat), v = .slice A n c ∧ RB W W.heap.size A n := by
  obtain ⟨A0, n0, c0, rfl⟩ := okWide_slice Try.underlying56 hv
  obtain ⟨fuel, hf⟩ := h
  rcases open_ints Try.underlying56 Try.underlying5 (by kernel_rfl) hf with ⟨hcs0, _⟩ | ⟨a, len, cap, zs, hcs0, _, hl, hm, hz, _, hc, hwf⟩
  · have hcs : [Value.slice A0 n0 c0] = [.slice none 0 0] := hcs0
    simp only [List.cons.injEq, and_true] at hcs
    exact ⟨none, 0, 0, hcs, by omega, fun hn => absurd hn (by omega)⟩
  · have hcs : [Value.slice A0 n0 c0] = [.slice (some a) len cap] := hcs0
    simp only [List.cons.injEq, and_true] at hcs
    refine ⟨some a, len, cap, hcs, by unfold maxLen at hm; omega, fun hn => ?_⟩
    have hzl : len ≤ zs.length := by split at hz <;> omega
    have h0 := hc 0 (by omega)
    have e0 : a.add 0 = a := by unfold Addr.add; simp
    rw [e0] at h0
    refine ⟨a.block, a.off, by rw [← addr_form h0], World.block_lt_of_cell? _ _ h0, fun j hj => ?_⟩
    have h1 := hc j (by omega)
    rw [addr_form h0, add_form] at h1
    have hjz : j < zs.length := by omega
    have h2 := hwf _ (List.getElem_mem hjz)
    have h3 : 0 ≤ zs[j] ∧ zs[j] ≤ 255 := by
      unfold Lit.wf IntKind.min IntKind.max at h2
      simpa [IntKind.bits, IntKind.signed] using h2
    refine ⟨(zs[j]).toNat, by omega, ?_⟩
    rw [h1]
    have e1 : zs.getD j 0 = zs[j] := by simp [hjz]
    rw [e1, show ((zs[j]).toNat : Int) = zs[j] by omega]

theorem pow_bump (m P x e : Nat) : P * x ^ (e + 1) % m = (P * x ^ e % m) * x % m := by
  rw [Nat.mod_mul_mod, Nat.pow_succ, Nat.mul_assoc]
theorem mul_bump (m P x X : Nat) : P * x % m * X % m = P * X % m * x % m := by
  rw [Nat.mod_mul_mod, Nat.mod_mul_mod, Nat.mul_assoc, Nat.mul_comm x X, ← Nat.mul_assoc]
theorem getD_set0 {l : List Int} {u : Int} {i : Nat} (hi : 0 < i) : (l.set 0 u).getD i 0 = l.getD i 0 := by
  cases l with
  | nil => rfl
  | cons a l =>
    cases i with
    | zero => omega
    | succ i => rfl
/-- The first exponent 1 more: the product times its residue. -/
theorem pmK_bump {m : Nat} (hm : 2 ≤ m) {es xs : List Int} {e0 x0 : Nat} (h0 : 0 < es.length) (he0 : es.getD 0 0 = (e0 : Int)) (hx0 : xs.getD 0 0 = (x0 : Int)) (hb : e0 + 1 ≤ 1000000) (hes : ∀ i, (es.getD i 0).toNat ≤ 1000000) : ∀ k, 1 ≤ k → pmK m (es.set 0 ((e0 : Int) + 1)) xs k = pmK m es xs k * x0 % m := by
  intro k
  induction k with
  | zero => intro h; omega
  | succ k ih =>
    intro _
    rcases Nat.eq_zero_or_pos k with rfl | hk
    · show pwr (mulM m) 20 ((es.set 0 ((e0 : Int) + 1)).getD 0 0).toNat 1 (xs.getD 0 0).toNat = pwr (mulM m) 20 (es.getD 0 0).toNat 1 (xs.getD 0 0).toNat * x0 % m
      have e1 : (es.set 0 ((e0 : Int) + 1)).getD 0 0 = (e0 : Int) + 1 := by
        cases es with
        | nil => simp at h0
        | cons a l => rfl
      rw [e1, he0, hx0, show ((e0 : Int) + 1).toNat = e0 + 1 by omega, show ((e0 : Int)).toNat = e0 by omega, show ((x0 : Int)).toNat = x0 by omega]
      rw [pwL_closed m 20 (e0 + 1) 1 x0 (pow20 hb) (by omega), pwL_closed m 20 e0 1 x0 (pow20 (by omega)) (by omega)]
      exact pow_bump m 1 x0 e0
    · have h1 := ih (by omega)
      show pwr (mulM m) 20 ((es.set 0 ((e0 : Int) + 1)).getD k 0).toNat (pmK m (es.set 0 ((e0 : Int) + 1)) xs k) (xs.getD k 0).toNat = pwr (mulM m) 20 (es.getD k 0).toNat (pmK m es xs k) (xs.getD k 0).toNat * x0 % m
      rw [getD_set0 hk, h1, pwL_closed m 20 _ _ _ (pow20 (hes k)) (Nat.mod_lt _ (by omega)), pwL_closed m 20 _ _ _ (pow20 (hes k)) (pmK_lt hm es xs k)]
      exact mul_bump m _ x0 _
theorem pm_bump {m : Int} {es xs : List Int} (h : pmG m es xs = true) (hlt : es.getD 0 0 < 1000000) : ∃ (M e0 x0 : Nat), m = (M : Int) ∧ 2 ≤ M ∧ M ≤ 10000 ∧ 0 < es.length ∧ 0 < xs.length ∧ es.getD 0 0 = (e0 : Int) ∧ e0 < 1000000 ∧ xs.getD 0 0 = (x0 : Int) ∧ x0 < M ∧ pmG m (es.set 0 ((e0 : Int) + 1)) xs = true ∧
    ∃ P : Nat, P < M ∧ pmV m es xs = (P : Int) ∧ pmV m (es.set 0 ((e0 : Int) + 1)) xs = ((P * x0 % M : Nat) : Int) := by
  have h0 := h
  unfold pmG at h
  simp only [Bool.and_eq_true, decide_eq_true_eq] at h
  obtain ⟨h1, h2, h3, h4, h5⟩ := h
  have hm : 2 ≤ m ∧ m ≤ 10000 := by simpa [inB] using h1
  have hx : 1 ≤ (xs.length : Int) ∧ (xs.length : Int) ≤ 6 := by simpa [inB] using h2
  obtain ⟨M, rfl⟩ : ∃ M : Nat, m = M := ⟨m.toNat, by omega⟩
  have hxl : 0 < xs.length := by omega
  have hel : 0 < es.length := by omega
  obtain ⟨a0, a1⟩ := allB_at h4 hxl
  obtain ⟨b0, b1⟩ := allB_at h5 hel
  have ex : xs.getD 0 0 = xs[0] := by simp [hxl]
  have ee : es.getD 0 0 = es[0] := by simp [hel]
  rw [ee] at hlt
  have hes : ∀ i, (es.getD i 0).toNat ≤ 1000000 := fun i => by
    by_cases hi : i < es.length
    · have := allB_at h5 hi
      have e : es.getD i 0 = es[i] := by simp [hi]
      rw [e]
      omega
    · have e : es.getD i 0 = 0 := by simp [hi]
      rw [e]
      simp
  have eg : pmG (M : Int) (es.set 0 (((es[0]).toNat : Int) + 1)) xs = true := by
    unfold pmG
    have e5 : allB (es.set 0 (((es[0]).toNat : Int) + 1)) 0 1000000 = true := by
      unfold allB
      rw [List.all_eq_true]
      intro y hy
      rcases List.mem_or_eq_of_mem_set hy with hy | rfl
      · unfold allB at h5
        rw [List.all_eq_true] at h5
        exact h5 y hy
      · simp [inB]; omega
    rw [h1, h2, h4, e5, decide_eq_true (show (es.set 0 (((es[0]).toNat : Int) + 1)).length = xs.length by rw [List.length_set]; exact h3)]
    rfl
  refine ⟨M, (es[0]).toNat, (xs[0]).toNat, rfl, by omega, by omega, hel, hxl, by rw [ee]; omega, by omega, by rw [ex]; omega, by omega, eg, pmK M es xs es.length, pmK_lt (by omega) _ _ _, ?_, ?_⟩
  · have := pm_good h0
    rwa [show (M : Int).toNat = M by omega] at this
  · have := pm_good eg
    rw [this, show (M : Int).toNat = M by omega, List.length_set]
    rw [pmK_bump (e0 := (es[0]).toNat) (x0 := (xs[0]).toNat) (by omega) hel (by rw [ee]; omega) (by rw [ex]; omega) (by omega) hes es.length (by omega)]
theorem ord_facts {x m : Int} (h : ordG x m = true) : ∃ (M X E : Nat), m = (M : Int) ∧ x = (X : Int) ∧ 2 ≤ M ∧ M ≤ 10000 ∧ X < M ∧ 1 ≤ E ∧ E < M ∧ ordV x m = (E : Int) ∧ ∀ k, 1 ≤ k → k ≤ E → (pwm M X k = 1 ↔ k = E) := by
  unfold ordG at h
  rw [Bool.and_eq_true, decide_eq_true_eq] at h
  obtain ⟨h1, h2⟩ := h
  obtain ⟨m2, m4, x0, x1⟩ := inR_rng h1
  have hle := fstK_le (fun e => pwm m.toNat x.toNat e == 1) (m.toNat - 1)
  have his := fstK_is (P := fun e => pwm m.toNat x.toNat e == 1) (m.toNat - 1) h2
  refine ⟨m.toNat, x.toNat, ordN m.toNat x.toNat, by omega, by omega, by omega, by omega, by omega, by omega, by unfold ordN at *; omega, by unfold ordV; rw [if_pos h1], fun k a b => ⟨fun hk => ?_, fun hk => ?_⟩⟩
  · rcases Nat.lt_or_eq_of_le b with hlt | he
    · have := fstK_before (P := fun e => pwm m.toNat x.toNat e == 1) (m.toNat - 1) hlt a
      simp [hk] at this
    · exact he
  · rw [hk]
    unfold ordN
    simpa using his
def bigB (n0 n1 : Nat) : Bool := decide ((1048576 : Int) < (n0 : Int)) || decide (1048576 - (n0 : Int) < (n1 : Int))
theorem lawBig_any (A0 A1 : Option Addr) (n0 n1 c0 c1 : Nat) (w : World) : Calls Try.prog 42 #[.slice A0 n0 c0, .slice A1 n1 c1] w fun e w' => e = .returned (.bool (bigB n0 n1)) ∧ w = w' := by
  obtain ⟨b, hb⟩ : ∃ b, bigB n0 n1 = b := ⟨_, rfl⟩
  have HB := Lib.hid hb
  rw [hb]
  clear hb
  by_cases h : (1048576 : Int) < (n0 : Int)
  · have E := Lib.hid (show true = b by rw [← HB.out]; unfold bigB; rw [decide_eq_true h]; rfl)
    go_enter Try.func42, Try.ntmps42
    go_wp2
    go_ret
    exact ⟨ret_bool E.out, rfl⟩
  · have E := Lib.hid (show decide (1048576 - (n0 : Int) < (n1 : Int)) = b by rw [← HB.out]; unfold bigB; rw [decide_eq_false h]; rfl)
    have hw : wrap64 (1048576 - (n0 : Int)) = 1048576 - (n0 : Int) := by unfold wrap64; omega
    go_enter Try.func42, Try.ntmps42
    go_wp2
    go_ret
    exact ⟨ret_bool E.out, rfl⟩
end Go.Proofs.Ytbbfbccemonihab
