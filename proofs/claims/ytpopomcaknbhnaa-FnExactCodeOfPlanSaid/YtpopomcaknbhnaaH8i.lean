/- The polynomials of the values of a code, by the model. -/
import Derived.Test.YtpopomcaknbhnaaH8h
import Derived.Test.YtpopomcaknbhnaaH8f
namespace Go.Proofs.Ytpopomcaknbhnaa
open Go.RowKit

theorem T_lsg {P : Program} {ops : Array Oper} {Q : Exit → Act → World → Prop} {S : World → Prop} {SL : List Nat} {i : Nat} {t : Tr} {o : Oper} {a : Act} {w : World} {v : Value} (ho : ops[i]? = some o) (hw : Region.wanted o (yielded ops a.tmps) = true) (hS : S w)
    (hv : ∀ x, S x → (execOp a.eval o).run P x = .ok (.value v) x) (h : ∀ K : Act → Prop, (∀ a, wpT P ops Q S SL t a w → K a) → K (a.put o.dst v)) : wpT P ops Q S SL (.ls i t) a w :=
  ⟨hS, o, ho, by rw [if_pos hw]; exact ⟨v, hv, h _ fun _ h => h⟩⟩
theorem T_lsn {P : Program} {ops : Array Oper} {Q : Exit → Act → World → Prop} {S : World → Prop} {SL : List Nat} {i : Nat} {t : Tr} {o : Oper} {a : Act} {w : World} (ho : ops[i]? = some o) (hw : Region.wanted o (yielded ops a.tmps) = false) (hS : S w)
    (h : ∀ K : Act → Prop, (∀ a, wpT P ops Q S SL t a w → K a) → K (a.put o.dst undef)) : wpT P ops Q S SL (.ls i t) a w :=
  ⟨hS, o, ho, by rw [if_neg (by rw [hw]; decide)]; exact h _ fun _ h => h⟩
theorem inB_inV (v : Int) (n : Nat) : inB v 0 ((n : Int) - 1) = inV v n := by
  unfold inB inV
  rw [Bool.eq_iff_iff]
  simp only [Bool.and_eq_true, decide_eq_true_eq]
  omega
theorem inB_isC (v : Int) : inB v (-1000000) 1000000 = isC v := rfl

set_option maxRecDepth 100000 in
set_option maxHeartbeats 1000000 in
theorem poSmall_any (B : Nat) (A : Option Addr) (c : Nat) (l : List Int) (w : World) (hl : l.length ≤ 1000000) (hr : Rd w B 1 A l.length (l.map I)) :
    Calls Try.prog 117 #[.slice A l.length c] w fun e w' => e = .returned (.bool (fitB l)) ∧ w' = w := by
  have HA := Lib.hid (l1All_any B A c l (-1000000) 1000000 w (by omega) hr)
  have E := Lib.hid (show fitB l = (decide (l.length ≤ 17) && allB l (-1000000) 1000000) from rfl)
  obtain ⟨t, ht⟩ : ∃ t, allB l (-1000000) 1000000 = t := ⟨_, rfl⟩
  rw [ht] at HA E
  clear hr ht
  by_cases h : l.length ≤ 17
  · have E2 := Lib.hid (show fitB l = t by rw [E.out, decide_eq_true h]; rfl)
    have ih : (l.length : Int) ≤ 17 := by omega
    go_enter Try.func117, Try.ntmps117
    go_wp2_with (go_at_call 132; refine HA.out.mono ?_; rintro e w' ⟨rfl, rfl⟩)
    go_ret
    exact ⟨ret_bool (by rw [E2.out]), rfl⟩
  · have E2 := Lib.hid (show fitB l = false by rw [E.out, decide_eq_false h]; rfl)
    have ih : ¬ (l.length : Int) ≤ 17 := by omega
    go_enter Try.func117, Try.ntmps117
    go_wp2
    go_ret
    exact ⟨ret_bool (by rw [E2.out]), rfl⟩

theorem const_trim (n : Int) (W : World) : Calls Try.prog 142 #[.slice (some ⟨W.heap.size, 0, none⟩) 1 1] (W.alloc (.cells #[.int .i64 n] 3)) fun e w' => ∃ A c, e = .returned (.slice A (pCon n).length c) ∧ OwI w' (W.heap.size + 1) (.slice A (pCon n).length c) (pCon n) ∧ Below W.heap.size W w' := by
  have h := poTrim_any (W.heap.size + 1) (some ⟨W.heap.size, 0, none⟩) 1 [n] (W.alloc (.cells #[.int .i64 n] 3)) (by simp) (by simp) (by simp) ((one_own n).rd.more (by simp))
  rw [show [n].length = 1 from rfl, pt_one] at h
  refine h.mono ?_
  rintro e w' ⟨A, c, rfl, ho, hb⟩
  exact ⟨A, c, rfl, ho.base (by simp), ((Below.refl _ _).alloc (Nat.le_refl _) _).trans (hb.mono (by simp))⟩

set_option maxRecDepth 100000 in
set_option maxHeartbeats 16000000 in
theorem poOp_any (B : Nat) (A : Option Addr) (c : Nat) (f : Nat → Option Addr × Nat) (o : Op3) (r : Rws) (w : World) (hB : B ≤ w.heap.size) (h0 : 1 ≤ r.length) (hl : r.length ≤ 1000) (hfit : ∀ v ∈ r, fitB v = true) (hr : RdW w B A f r) :
    Calls Try.prog 116 #[.agg #[.int .i64 o.1, .int .i64 o.2.1, .int .i64 o.2.2], .slice A r.length c] w fun e w' => ∃ A2 c2 L, e = .returned (.tuple #[.slice A2 L.length c2, .bool (opOk o r.length)]) ∧ OwI w' w.heap.size (.slice A2 L.length c2) L ∧ (opOk o r.length = true → L = opP o r) ∧ Below w.heap.size w w' := by
  obtain ⟨k, a, b⟩ := o
  simp only
  have OK := Lib.hid (show opOk (k, a, b) r.length = if k = 0 then isC a && decide (b = 0) else if k = 1 ∨ k = 3 then inV a r.length && inV b r.length else if k = 2 then inV a r.length && isC b else false from rfl)
  have LA := Lib.hid (show ∀ W, Calls Try.prog 93 #[.int .i64 a, .int .i64 0, .int .i64 ((r.length : Int) - 1)] W fun e w' => e = .returned (.bool (inV a r.length)) ∧ W = w' from fun W => by have h := l1In_any a 0 ((r.length : Int) - 1) W; rw [inB_inV] at h; exact h)
  have LB := Lib.hid (show ∀ W, Calls Try.prog 93 #[.int .i64 b, .int .i64 0, .int .i64 ((r.length : Int) - 1)] W fun e w' => e = .returned (.bool (inV b r.length)) ∧ W = w' from fun W => by have h := l1In_any b 0 ((r.length : Int) - 1) W; rw [inB_inV] at h; exact h)
  have LC := Lib.hid (show ∀ W, Calls Try.prog 93 #[.int .i64 a, .int .i64 (-1000000), .int .i64 1000000] W fun e w' => e = .returned (.bool (isC a)) ∧ W = w' from fun W => l1In_any a _ _ W)
  have LD := Lib.hid (show ∀ W, Calls Try.prog 93 #[.int .i64 b, .int .i64 (-1000000), .int .i64 1000000] W fun e w' => e = .returned (.bool (isC b)) ∧ W = w' from fun W => l1In_any b _ _ W)
  have inr : ∀ v : Int, inV v r.length = true → ∃ i : Nat, v = i ∧ i < r.length := fun v h => by
    unfold inV at h
    simp only [Bool.and_eq_true, decide_eq_true_eq] at h
    exact ⟨v.toNat, by omega, by omega⟩
  have INR := Lib.hid inr
  clear inr
  have HR := Lib.hid hr
  have FIT := Lib.hid hfit
  have ROW := Lib.hid (fun (i : Nat) (hi : i < r.length) => hr.at_ hi)
  clear hr hfit
  obtain ⟨va, hva⟩ : ∃ v, inV a r.length = v := ⟨_, rfl⟩
  obtain ⟨vb, hvb⟩ : ∃ v, inV b r.length = v := ⟨_, rfl⟩
  obtain ⟨ca, hca⟩ : ∃ v, isC a = v := ⟨_, rfl⟩
  obtain ⟨cb, hcb⟩ : ∃ v, isC b = v := ⟨_, rfl⟩
  rw [hva] at LA
  rw [hvb] at LB
  rw [hca] at LC
  rw [hcb] at LD
  rw [hva, hvb, hca, hcb] at OK
  have ilen : (1 : Int) ≤ (r.length : Int) := by omega
  by_cases k0 : k = 0
  · have E := Lib.hid (show opOk (k, a, b) r.length = (ca && decide (b = 0)) by rw [OK.out, if_pos k0])
    have P := Lib.hid (show opP (k, a, b) r = pCon a by rw [k0]; rfl)
    have q0 : (k == 0) = true := by simpa using k0
    clear k0 hva hvb hca hcb
    cases va with
    | false =>
      cases ca with
      | false =>
        go_enter Try.func116, Try.ntmps116
        go_wp2_with fail
        go_at_call 93
        generalize hw1 : World.alloc w _ = w1
        obtain ⟨x0, x1, x2, xs, xb⟩ := box3 hw1
        clear hw1
        refine (LA.out _).mono ?_
        rintro e w2 ⟨rfl, rfl⟩
        have FX := Lib.hid (show ∀ x, Below w1.heap.size w1 x → x.cell? ⟨w.heap.size, 1, none⟩ = some (.int .i64 a) ∧ x.cell? ⟨w.heap.size, 2, none⟩ = some (.int .i64 b) from fun x hx => ⟨(hx.cell (p := ⟨w.heap.size, 1, none⟩) (by simp only []; omega)).trans x1, (hx.cell (p := ⟨w.heap.size, 2, none⟩) (by simp only []; omega)).trans x2⟩)
        have SD := Lib.hid (show Below w1.heap.size w1 w1.drew from (Below.refl _ _).drew)
        go_wp2
        refine wp_region_T (fun x : World => Below w1.heap.size w1 x) [0, 1, 4, 5, 7, 8, 9, 10, 11, 12, 13] [1, 5, 9] (.lp 0 (.lp 4 (.ls 1 (.ls 5 (.hv 2 (.hv 3 (.hv 6 (.lp 7 (.lp 8 (.lp 12 (.ls 9 (.lp 10 (.lp 11 (.lp 13 (.done))))))))))))))) (by kernel_rfl) (by kernel_rfl) ?_
        generalize World.drew w1 = wd at SD ⊢
        have hsd := SD.out.size
        (repeat (refine T_lp rfl (fun K hK => ?_); go_simp; refine hK _ ?_; clear hK K))
        refine T_ls1 (v := .int .i64 a) rfl rfl SD.out (fun x hx => (by have h1 := (FX.out x hx).1; go_simp)) (fun K hK => ?_)
        (go_simp; refine hK _ ?_; clear hK K)
        refine T_ls1 (v := .int .i64 a) rfl rfl SD.out (fun x hx => (by have h1 := (FX.out x hx).1; go_simp)) (fun K hK => ?_)
        (go_simp; refine hK _ ?_; clear hK K)
        refine T_hvS rfl (fun K hK => ?_)
        go_simp
        refine hK _ _ (SD.out.alloc SD.out.size _) ?_
        clear hK K
        refine T_hvS rfl (fun K hK => ?_)
        go_simp
        go_at_call 142
        refine (const_trim a wd).mono ?_
        rintro e w3 ⟨A2, c2, rfl, ho3, hb3⟩
        have SB := Lib.hid (SD.out.trans (hb3.mono SD.out.size))
        have O3 := Lib.hid (ho3.base (show w.heap.size ≤ _ by omega))
        clear ho3 hb3
        go_simp
        refine hK _ _ SB.out ?_
        clear hK K
        (refine T_hv rfl (by kernel_rfl) (fun K hK => ?_); go_simp)
        go_at_call 93
        refine (LC.out _).mono ?_
        rintro e w4 ⟨rfl, rfl⟩
        (go_simp; refine hK _ _ ?_; clear hK K)
        (repeat (refine T_lp rfl (fun K hK => ?_); go_simp; refine hK _ ?_; clear hK K))
        refine T_lsn rfl rfl SB.out (fun K hK => ?_)
        (go_simp; refine hK _ ?_; clear hK K)
        (repeat (refine T_lp rfl (fun K hK => ?_); go_simp; refine hK _ ?_; clear hK K))
        refine T_done ?_
        go_wp2
        go_ret2
        exact ⟨A2, c2, pCon a, by rw [E.out]; rfl, O3.out, fun _ => P.out.symm, xb.trans (SB.out.mono (by omega))⟩
      | true =>
        go_enter Try.func116, Try.ntmps116
        go_wp2_with fail
        go_at_call 93
        generalize hw1 : World.alloc w _ = w1
        obtain ⟨x0, x1, x2, xs, xb⟩ := box3 hw1
        clear hw1
        refine (LA.out _).mono ?_
        rintro e w2 ⟨rfl, rfl⟩
        have FX := Lib.hid (show ∀ x, Below w1.heap.size w1 x → x.cell? ⟨w.heap.size, 1, none⟩ = some (.int .i64 a) ∧ x.cell? ⟨w.heap.size, 2, none⟩ = some (.int .i64 b) from fun x hx => ⟨(hx.cell (p := ⟨w.heap.size, 1, none⟩) (by simp only []; omega)).trans x1, (hx.cell (p := ⟨w.heap.size, 2, none⟩) (by simp only []; omega)).trans x2⟩)
        have SD := Lib.hid (show Below w1.heap.size w1 w1.drew from (Below.refl _ _).drew)
        go_wp2
        refine wp_region_T (fun x : World => Below w1.heap.size w1 x) [0, 1, 4, 5, 7, 8, 9, 10, 11, 12, 13] [1, 5, 9] (.lp 0 (.lp 4 (.ls 1 (.ls 5 (.hv 2 (.hv 3 (.hv 6 (.lp 7 (.lp 8 (.lp 12 (.ls 9 (.lp 10 (.lp 11 (.lp 13 (.done))))))))))))))) (by kernel_rfl) (by kernel_rfl) ?_
        generalize World.drew w1 = wd at SD ⊢
        have hsd := SD.out.size
        (repeat (refine T_lp rfl (fun K hK => ?_); go_simp; refine hK _ ?_; clear hK K))
        refine T_ls1 (v := .int .i64 a) rfl rfl SD.out (fun x hx => (by have h1 := (FX.out x hx).1; go_simp)) (fun K hK => ?_)
        (go_simp; refine hK _ ?_; clear hK K)
        refine T_ls1 (v := .int .i64 a) rfl rfl SD.out (fun x hx => (by have h1 := (FX.out x hx).1; go_simp)) (fun K hK => ?_)
        (go_simp; refine hK _ ?_; clear hK K)
        refine T_hvS rfl (fun K hK => ?_)
        go_simp
        refine hK _ _ (SD.out.alloc SD.out.size _) ?_
        clear hK K
        refine T_hvS rfl (fun K hK => ?_)
        go_simp
        go_at_call 142
        refine (const_trim a wd).mono ?_
        rintro e w3 ⟨A2, c2, rfl, ho3, hb3⟩
        have SB := Lib.hid (SD.out.trans (hb3.mono SD.out.size))
        have O3 := Lib.hid (ho3.base (show w.heap.size ≤ _ by omega))
        clear ho3 hb3
        go_simp
        refine hK _ _ SB.out ?_
        clear hK K
        (refine T_hv rfl (by kernel_rfl) (fun K hK => ?_); go_simp)
        go_at_call 93
        refine (LC.out _).mono ?_
        rintro e w4 ⟨rfl, rfl⟩
        (go_simp; refine hK _ _ ?_; clear hK K)
        (repeat (refine T_lp rfl (fun K hK => ?_); go_simp; refine hK _ ?_; clear hK K))
        refine T_lsg (v := .int .i64 b) rfl rfl SB.out (fun x hx => (by have h1 := (FX.out x hx).2; go_simp)) (fun K hK => ?_)
        (go_simp; refine hK _ ?_; clear hK K)
        (repeat (refine T_lp rfl (fun K hK => ?_); go_simp; refine hK _ ?_; clear hK K))
        refine T_done ?_
        go_wp2
        go_ret2
        exact ⟨A2, c2, pCon a, by rw [E.out]; rfl, O3.out, fun _ => P.out.symm, xb.trans (SB.out.mono (by omega))⟩
    | true =>
      cases vb with
      | false =>
        cases ca with
        | false =>
          go_enter Try.func116, Try.ntmps116
          go_wp2_with fail
          go_at_call 93
          generalize hw1 : World.alloc w _ = w1
          obtain ⟨x0, x1, x2, xs, xb⟩ := box3 hw1
          clear hw1
          refine (LA.out _).mono ?_
          rintro e w2 ⟨rfl, rfl⟩
          go_wp2_with fail
          go_at_call 93
          refine (LB.out _).mono ?_
          rintro e w2 ⟨rfl, rfl⟩
          have FX := Lib.hid (show ∀ x, Below w1.heap.size w1 x → x.cell? ⟨w.heap.size, 1, none⟩ = some (.int .i64 a) ∧ x.cell? ⟨w.heap.size, 2, none⟩ = some (.int .i64 b) from fun x hx => ⟨(hx.cell (p := ⟨w.heap.size, 1, none⟩) (by simp only []; omega)).trans x1, (hx.cell (p := ⟨w.heap.size, 2, none⟩) (by simp only []; omega)).trans x2⟩)
          have SD := Lib.hid (show Below w1.heap.size w1 w1.drew from (Below.refl _ _).drew)
          go_wp2
          refine wp_region_T (fun x : World => Below w1.heap.size w1 x) [0, 1, 4, 5, 7, 8, 9, 10, 11, 12, 13] [1, 5, 9] (.lp 0 (.lp 4 (.ls 1 (.ls 5 (.hv 2 (.hv 3 (.hv 6 (.lp 7 (.lp 8 (.lp 12 (.ls 9 (.lp 10 (.lp 11 (.lp 13 (.done))))))))))))))) (by kernel_rfl) (by kernel_rfl) ?_
          generalize World.drew w1 = wd at SD ⊢
          have hsd := SD.out.size
          (repeat (refine T_lp rfl (fun K hK => ?_); go_simp; refine hK _ ?_; clear hK K))
          refine T_ls1 (v := .int .i64 a) rfl rfl SD.out (fun x hx => (by have h1 := (FX.out x hx).1; go_simp)) (fun K hK => ?_)
          (go_simp; refine hK _ ?_; clear hK K)
          refine T_ls1 (v := .int .i64 a) rfl rfl SD.out (fun x hx => (by have h1 := (FX.out x hx).1; go_simp)) (fun K hK => ?_)
          (go_simp; refine hK _ ?_; clear hK K)
          refine T_hvS rfl (fun K hK => ?_)
          go_simp
          refine hK _ _ (SD.out.alloc SD.out.size _) ?_
          clear hK K
          refine T_hvS rfl (fun K hK => ?_)
          go_simp
          go_at_call 142
          refine (const_trim a wd).mono ?_
          rintro e w3 ⟨A2, c2, rfl, ho3, hb3⟩
          have SB := Lib.hid (SD.out.trans (hb3.mono SD.out.size))
          have O3 := Lib.hid (ho3.base (show w.heap.size ≤ _ by omega))
          clear ho3 hb3
          go_simp
          refine hK _ _ SB.out ?_
          clear hK K
          (refine T_hv rfl (by kernel_rfl) (fun K hK => ?_); go_simp)
          go_at_call 93
          refine (LC.out _).mono ?_
          rintro e w4 ⟨rfl, rfl⟩
          (go_simp; refine hK _ _ ?_; clear hK K)
          (repeat (refine T_lp rfl (fun K hK => ?_); go_simp; refine hK _ ?_; clear hK K))
          refine T_lsn rfl rfl SB.out (fun K hK => ?_)
          (go_simp; refine hK _ ?_; clear hK K)
          (repeat (refine T_lp rfl (fun K hK => ?_); go_simp; refine hK _ ?_; clear hK K))
          refine T_done ?_
          go_wp2
          go_ret2
          exact ⟨A2, c2, pCon a, by rw [E.out]; rfl, O3.out, fun _ => P.out.symm, xb.trans (SB.out.mono (by omega))⟩
        | true =>
          go_enter Try.func116, Try.ntmps116
          go_wp2_with fail
          go_at_call 93
          generalize hw1 : World.alloc w _ = w1
          obtain ⟨x0, x1, x2, xs, xb⟩ := box3 hw1
          clear hw1
          refine (LA.out _).mono ?_
          rintro e w2 ⟨rfl, rfl⟩
          go_wp2_with fail
          go_at_call 93
          refine (LB.out _).mono ?_
          rintro e w2 ⟨rfl, rfl⟩
          have FX := Lib.hid (show ∀ x, Below w1.heap.size w1 x → x.cell? ⟨w.heap.size, 1, none⟩ = some (.int .i64 a) ∧ x.cell? ⟨w.heap.size, 2, none⟩ = some (.int .i64 b) from fun x hx => ⟨(hx.cell (p := ⟨w.heap.size, 1, none⟩) (by simp only []; omega)).trans x1, (hx.cell (p := ⟨w.heap.size, 2, none⟩) (by simp only []; omega)).trans x2⟩)
          have SD := Lib.hid (show Below w1.heap.size w1 w1.drew from (Below.refl _ _).drew)
          go_wp2
          refine wp_region_T (fun x : World => Below w1.heap.size w1 x) [0, 1, 4, 5, 7, 8, 9, 10, 11, 12, 13] [1, 5, 9] (.lp 0 (.lp 4 (.ls 1 (.ls 5 (.hv 2 (.hv 3 (.hv 6 (.lp 7 (.lp 8 (.lp 12 (.ls 9 (.lp 10 (.lp 11 (.lp 13 (.done))))))))))))))) (by kernel_rfl) (by kernel_rfl) ?_
          generalize World.drew w1 = wd at SD ⊢
          have hsd := SD.out.size
          (repeat (refine T_lp rfl (fun K hK => ?_); go_simp; refine hK _ ?_; clear hK K))
          refine T_ls1 (v := .int .i64 a) rfl rfl SD.out (fun x hx => (by have h1 := (FX.out x hx).1; go_simp)) (fun K hK => ?_)
          (go_simp; refine hK _ ?_; clear hK K)
          refine T_ls1 (v := .int .i64 a) rfl rfl SD.out (fun x hx => (by have h1 := (FX.out x hx).1; go_simp)) (fun K hK => ?_)
          (go_simp; refine hK _ ?_; clear hK K)
          refine T_hvS rfl (fun K hK => ?_)
          go_simp
          refine hK _ _ (SD.out.alloc SD.out.size _) ?_
          clear hK K
          refine T_hvS rfl (fun K hK => ?_)
          go_simp
          go_at_call 142
          refine (const_trim a wd).mono ?_
          rintro e w3 ⟨A2, c2, rfl, ho3, hb3⟩
          have SB := Lib.hid (SD.out.trans (hb3.mono SD.out.size))
          have O3 := Lib.hid (ho3.base (show w.heap.size ≤ _ by omega))
          clear ho3 hb3
          go_simp
          refine hK _ _ SB.out ?_
          clear hK K
          (refine T_hv rfl (by kernel_rfl) (fun K hK => ?_); go_simp)
          go_at_call 93
          refine (LC.out _).mono ?_
          rintro e w4 ⟨rfl, rfl⟩
          (go_simp; refine hK _ _ ?_; clear hK K)
          (repeat (refine T_lp rfl (fun K hK => ?_); go_simp; refine hK _ ?_; clear hK K))
          refine T_lsg (v := .int .i64 b) rfl rfl SB.out (fun x hx => (by have h1 := (FX.out x hx).2; go_simp)) (fun K hK => ?_)
          (go_simp; refine hK _ ?_; clear hK K)
          (repeat (refine T_lp rfl (fun K hK => ?_); go_simp; refine hK _ ?_; clear hK K))
          refine T_done ?_
          go_wp2
          go_ret2
          exact ⟨A2, c2, pCon a, by rw [E.out]; rfl, O3.out, fun _ => P.out.symm, xb.trans (SB.out.mono (by omega))⟩
      | true =>
        cases ca with
        | false =>
          go_enter Try.func116, Try.ntmps116
          go_wp2_with fail
          go_at_call 93
          generalize hw1 : World.alloc w _ = w1
          obtain ⟨x0, x1, x2, xs, xb⟩ := box3 hw1
          clear hw1
          refine (LA.out _).mono ?_
          rintro e w2 ⟨rfl, rfl⟩
          go_wp2_with fail
          go_at_call 93
          refine (LB.out _).mono ?_
          rintro e w2 ⟨rfl, rfl⟩
          have FX := Lib.hid (show ∀ x, Below w1.heap.size w1 x → x.cell? ⟨w.heap.size, 1, none⟩ = some (.int .i64 a) ∧ x.cell? ⟨w.heap.size, 2, none⟩ = some (.int .i64 b) from fun x hx => ⟨(hx.cell (p := ⟨w.heap.size, 1, none⟩) (by simp only []; omega)).trans x1, (hx.cell (p := ⟨w.heap.size, 2, none⟩) (by simp only []; omega)).trans x2⟩)
          have SD := Lib.hid (show Below w1.heap.size w1 w1.drew from (Below.refl _ _).drew)
          go_wp2
          refine wp_region_T (fun x : World => Below w1.heap.size w1 x) [0, 1, 4, 5, 7, 8, 9, 10, 11, 12, 13] [1, 5, 9] (.lp 0 (.lp 4 (.ls 1 (.ls 5 (.hv 2 (.hv 3 (.hv 6 (.lp 7 (.lp 8 (.lp 12 (.ls 9 (.lp 10 (.lp 11 (.lp 13 (.done))))))))))))))) (by kernel_rfl) (by kernel_rfl) ?_
          generalize World.drew w1 = wd at SD ⊢
          have hsd := SD.out.size
          (repeat (refine T_lp rfl (fun K hK => ?_); go_simp; refine hK _ ?_; clear hK K))
          refine T_ls1 (v := .int .i64 a) rfl rfl SD.out (fun x hx => (by have h1 := (FX.out x hx).1; go_simp)) (fun K hK => ?_)
          (go_simp; refine hK _ ?_; clear hK K)
          refine T_ls1 (v := .int .i64 a) rfl rfl SD.out (fun x hx => (by have h1 := (FX.out x hx).1; go_simp)) (fun K hK => ?_)
          (go_simp; refine hK _ ?_; clear hK K)
          refine T_hvS rfl (fun K hK => ?_)
          go_simp
          refine hK _ _ (SD.out.alloc SD.out.size _) ?_
          clear hK K
          refine T_hvS rfl (fun K hK => ?_)
          go_simp
          go_at_call 142
          refine (const_trim a wd).mono ?_
          rintro e w3 ⟨A2, c2, rfl, ho3, hb3⟩
          have SB := Lib.hid (SD.out.trans (hb3.mono SD.out.size))
          have O3 := Lib.hid (ho3.base (show w.heap.size ≤ _ by omega))
          clear ho3 hb3
          go_simp
          refine hK _ _ SB.out ?_
          clear hK K
          (refine T_hv rfl (by kernel_rfl) (fun K hK => ?_); go_simp)
          go_at_call 93
          refine (LC.out _).mono ?_
          rintro e w4 ⟨rfl, rfl⟩
          (go_simp; refine hK _ _ ?_; clear hK K)
          (repeat (refine T_lp rfl (fun K hK => ?_); go_simp; refine hK _ ?_; clear hK K))
          refine T_lsn rfl rfl SB.out (fun K hK => ?_)
          (go_simp; refine hK _ ?_; clear hK K)
          (repeat (refine T_lp rfl (fun K hK => ?_); go_simp; refine hK _ ?_; clear hK K))
          refine T_done ?_
          go_wp2
          go_ret2
          exact ⟨A2, c2, pCon a, by rw [E.out]; rfl, O3.out, fun _ => P.out.symm, xb.trans (SB.out.mono (by omega))⟩
        | true =>
          go_enter Try.func116, Try.ntmps116
          go_wp2_with fail
          go_at_call 93
          generalize hw1 : World.alloc w _ = w1
          obtain ⟨x0, x1, x2, xs, xb⟩ := box3 hw1
          clear hw1
          refine (LA.out _).mono ?_
          rintro e w2 ⟨rfl, rfl⟩
          go_wp2_with fail
          go_at_call 93
          refine (LB.out _).mono ?_
          rintro e w2 ⟨rfl, rfl⟩
          have FX := Lib.hid (show ∀ x, Below w1.heap.size w1 x → x.cell? ⟨w.heap.size, 1, none⟩ = some (.int .i64 a) ∧ x.cell? ⟨w.heap.size, 2, none⟩ = some (.int .i64 b) from fun x hx => ⟨(hx.cell (p := ⟨w.heap.size, 1, none⟩) (by simp only []; omega)).trans x1, (hx.cell (p := ⟨w.heap.size, 2, none⟩) (by simp only []; omega)).trans x2⟩)
          have SD := Lib.hid (show Below w1.heap.size w1 w1.drew from (Below.refl _ _).drew)
          go_wp2
          refine wp_region_T (fun x : World => Below w1.heap.size w1 x) [0, 1, 4, 5, 7, 8, 9, 10, 11, 12, 13] [1, 5, 9] (.lp 0 (.lp 4 (.ls 1 (.ls 5 (.hv 2 (.hv 3 (.hv 6 (.lp 7 (.lp 8 (.lp 12 (.ls 9 (.lp 10 (.lp 11 (.lp 13 (.done))))))))))))))) (by kernel_rfl) (by kernel_rfl) ?_
          generalize World.drew w1 = wd at SD ⊢
          have hsd := SD.out.size
          (repeat (refine T_lp rfl (fun K hK => ?_); go_simp; refine hK _ ?_; clear hK K))
          refine T_ls1 (v := .int .i64 a) rfl rfl SD.out (fun x hx => (by have h1 := (FX.out x hx).1; go_simp)) (fun K hK => ?_)
          (go_simp; refine hK _ ?_; clear hK K)
          refine T_ls1 (v := .int .i64 a) rfl rfl SD.out (fun x hx => (by have h1 := (FX.out x hx).1; go_simp)) (fun K hK => ?_)
          (go_simp; refine hK _ ?_; clear hK K)
          refine T_hvS rfl (fun K hK => ?_)
          go_simp
          refine hK _ _ (SD.out.alloc SD.out.size _) ?_
          clear hK K
          refine T_hvS rfl (fun K hK => ?_)
          go_simp
          go_at_call 142
          refine (const_trim a wd).mono ?_
          rintro e w3 ⟨A2, c2, rfl, ho3, hb3⟩
          have SB := Lib.hid (SD.out.trans (hb3.mono SD.out.size))
          have O3 := Lib.hid (ho3.base (show w.heap.size ≤ _ by omega))
          clear ho3 hb3
          go_simp
          refine hK _ _ SB.out ?_
          clear hK K
          (refine T_hv rfl (by kernel_rfl) (fun K hK => ?_); go_simp)
          go_at_call 93
          refine (LC.out _).mono ?_
          rintro e w4 ⟨rfl, rfl⟩
          (go_simp; refine hK _ _ ?_; clear hK K)
          (repeat (refine T_lp rfl (fun K hK => ?_); go_simp; refine hK _ ?_; clear hK K))
          refine T_lsg (v := .int .i64 b) rfl rfl SB.out (fun x hx => (by have h1 := (FX.out x hx).2; go_simp)) (fun K hK => ?_)
          (go_simp; refine hK _ ?_; clear hK K)
          (repeat (refine T_lp rfl (fun K hK => ?_); go_simp; refine hK _ ?_; clear hK K))
          refine T_done ?_
          go_wp2
          go_ret2
          exact ⟨A2, c2, pCon a, by rw [E.out]; rfl, O3.out, fun _ => P.out.symm, xb.trans (SB.out.mono (by omega))⟩
  have k0' := k0
  clear k0
  have q0 : (k == 0) = false := by simpa using k0'
  by_cases k0 : k = 1
  · have E := Lib.hid (show opOk (k, a, b) r.length = (va && vb) by rw [OK.out, if_neg k0', if_pos (.inl k0)])
    have q1 : (k == 1) = true := by simpa using k0
    have q2 : (k == 2) = false := by rw [k0]; rfl
    have q3 : (k == 3) = false := by rw [k0]; rfl
    cases va with
    | false =>
      clear hva hvb hca hcb k0 k0'
      go_enter Try.func116, Try.ntmps116
      go_wp2_with fail
      go_at_call 93
      generalize hw1 : World.alloc w _ = w1
      obtain ⟨x0, x1, x2, xs, xb⟩ := box3 hw1
      clear hw1
      refine (LA.out _).mono ?_
      rintro e w2 ⟨rfl, rfl⟩
      go_wp2
      go_ret2
      exact ⟨none, 0, [], by rw [E.out]; rfl, OwI.nil _ _, (fun h => by rw [E.out] at h; cases h), xb⟩
    | true =>
      cases vb with
      | false =>
        clear hva hvb hca hcb k0 k0'
        go_enter Try.func116, Try.ntmps116
        go_wp2_with fail
        go_at_call 93
        generalize hw1 : World.alloc w _ = w1
        obtain ⟨x0, x1, x2, xs, xb⟩ := box3 hw1
        clear hw1
        refine (LA.out _).mono ?_
        rintro e w2 ⟨rfl, rfl⟩
        go_wp2_with fail
        go_at_call 93
        refine (LB.out _).mono ?_
        rintro e w2 ⟨rfl, rfl⟩
        go_wp2
        go_ret2
        exact ⟨none, 0, [], by rw [E.out]; rfl, OwI.nil _ _, (fun h => by rw [E.out] at h; cases h), xb⟩
      | true =>
        clear k0'
        obtain ⟨i, rfl, hi⟩ := INR.out a hva
        obtain ⟨j, rfl, hj⟩ := INR.out b hvb
        obtain ⟨g, off, rfl, hg, hci⟩ := ROW.out i hi
        obtain ⟨g', off', hA', _, hcj⟩ := ROW.out j hj
        injection hA' with hA'
        injection hA' with hA1 hA2
        subst hA1
        subst hA2
        have PS := Lib.hid (fun (W : World) (hb : Below w.heap.size w W) => poSum_any B (f i).1 (f j).1 (f i).2 (f j).2 (r.getD i []) (r.getD j []) W (getD_fit FIT.out i) (getD_fit FIT.out j) (by have := hb.size; omega) ((HR.out.2 i hi).1.below' hb hB) ((HR.out.2 j hj).1.below' hb hB))
        have CI := Lib.hid (fun (W : World) (hb : Below w.heap.size w W) => (hb.cell (p := ⟨g, off + i, none⟩) (by simp only []; omega)).trans hci)
        have CJ := Lib.hid (fun (W : World) (hb : Below w.heap.size w W) => (hb.cell (p := ⟨g, off + j, none⟩) (by simp only []; omega)).trans hcj)
        obtain ⟨Fi, hFi⟩ : ∃ F, f i = F := ⟨_, rfl⟩
        obtain ⟨ri, hri⟩ : ∃ x, r.getD i [] = x := ⟨_, rfl⟩
        rw [hFi, hri] at PS CI
        have P := Lib.hid (show pSum (r.getD i []) (r.getD j []) = opP (k, (i : Int), (j : Int)) r by rw [k0]; rfl)
        obtain ⟨Fj, hFj⟩ : ∃ F, f j = F := ⟨_, rfl⟩
        obtain ⟨rj, hrj⟩ : ∃ x, r.getD j [] = x := ⟨_, rfl⟩
        rw [hFj, hrj] at CJ PS
        rw [hri, hrj] at P
        obtain ⟨X, hX⟩ : ∃ X, pSum ri rj = X := ⟨_, rfl⟩
        rw [hX] at P PS
        have ii : (i : Int) < (r.length : Int) := by omega
        have ij : (j : Int) < (r.length : Int) := by omega
        clear hva hvb hca hcb hFi hri hX k0 hi hci hFj hrj hj hcj
        go_enter Try.func116, Try.ntmps116
        go_wp2_with fail
        go_at_call 93
        generalize hw1 : World.alloc w _ = w1
        obtain ⟨x0, x1, x2, xs, xb⟩ := box3 hw1
        clear hw1
        refine (LA.out _).mono ?_
        rintro e w2 ⟨rfl, rfl⟩
        go_wp2_with fail
        go_at_call 93
        refine (LB.out _).mono ?_
        rintro e w2 ⟨rfl, rfl⟩
        have ci := CI.out w1 xb
        have cj := CJ.out w1 xb
        go_wp2
        refine wp_region_Tw [0, 1, 2, 3, 4, 5, 6, 7, 8, 9, 11, 12] [2, 4, 7, 9] (.lp 0 (.lp 1 (.lp 5 (.lp 6 (.ls 2 (.lp 3 (.ls 4 (.ls 7 (.lp 8 (.ls 9 (.hv 10 (.lp 11 (.lp 12 (.done)))))))))))))) (by kernel_rfl) (by kernel_rfl) ?_
        (repeat (first | (refine T_lp rfl (fun K hK => ?_); go_simp; refine hK _ ?_; clear hK K) | (refine T_ls rfl rfl (fun K hK => ?_); go_simp; refine hK _ ?_; clear hK K)))
        (refine T_hv rfl (by kernel_rfl) (fun K hK => ?_); go_simp)
        go_at_call 143
        refine (PS.out _ xb.drew).mono ?_
        rintro e w3 ⟨A2, c2, rfl, ho3, hb3⟩
        have O3 := Lib.hid (ho3.base (show w.heap.size ≤ _ by simp; omega))
        have B3 := Lib.hid ((xb.drew).trans (hb3.mono (by simp; omega)))
        clear ho3 hb3
        (go_simp; refine hK _ _ ?_; clear hK K)
        (repeat (first | (refine T_lp rfl (fun K hK => ?_); go_simp; refine hK _ ?_; clear hK K) | (refine T_ls rfl rfl (fun K hK => ?_); go_simp; refine hK _ ?_; clear hK K)))
        refine T_done ?_
        go_wp2
        go_ret2
        exact ⟨A2, c2, X, by rw [E.out]; rfl, O3.out, fun _ => P.out, B3.out⟩
  have k1' := k0
  clear k0
  have q1 : (k == 1) = false := by simpa using k1'
  by_cases k0 : k = 2
  · have E := Lib.hid (show opOk (k, a, b) r.length = (va && cb) by rw [OK.out, if_neg k0', if_neg (by omega), if_pos k0])
    have q2 : (k == 2) = true := by simpa using k0
    have q3 : (k == 3) = false := by rw [k0]; rfl
    cases va with
    | false =>
      clear hva hvb hca hcb k0 k0' k1'
      go_enter Try.func116, Try.ntmps116
      go_wp2_with fail
      go_at_call 93
      generalize hw1 : World.alloc w _ = w1
      obtain ⟨x0, x1, x2, xs, xb⟩ := box3 hw1
      clear hw1
      refine (LA.out _).mono ?_
      rintro e w2 ⟨rfl, rfl⟩
      go_wp2
      go_ret2
      exact ⟨none, 0, [], by rw [E.out]; rfl, OwI.nil _ _, (fun h => by rw [E.out] at h; cases h), xb⟩
    | true =>
      cases vb with
      | false =>
        cases cb with
        | false =>
          clear hva hvb hca hcb k0 k0' k1'
          go_enter Try.func116, Try.ntmps116
          go_wp2_with fail
          go_at_call 93
          generalize hw1 : World.alloc w _ = w1
          obtain ⟨x0, x1, x2, xs, xb⟩ := box3 hw1
          clear hw1
          refine (LA.out _).mono ?_
          rintro e w2 ⟨rfl, rfl⟩
          go_wp2_with fail
          go_at_call 93
          refine (LB.out _).mono ?_
          rintro e w2 ⟨rfl, rfl⟩
          go_wp2_with fail
          go_at_call 93
          refine (LD.out _).mono ?_
          rintro e w2 ⟨rfl, rfl⟩
          go_wp2
          go_ret2
          exact ⟨none, 0, [], by rw [E.out]; rfl, OwI.nil _ _, (fun h => by rw [E.out] at h; cases h), xb⟩
        | true =>
          clear k0' k1'
          obtain ⟨i, rfl, hi⟩ := INR.out a hva
          obtain ⟨g, off, rfl, hg, hci⟩ := ROW.out i hi
          have PS := Lib.hid (fun (W : World) (A' : Option Addr) (c' : Nat) (hb : Below w.heap.size w W) h' => poProduct_any W.heap.size (f i).1 A' (f i).2 c' (r.getD i []) (pCon b) W (getD_fit FIT.out i) (pCon_fit (isC_iff.1 hcb)) (Nat.le_refl _) (((HR.out.2 i hi).1.below' hb hB).more (by have := hb.size; omega)) h')
          have CI := Lib.hid (fun (W : World) (hb : Below w.heap.size w W) => (hb.cell (p := ⟨g, off + i, none⟩) (by simp only []; omega)).trans hci)
          obtain ⟨Fi, hFi⟩ : ∃ F, f i = F := ⟨_, rfl⟩
          obtain ⟨ri, hri⟩ : ∃ x, r.getD i [] = x := ⟨_, rfl⟩
          rw [hFi, hri] at PS CI
          have P := Lib.hid (show pMul (r.getD i []) (pCon b) = opP (k, (i : Int), b) r by rw [k0]; rfl)
          rw [hri] at P
          obtain ⟨X, hX⟩ : ∃ X, pMul ri (pCon b) = X := ⟨_, rfl⟩
          rw [hX] at P PS
          have ii : (i : Int) < (r.length : Int) := by omega
          clear hva hvb hca hcb hFi hri hX k0 hi hci
          go_enter Try.func116, Try.ntmps116
          go_wp2_with fail
          go_at_call 93
          generalize hw1 : World.alloc w _ = w1
          obtain ⟨x0, x1, x2, xs, xb⟩ := box3 hw1
          clear hw1
          refine (LA.out _).mono ?_
          rintro e w2 ⟨rfl, rfl⟩
          go_wp2_with fail
          go_at_call 93
          refine (LB.out _).mono ?_
          rintro e w2 ⟨rfl, rfl⟩
          go_wp2_with fail
          go_at_call 93
          refine (LD.out _).mono ?_
          rintro e w2 ⟨rfl, rfl⟩
          have ci := CI.out w1 xb
          have FX := Lib.hid (show ∀ x, Below w1.heap.size w1 x → x.cell? ⟨w.heap.size, 1, none⟩ = some (.int .i64 (i : Int)) ∧ x.cell? ⟨w.heap.size, 2, none⟩ = some (.int .i64 b) ∧ x.cell? ⟨g, off + i, none⟩ = some (.slice Fi.1 ri.length Fi.2) from fun x hx => ⟨(hx.cell (p := ⟨w.heap.size, 1, none⟩) (by simp only []; omega)).trans x1, (hx.cell (p := ⟨w.heap.size, 2, none⟩) (by simp only []; omega)).trans x2, CI.out x (xb.trans (hx.mono (by omega)))⟩)
          have SD := Lib.hid (show Below w1.heap.size w1 w1.drew from (Below.refl _ _).drew)
          go_wp2
          refine wp_region_T (fun x : World => Below w1.heap.size w1 x) [0, 1, 2, 3, 4, 5, 6, 10, 11] [2, 4, 6] (.lp 0 (.lp 1 (.lp 5 (.ls 2 (.lp 3 (.ls 4 (.ls 6 (.hv 7 (.hv 8 (.hv 9 (.lp 10 (.lp 11 (.done))))))))))))) (by kernel_rfl) (by kernel_rfl) ?_
          generalize World.drew w1 = wd at SD ⊢
          have hsd := SD.out.size
          (repeat (refine T_lp rfl (fun K hK => ?_); go_simp; refine hK _ ?_; clear hK K))
          refine T_ls1 (v := .int .i64 (i : Int)) rfl rfl SD.out (fun x hx => (by have h1 := (FX.out x hx).1; go_simp)) (fun K hK => ?_)
          (go_simp; refine hK _ ?_; clear hK K)
          (repeat (refine T_lp rfl (fun K hK => ?_); go_simp; refine hK _ ?_; clear hK K))
          refine T_ls1 (v := .slice Fi.1 ri.length Fi.2) rfl rfl SD.out (fun x hx => (by have h1 := (FX.out x hx).2.2; go_simp)) (fun K hK => ?_)
          (go_simp; refine hK _ ?_; clear hK K)
          refine T_ls1 (v := .int .i64 b) rfl rfl SD.out (fun x hx => (by have h1 := (FX.out x hx).2.1; go_simp)) (fun K hK => ?_)
          (go_simp; refine hK _ ?_; clear hK K)
          refine T_hvS rfl (fun K hK => ?_)
          go_simp
          refine hK _ _ (SD.out.alloc SD.out.size _) ?_
          clear hK K
          refine T_hvS rfl (fun K hK => ?_)
          go_simp
          go_at_call 142
          refine (const_trim b wd).mono ?_
          rintro e w3 ⟨A5, c5, rfl, ho3, hb3⟩
          have SB := Lib.hid (SD.out.trans (hb3.mono SD.out.size))
          have O5 := Lib.hid ho3
          have hs3 := SB.out.size
          clear ho3 hb3
          go_simp
          refine hK _ _ SB.out ?_
          clear hK K
          (refine T_hv rfl (by kernel_rfl) (fun K hK => ?_); go_simp)
          go_at_call 144
          refine (PS.out w3 A5 c5 (xb.trans (SB.out.mono (by omega))) O5.out.rd).mono ?_
          rintro e w4 ⟨A2, c2, rfl, ho4, hb4⟩
          have O3 := Lib.hid (ho4.base (show w.heap.size ≤ w3.heap.size by omega))
          have B3 := Lib.hid ((xb.trans (SB.out.mono (by omega))).trans (hb4.mono (by omega)))
          clear ho4 hb4
          (go_simp; refine hK _ _ ?_; clear hK K)
          (repeat (refine T_lp rfl (fun K hK => ?_); go_simp; refine hK _ ?_; clear hK K))
          refine T_done ?_
          go_wp2
          go_ret2
          exact ⟨A2, c2, X, by rw [E.out]; rfl, O3.out, fun _ => P.out, B3.out⟩
      | true =>
        cases cb with
        | false =>
          clear hva hvb hca hcb k0 k0' k1'
          go_enter Try.func116, Try.ntmps116
          go_wp2_with fail
          go_at_call 93
          generalize hw1 : World.alloc w _ = w1
          obtain ⟨x0, x1, x2, xs, xb⟩ := box3 hw1
          clear hw1
          refine (LA.out _).mono ?_
          rintro e w2 ⟨rfl, rfl⟩
          go_wp2_with fail
          go_at_call 93
          refine (LB.out _).mono ?_
          rintro e w2 ⟨rfl, rfl⟩
          go_wp2_with fail
          go_at_call 93
          refine (LD.out _).mono ?_
          rintro e w2 ⟨rfl, rfl⟩
          go_wp2
          go_ret2
          exact ⟨none, 0, [], by rw [E.out]; rfl, OwI.nil _ _, (fun h => by rw [E.out] at h; cases h), xb⟩
        | true =>
          clear k0' k1'
          obtain ⟨i, rfl, hi⟩ := INR.out a hva
          obtain ⟨g, off, rfl, hg, hci⟩ := ROW.out i hi
          have PS := Lib.hid (fun (W : World) (A' : Option Addr) (c' : Nat) (hb : Below w.heap.size w W) h' => poProduct_any W.heap.size (f i).1 A' (f i).2 c' (r.getD i []) (pCon b) W (getD_fit FIT.out i) (pCon_fit (isC_iff.1 hcb)) (Nat.le_refl _) (((HR.out.2 i hi).1.below' hb hB).more (by have := hb.size; omega)) h')
          have CI := Lib.hid (fun (W : World) (hb : Below w.heap.size w W) => (hb.cell (p := ⟨g, off + i, none⟩) (by simp only []; omega)).trans hci)
          obtain ⟨Fi, hFi⟩ : ∃ F, f i = F := ⟨_, rfl⟩
          obtain ⟨ri, hri⟩ : ∃ x, r.getD i [] = x := ⟨_, rfl⟩
          rw [hFi, hri] at PS CI
          have P := Lib.hid (show pMul (r.getD i []) (pCon b) = opP (k, (i : Int), b) r by rw [k0]; rfl)
          rw [hri] at P
          obtain ⟨X, hX⟩ : ∃ X, pMul ri (pCon b) = X := ⟨_, rfl⟩
          rw [hX] at P PS
          have ii : (i : Int) < (r.length : Int) := by omega
          clear hva hvb hca hcb hFi hri hX k0 hi hci
          go_enter Try.func116, Try.ntmps116
          go_wp2_with fail
          go_at_call 93
          generalize hw1 : World.alloc w _ = w1
          obtain ⟨x0, x1, x2, xs, xb⟩ := box3 hw1
          clear hw1
          refine (LA.out _).mono ?_
          rintro e w2 ⟨rfl, rfl⟩
          go_wp2_with fail
          go_at_call 93
          refine (LB.out _).mono ?_
          rintro e w2 ⟨rfl, rfl⟩
          go_wp2_with fail
          go_at_call 93
          refine (LD.out _).mono ?_
          rintro e w2 ⟨rfl, rfl⟩
          have ci := CI.out w1 xb
          have FX := Lib.hid (show ∀ x, Below w1.heap.size w1 x → x.cell? ⟨w.heap.size, 1, none⟩ = some (.int .i64 (i : Int)) ∧ x.cell? ⟨w.heap.size, 2, none⟩ = some (.int .i64 b) ∧ x.cell? ⟨g, off + i, none⟩ = some (.slice Fi.1 ri.length Fi.2) from fun x hx => ⟨(hx.cell (p := ⟨w.heap.size, 1, none⟩) (by simp only []; omega)).trans x1, (hx.cell (p := ⟨w.heap.size, 2, none⟩) (by simp only []; omega)).trans x2, CI.out x (xb.trans (hx.mono (by omega)))⟩)
          have SD := Lib.hid (show Below w1.heap.size w1 w1.drew from (Below.refl _ _).drew)
          go_wp2
          refine wp_region_T (fun x : World => Below w1.heap.size w1 x) [0, 1, 2, 3, 4, 5, 6, 10, 11] [2, 4, 6] (.lp 0 (.lp 1 (.lp 5 (.ls 2 (.lp 3 (.ls 4 (.ls 6 (.hv 7 (.hv 8 (.hv 9 (.lp 10 (.lp 11 (.done))))))))))))) (by kernel_rfl) (by kernel_rfl) ?_
          generalize World.drew w1 = wd at SD ⊢
          have hsd := SD.out.size
          (repeat (refine T_lp rfl (fun K hK => ?_); go_simp; refine hK _ ?_; clear hK K))
          refine T_ls1 (v := .int .i64 (i : Int)) rfl rfl SD.out (fun x hx => (by have h1 := (FX.out x hx).1; go_simp)) (fun K hK => ?_)
          (go_simp; refine hK _ ?_; clear hK K)
          (repeat (refine T_lp rfl (fun K hK => ?_); go_simp; refine hK _ ?_; clear hK K))
          refine T_ls1 (v := .slice Fi.1 ri.length Fi.2) rfl rfl SD.out (fun x hx => (by have h1 := (FX.out x hx).2.2; go_simp)) (fun K hK => ?_)
          (go_simp; refine hK _ ?_; clear hK K)
          refine T_ls1 (v := .int .i64 b) rfl rfl SD.out (fun x hx => (by have h1 := (FX.out x hx).2.1; go_simp)) (fun K hK => ?_)
          (go_simp; refine hK _ ?_; clear hK K)
          refine T_hvS rfl (fun K hK => ?_)
          go_simp
          refine hK _ _ (SD.out.alloc SD.out.size _) ?_
          clear hK K
          refine T_hvS rfl (fun K hK => ?_)
          go_simp
          go_at_call 142
          refine (const_trim b wd).mono ?_
          rintro e w3 ⟨A5, c5, rfl, ho3, hb3⟩
          have SB := Lib.hid (SD.out.trans (hb3.mono SD.out.size))
          have O5 := Lib.hid ho3
          have hs3 := SB.out.size
          clear ho3 hb3
          go_simp
          refine hK _ _ SB.out ?_
          clear hK K
          (refine T_hv rfl (by kernel_rfl) (fun K hK => ?_); go_simp)
          go_at_call 144
          refine (PS.out w3 A5 c5 (xb.trans (SB.out.mono (by omega))) O5.out.rd).mono ?_
          rintro e w4 ⟨A2, c2, rfl, ho4, hb4⟩
          have O3 := Lib.hid (ho4.base (show w.heap.size ≤ w3.heap.size by omega))
          have B3 := Lib.hid ((xb.trans (SB.out.mono (by omega))).trans (hb4.mono (by omega)))
          clear ho4 hb4
          (go_simp; refine hK _ _ ?_; clear hK K)
          (repeat (refine T_lp rfl (fun K hK => ?_); go_simp; refine hK _ ?_; clear hK K))
          refine T_done ?_
          go_wp2
          go_ret2
          exact ⟨A2, c2, X, by rw [E.out]; rfl, O3.out, fun _ => P.out, B3.out⟩
  have k2' := k0
  clear k0
  have q2 : (k == 2) = false := by simpa using k2'
  by_cases k0 : k = 3
  · have E := Lib.hid (show opOk (k, a, b) r.length = (va && vb) by rw [OK.out, if_neg k0', if_pos (.inr k0)])
    have q3 : (k == 3) = true := by simpa using k0
    cases va with
    | false =>
      clear hva hvb hca hcb k0 k0' k1' k2'
      go_enter Try.func116, Try.ntmps116
      go_wp2_with fail
      go_at_call 93
      generalize hw1 : World.alloc w _ = w1
      obtain ⟨x0, x1, x2, xs, xb⟩ := box3 hw1
      clear hw1
      refine (LA.out _).mono ?_
      rintro e w2 ⟨rfl, rfl⟩
      go_wp2
      go_ret2
      exact ⟨none, 0, [], by rw [E.out]; rfl, OwI.nil _ _, (fun h => by rw [E.out] at h; cases h), xb⟩
    | true =>
      cases vb with
      | false =>
        clear hva hvb hca hcb k0 k0' k1' k2'
        go_enter Try.func116, Try.ntmps116
        go_wp2_with fail
        go_at_call 93
        generalize hw1 : World.alloc w _ = w1
        obtain ⟨x0, x1, x2, xs, xb⟩ := box3 hw1
        clear hw1
        refine (LA.out _).mono ?_
        rintro e w2 ⟨rfl, rfl⟩
        go_wp2_with fail
        go_at_call 93
        refine (LB.out _).mono ?_
        rintro e w2 ⟨rfl, rfl⟩
        go_wp2
        go_ret2
        exact ⟨none, 0, [], by rw [E.out]; rfl, OwI.nil _ _, (fun h => by rw [E.out] at h; cases h), xb⟩
      | true =>
        clear k0' k1' k2'
        obtain ⟨i, rfl, hi⟩ := INR.out a hva
        obtain ⟨j, rfl, hj⟩ := INR.out b hvb
        obtain ⟨g, off, rfl, hg, hci⟩ := ROW.out i hi
        obtain ⟨g', off', hA', _, hcj⟩ := ROW.out j hj
        injection hA' with hA'
        injection hA' with hA1 hA2
        subst hA1
        subst hA2
        have PS := Lib.hid (fun (W : World) (hb : Below w.heap.size w W) => poProduct_any B (f i).1 (f j).1 (f i).2 (f j).2 (r.getD i []) (r.getD j []) W (getD_fit FIT.out i) (getD_fit FIT.out j) (by have := hb.size; omega) ((HR.out.2 i hi).1.below' hb hB) ((HR.out.2 j hj).1.below' hb hB))
        have CI := Lib.hid (fun (W : World) (hb : Below w.heap.size w W) => (hb.cell (p := ⟨g, off + i, none⟩) (by simp only []; omega)).trans hci)
        have CJ := Lib.hid (fun (W : World) (hb : Below w.heap.size w W) => (hb.cell (p := ⟨g, off + j, none⟩) (by simp only []; omega)).trans hcj)
        obtain ⟨Fi, hFi⟩ : ∃ F, f i = F := ⟨_, rfl⟩
        obtain ⟨ri, hri⟩ : ∃ x, r.getD i [] = x := ⟨_, rfl⟩
        rw [hFi, hri] at PS CI
        have P := Lib.hid (show pMul (r.getD i []) (r.getD j []) = opP (k, (i : Int), (j : Int)) r by rw [k0]; rfl)
        obtain ⟨Fj, hFj⟩ : ∃ F, f j = F := ⟨_, rfl⟩
        obtain ⟨rj, hrj⟩ : ∃ x, r.getD j [] = x := ⟨_, rfl⟩
        rw [hFj, hrj] at CJ PS
        rw [hri, hrj] at P
        obtain ⟨X, hX⟩ : ∃ X, pMul ri rj = X := ⟨_, rfl⟩
        rw [hX] at P PS
        have ii : (i : Int) < (r.length : Int) := by omega
        have ij : (j : Int) < (r.length : Int) := by omega
        clear hva hvb hca hcb hFi hri hX k0 hi hci hFj hrj hj hcj
        go_enter Try.func116, Try.ntmps116
        go_wp2_with fail
        go_at_call 93
        generalize hw1 : World.alloc w _ = w1
        obtain ⟨x0, x1, x2, xs, xb⟩ := box3 hw1
        clear hw1
        refine (LA.out _).mono ?_
        rintro e w2 ⟨rfl, rfl⟩
        go_wp2_with fail
        go_at_call 93
        refine (LB.out _).mono ?_
        rintro e w2 ⟨rfl, rfl⟩
        have ci := CI.out w1 xb
        have cj := CJ.out w1 xb
        go_wp2
        refine wp_region_Tw [0, 1, 2, 3, 4, 5, 6, 7, 8, 9, 11, 12] [2, 4, 7, 9] (.lp 0 (.lp 1 (.lp 5 (.lp 6 (.ls 2 (.lp 3 (.ls 4 (.ls 7 (.lp 8 (.ls 9 (.hv 10 (.lp 11 (.lp 12 (.done)))))))))))))) (by kernel_rfl) (by kernel_rfl) ?_
        (repeat (first | (refine T_lp rfl (fun K hK => ?_); go_simp; refine hK _ ?_; clear hK K) | (refine T_ls rfl rfl (fun K hK => ?_); go_simp; refine hK _ ?_; clear hK K)))
        (refine T_hv rfl (by kernel_rfl) (fun K hK => ?_); go_simp)
        go_at_call 144
        refine (PS.out _ xb.drew).mono ?_
        rintro e w3 ⟨A2, c2, rfl, ho3, hb3⟩
        have O3 := Lib.hid (ho3.base (show w.heap.size ≤ _ by simp; omega))
        have B3 := Lib.hid ((xb.drew).trans (hb3.mono (by simp; omega)))
        clear ho3 hb3
        (go_simp; refine hK _ _ ?_; clear hK K)
        (repeat (first | (refine T_lp rfl (fun K hK => ?_); go_simp; refine hK _ ?_; clear hK K) | (refine T_ls rfl rfl (fun K hK => ?_); go_simp; refine hK _ ?_; clear hK K)))
        refine T_done ?_
        go_wp2
        go_ret2
        exact ⟨A2, c2, X, by rw [E.out]; rfl, O3.out, fun _ => P.out, B3.out⟩
  have k3' := k0
  clear k0
  have q3 : (k == 3) = false := by simpa using k3'
  have E := Lib.hid (show opOk (k, a, b) r.length = false by rw [OK.out, if_neg k0', if_neg (by omega), if_neg k2'])
  clear hva hvb hca hcb k0' k1' k2' k3'
  cases va with
  | false =>
    go_enter Try.func116, Try.ntmps116
    go_wp2_with fail
    go_at_call 93
    generalize hw1 : World.alloc w _ = w1
    obtain ⟨x0, x1, x2, xs, xb⟩ := box3 hw1
    clear hw1
    refine (LA.out _).mono ?_
    rintro e w2 ⟨rfl, rfl⟩
    go_wp2
    go_ret2
    exact ⟨none, 0, [], by rw [E.out]; rfl, OwI.nil _ _, (fun h => by rw [E.out] at h; cases h), xb⟩
  | true =>
    cases vb with
    | false =>
      go_enter Try.func116, Try.ntmps116
      go_wp2_with fail
      go_at_call 93
      generalize hw1 : World.alloc w _ = w1
      obtain ⟨x0, x1, x2, xs, xb⟩ := box3 hw1
      clear hw1
      refine (LA.out _).mono ?_
      rintro e w2 ⟨rfl, rfl⟩
      go_wp2_with fail
      go_at_call 93
      refine (LB.out _).mono ?_
      rintro e w2 ⟨rfl, rfl⟩
      go_wp2
      go_ret2
      exact ⟨none, 0, [], by rw [E.out]; rfl, OwI.nil _ _, (fun h => by rw [E.out] at h; cases h), xb⟩
    | true =>
      go_enter Try.func116, Try.ntmps116
      go_wp2_with fail
      go_at_call 93
      generalize hw1 : World.alloc w _ = w1
      obtain ⟨x0, x1, x2, xs, xb⟩ := box3 hw1
      clear hw1
      refine (LA.out _).mono ?_
      rintro e w2 ⟨rfl, rfl⟩
      go_wp2_with fail
      go_at_call 93
      refine (LB.out _).mono ?_
      rintro e w2 ⟨rfl, rfl⟩
      go_wp2
      go_ret2
      exact ⟨none, 0, [], by rw [E.out]; rfl, OwI.nil _ _, (fun h => by rw [E.out] at h; cases h), xb⟩
end Go.Proofs.Ytpopomcaknbhnaa
