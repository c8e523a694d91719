/- IsAdders and RunAdders: of both programs. -/
import Derived.Test.YtbohakifjmdoiaaN9i
namespace Go.Proofs.Ytbohakifjmdoiaa
open Go.RowKit

set_option maxRecDepth 100000 in
set_option maxHeartbeats 8000000 in
theorem siValues_any (B : Nat) (A : Option Addr) (c : Nat) (l : List Ad) (x : Int) (w : World) (hB : B ≤ w.heap.size) (hlen : l.length ≤ 24)
    (hok : ∀ (k : Nat) (hk : k < l.length), okB k l[k] = true ∧ (∀ v ∈ vls x (l.take k), -4294967296 ≤ v ∧ v ≤ 4294967296)) (hr : RdA w B A l) :
    Calls Try.prog 79 #[.slice A l.length c, .int .i64 x] w fun e w' => ∃ A' c', e = .returned (.slice A' (vls x l).length c') ∧ OwI w' w.heap.size (.slice A' (vls x l).length c') (vls x l) ∧ Below w.heap.size w w' := by
  have H := Lib.hid hr
  have OK := Lib.hid hok
  have LIT := Lib.hid (own_lit9 w x)
  have LB := Lib.hid ((Below.refl w.heap.size w).alloc (Nat.le_refl _) (.cells #[.int .i64 x] 3))
  clear hr hok
  go_enter Try.func79, Try.ntmps79
  go_wp2
  go_loopw [5, 14] (fun mv iv wr => ∃ (k : Nat) (A1 : Option Addr) (c1 : Nat), k ≤ l.length ∧ iv = .int .i64 (k : Int) ∧ mv = .slice A1 (k + 1) c1 ∧ OwI wr w.heap.size (.slice A1 (k + 1) c1) (vls x (l.take k)) ∧ Below w.heap.size w wr) (fun _ iv _ => l.length - (intOf iv).toNat)
  case atStart => exact ⟨0, _, _, by omega, rfl, rfl, LIT.out, LB.out⟩
  case round =>
    obtain ⟨k, A1, c1, hk, rfl, rfl, hown, hbel⟩ := hrel
    have hs := hbel.size
    have BEL := Lib.hid hbel
    have OWN := Lib.hid hown
    have hvl : (vls x (l.take k)).length = k + 1 := by rw [vls_len, List.length_take]; omega
    clear hbel hown
    by_cases hlt : k < l.length
    · obtain ⟨b, off, rfl, hbb, hc1, hc2, hc3, hc4, hc5⟩ := (H.out.below' BEL.out hB).ad hlt
      have ik : (k : Int) < (l.length : Int) := by omega
      have VT := Lib.hid (vls_take (x := x) hlt)
      obtain ⟨ho, hbd⟩ := OK.out k hlt
      obtain ⟨a, ha⟩ : ∃ a, l[k] = a := ⟨_, rfl⟩
      rw [ha] at hc1 hc2 hc3 hc4 hc5 VT ho
      obtain ⟨acc, hacc⟩ : ∃ acc, vls x (l.take k) = acc := ⟨_, rfl⟩
      rw [hacc] at VT hbd OWN hvl
      have HVL := Lib.hid hvl
      clear ha hacc
      obtain ⟨ia, sa, ib, sb, m, rfl, p1, p2, p3, p4⟩ := okB_nat ho
      simp only at hc1 hc2 hc3 hc4 hc5
      have q1 : ia < acc.length := by omega
      have q2 : ib < acc.length := by omega
      have hb1 := shl_bd9 p3 (by omega) (hbd _ (List.getElem_mem q1))
      have hb2 := shl_bd9 p4 (by omega) (hbd _ (List.getElem_mem q2))
      have EV := Lib.hid (vlA_nat (sa := sa) (sb := sb) (m := m) q1 q2)
      obtain ⟨v, hv⟩ : ∃ v, vlA acc ((ia : Int), (sa : Int), (ib : Int), (sb : Int), m) = v := ⟨_, rfl⟩
      rw [hv] at VT EV
      clear hv ho hbd
      have hown1 : wr.ownsRow w.heap.size 3 1 (.slice A1 (k + 1) c1) (k + 1) (acc.map I) := by have h := OWN.out; unfold OwI at h; rwa [hvl] at h
      have HRD := Lib.hid (show Rd wr wr.heap.size 1 A1 acc.length (acc.map I) by rw [hvl]; exact Rd.of_own hown1)
      clear hown1
      obtain ⟨y1, hy1⟩ : ∃ y, acc[ia] = y := ⟨_, rfl⟩
      obtain ⟨y2, hy2⟩ : ∃ y, acc[ib] = y := ⟨_, rfl⟩
      rw [hy1] at hb1 EV
      rw [hy2] at hb2 EV
      obtain ⟨P, hP⟩ : ∃ P, y1 * 2 ^ sa = P := ⟨_, rfl⟩
      obtain ⟨Q, hQ⟩ : ∃ Q, y2 * 2 ^ sb = Q := ⟨_, rfl⟩
      rw [hP] at hb1 EV
      rw [hQ] at hb2 EV
      have e1 : IntKind.i64.wrap (y1 * 2 ^ sa) = P := by rw [hP]; exact IntWalk.i64_in _ (by omega)
      have e2 : IntKind.i64.wrap (y2 * 2 ^ sb) = Q := by rw [hQ]; exact IntWalk.i64_in _ (by omega)
      have is : (sa : Int) ≤ 64 := by omega
      have it : (sb : Int) ≤ 64 := by omega
      have i1 : (ia : Int) < (k : Int) + 1 := by omega
      have i2 : (ib : Int) < (k : Int) + 1 := by omega
      clear hP hQ
      go_wp2
      generalize hw1 : World.alloc wr _ = w1
      obtain ⟨x0, x1, x2, x3, x4, xs, xb⟩ := bx5 hw1
      clear hw1
      obtain ⟨b1, off1, eA1, hbb1, hd1⟩ := (HRD.out.below xb).int q1
      obtain ⟨b2, off2, eA2, hbb2, hd2⟩ := (HRD.out.below xb).int q2
      rw [hy1] at hd1
      rw [hy2] at hd2
      subst eA1
      cases eA2
      have XB := Lib.hid xb
      clear xb hc1 hc2 hc3 hc4 hc5 hy1 hy2 q1 q2 hvl
      refine wp_region_Tw [0, 1, 2, 3, 4, 5, 6, 7, 8] [2, 4, 6] (.lp 0 (.lp 1 (.lp 5 (.ls 2 (.lp 3 (.ls 4 (.ls 6 (.lp 7 (.lp 8 (.done)))))))))) (by kernel_rfl) (by kernel_rfl) ?_
      (repeat (first | (refine T_lp rfl (fun K hK => ?_); go_simp; refine hK _ ?_; clear hK K) | (refine T_ls rfl rfl (fun K hK => ?_); go_simp; refine hK _ ?_; clear hK K)))
      refine T_done ?_
      go_wp2
      refine wp_region_Tw [0, 1, 2, 3, 4, 5, 6, 7, 8] [2, 4, 6] (.lp 0 (.lp 1 (.lp 5 (.ls 2 (.lp 3 (.ls 4 (.ls 6 (.lp 7 (.lp 8 (.done)))))))))) (by kernel_rfl) (by kernel_rfl) ?_
      (repeat (first | (refine T_lp rfl (fun K hK => ?_); go_simp; refine hK _ ?_; clear hK K) | (refine T_ls rfl rfl (fun K hK => ?_); go_simp; refine hK _ ?_; clear hK K)))
      refine T_done ?_
      have OW3 := Lib.hid (show OwI w1.drew.drew w.heap.size (.slice (some ⟨b1, off1, none⟩) (k + 1) c1) acc from own_below OWN.out XB.out.drew.drew)
      have XB3 := Lib.hid (BEL.out.trans (XB.out.drew.drew.mono hs))
      have s3 : w1.drew.drew.heap.size = wr.heap.size + 1 := xs
      have x4 : w1.drew.drew.cell? ⟨wr.heap.size, 4, none⟩ = some (.bool m) := x4
      generalize World.drew (World.drew w1) = w3 at OW3 XB3 s3 x4 ⊢
      have S3 := Lib.hid (show wr.heap.size < w3.heap.size by omega)
      have S4 := Lib.hid (show w.heap.size ≤ w3.heap.size by omega)
      clear x0 x1 x2 x3 xs XB hd1 hd2 s3
      cases m with
      | true =>
        have hv : P - Q = v := EV.out.symm
        have e3 : IntKind.i64.wrap (-Q) = -Q := IntWalk.i64_in _ (by omega)
        have e4 : wrap64 (-Q) = -Q := IntWalk.wrap64_in _ (by omega)
        have e5 : P + -Q = v := by omega
        have e6 : wrap64 v = v := IntWalk.wrap64_in _ (by omega)
        have e7 : IntKind.i64.wrap v = v := IntWalk.i64_in _ (by omega)
        clear hv
        go_wp2_with (at_builtin; refine list_step (fun K hK => ?_); refine step_app_int rfl (.tmp 38) (.tmp 42) rfl w.heap.size (k + 1) _ acc rfl (OW3.out.alloc _) HVL.out w3.heap.size 1 v rfl (by simp) (by omega) (by have := S4.out; simp; omega) ?_; intro A3 c3 w4 hown4 hg4 hbel4; go_simp; refine hK _ _ ?_; clear hK K)
        go_roundw
        case rel => exact ⟨k + 1, A3, c3, by omega, by go_num, rfl, by rw [VT.out]; exact hown4, (XB3.out.alloc S4.out _).trans hbel4⟩
        case measure => simp [intOf]; omega
      | false =>
        have hv : P + Q = v := EV.out.symm
        have e6 : wrap64 v = v := IntWalk.wrap64_in _ (by omega)
        have e7 : IntKind.i64.wrap v = v := IntWalk.i64_in _ (by omega)
        go_wp2_with (at_builtin; refine list_step (fun K hK => ?_); refine step_app_int rfl (.tmp 38) (.tmp 42) rfl w.heap.size (k + 1) _ acc rfl (OW3.out.alloc _) HVL.out w3.heap.size 1 v rfl (by simp) (by omega) (by have := S4.out; simp; omega) ?_; intro A3 c3 w4 hown4 hg4 hbel4; go_simp; refine hK _ _ ?_; clear hK K)
        go_roundw
        case rel => exact ⟨k + 1, A3, c3, by omega, by go_num, rfl, by rw [VT.out]; exact hown4, (XB3.out.alloc S4.out _).trans hbel4⟩
        case measure => simp [intOf]; omega
    · have hk' : k = l.length := by omega
      subst hk'
      have EL := Lib.hid (show (vls x l).length = l.length + 1 from vls_len x l)
      have ik : ¬ (l.length : Int) < (l.length : Int) := by omega
      clear hvl
      go_wp2
      go_ret
      exact ⟨A1, c1, by rw [EL.out]; rfl, by rw [EL.out]; have := OWN.out; rwa [List.take_length] at this, BEL.out⟩

theorem RdA.take {w : World} {B : Nat} {A : Option Addr} {l : List Ad} (h : RdA w B A l) {k : Nat} (hk : k ≤ l.length) : RdA w B A (l.take k) := by
  unfold RdA at h ⊢
  have hl : (l.take k).length = k := by rw [List.length_take]; omega
  rw [hl]
  refine ⟨by rw [fl5_length, hl], fun hn => ?_⟩
  obtain ⟨b, off, e, hb, hc⟩ := h.2 (by omega)
  refine ⟨b, off, e, hb, fun j hj => ?_⟩
  rw [hc j (by omega)]
  have e2 : fl5 l = fl5 (l.take k) ++ fl5 (l.drop k) := by rw [← fl5_app, List.take_append_drop]
  rw [e2, List.getElem?_append_left (by rw [fl5_length, hl]; exact hj)]
theorem allB_last {l : List Int} {v : Int} (h : ∀ x ∈ l, -2097152 ≤ x ∧ x ≤ 2097152) : allB (l ++ [v]) (-2097152) 2097152 = inB v (-2097152) 2097152 := by
  unfold allB
  rw [List.all_append, show l.all (fun n => inB n (-2097152) 2097152) = true by rw [List.all_eq_true]; intro x hx; exact inB_iff.2 (h x hx)]
  simp

set_option maxRecDepth 100000 in
set_option maxHeartbeats 8000000 in
theorem siAdders_any (B : Nat) (A : Option Addr) (c : Nat) (l : List Ad) (w : World) (hB : B ≤ w.heap.size) (_hl : l.length ≤ 1048576) (hcap : l.length ≤ c) (hr : RdA w B A l) :
    Calls Try.prog 76 #[.slice A l.length c] w fun e w' => e = .returned (.bool (adOk l)) ∧ Below w.heap.size w w' := by
  have H := Lib.hid hr
  clear hr
  by_cases hlen : l.length ≤ 24
  · have il : ¬ 24 < (l.length : Int) := by omega
    go_enter Try.func76, Try.ntmps76
    go_wp2
    go_loopw [10] (fun iv wr => ∃ (k : Nat), k ≤ l.length ∧ iv = .int .i64 (k : Int) ∧ adK l k = true ∧ Below w.heap.size w wr) (fun iv _ => l.length - (intOf iv).toNat)
    case atStart => exact ⟨0, by omega, rfl, rfl, Below.refl _ _⟩
    case round =>
      obtain ⟨k, hk, rfl, hq, hbel⟩ := hrel
      have hs := hbel.size
      have BEL := Lib.hid hbel
      have Q := Lib.hid hq
      clear hbel hq
      by_cases hlt : k < l.length
      · obtain ⟨b, off, hA, hbb, hc1, hc2, hc3, hc4, hc5⟩ := (H.out.below' BEL.out hB).ad hlt
        have ik : (k : Int) < (l.length : Int) := by omega
        have KS := Lib.hid (adK_succ hlt)
        have KM := Lib.hid (adK_miss hlt)
        have VT := Lib.hid (vls_take (x := 1) hlt)
        have BD := Lib.hid (adK_bd k (by omega) Q.out)
        obtain ⟨a, ha⟩ : ∃ a, l[k] = a := ⟨_, rfl⟩
        rw [ha] at hc1 hc2 hc3 hc4 hc5 KS KM VT
        have OKK := Lib.hid (fun (ho : okB k a = true) => (show ∀ (j : Nat) (hj : j < (l.take (k + 1)).length), okB j (l.take (k + 1))[j] = true ∧ (∀ v ∈ vls 1 ((l.take (k + 1)).take j), -4294967296 ≤ v ∧ v ≤ 4294967296) from by
          intro j hj
          have hj1 : j < k + 1 := by rw [List.length_take] at hj; omega
          have hjl : j < l.length := by omega
          have e2 : (l.take (k + 1)).take j = l.take j := by rw [List.take_take, Nat.min_eq_left (by omega)]
          have hKj : adK l j = true := adK_mono Q.out j (by omega)
          rw [e2]
          refine ⟨?_, fun v hv => by have := adK_bd j (by omega) hKj v hv; omega⟩
          rw [List.getElem_take]
          rcases Nat.lt_or_ge j k with h | h
          · have := adK_mono Q.out (j + 1) (by omega)
            rw [adK_succ hjl] at this
            simp only [Bool.and_eq_true] at this
            exact this.2.1
          · have : j = k := by omega
            subst this
            rw [ha]; exact ho))
        have H' := Lib.hid (H.out.take (k := k + 1) (by omega))
        have HTL := Lib.hid (show (l.take (k + 1)).length = k + 1 by rw [List.length_take]; omega)
        obtain ⟨g1, hg1⟩ : ∃ g, inB a.1 0 k = g := ⟨_, rfl⟩
        obtain ⟨g2, hg2⟩ : ∃ g, inB a.2.2.1 0 k = g := ⟨_, rfl⟩
        obtain ⟨g3, hg3⟩ : ∃ g, inB a.2.1 0 20 = g := ⟨_, rfl⟩
        obtain ⟨g4, hg4⟩ : ∃ g, inB a.2.2.2.1 0 20 = g := ⟨_, rfl⟩
        have EO := Lib.hid (show okB k a = (g1 && g2 && g3 && g4) by unfold okB; rw [hg1, hg2, hg3, hg4])
        obtain ⟨a1, a2, a3, a4, a5⟩ := a
        simp only at hc1 hc2 hc3 hc4 hc5 hg1 hg2 hg3 hg4
        have L1 := Lib.hid (fun W => (show Calls Try.prog 65 #[.int .i64 a1, .int .i64 0, .int .i64 (k : Int)] W fun e w' => e = .returned (.bool g1) ∧ W = w' by rw [← hg1]; exact l1In_any _ _ _ _))
        have L2 := Lib.hid (fun W => (show Calls Try.prog 65 #[.int .i64 a3, .int .i64 0, .int .i64 (k : Int)] W fun e w' => e = .returned (.bool g2) ∧ W = w' by rw [← hg2]; exact l1In_any _ _ _ _))
        have L3 := Lib.hid (fun W => (show Calls Try.prog 65 #[.int .i64 a2, .int .i64 0, .int .i64 20] W fun e w' => e = .returned (.bool g3) ∧ W = w' by rw [← hg3]; exact l1In_any _ _ _ _))
        have L4 := Lib.hid (fun W => (show Calls Try.prog 65 #[.int .i64 a4, .int .i64 0, .int .i64 20] W fun e w' => e = .returned (.bool g4) ∧ W = w' by rw [← hg4]; exact l1In_any _ _ _ _))
        clear ha hg1 hg2 hg3 hg4
        subst hA
        cases g1 with
        | false =>
          have E := Lib.hid (KM.out (by rw [EO.out]; simp))
          go_wp2_with fail
          go_at_call 65
          generalize hw1 : World.alloc wr _ = w1
          obtain ⟨x0, x1, x2, x3, x4, xs, xb⟩ := bx5 hw1
          clear hw1
          refine (L1.out _).mono ?_
          rintro e w' ⟨rfl, rfl⟩
          go_wp2
          go_ret
          exact ⟨ret_bool (by rw [E.out]), BEL.out.trans (xb.mono hs)⟩
        | true =>
        cases g2 with
        | false =>
          have E := Lib.hid (KM.out (by rw [EO.out]; simp))
          go_wp2_with fail
          go_at_call 65
          generalize hw1 : World.alloc wr _ = w1
          obtain ⟨x0, x1, x2, x3, x4, xs, xb⟩ := bx5 hw1
          clear hw1
          refine (L1.out _).mono ?_
          rintro e w' ⟨rfl, rfl⟩
          go_wp2_with fail
          go_at_call 65
          refine (L2.out _).mono ?_
          rintro e w' ⟨rfl, rfl⟩
          go_wp2
          go_ret
          exact ⟨ret_bool (by rw [E.out]), BEL.out.trans (xb.mono hs)⟩
        | true =>
        cases g3 with
        | false =>
          have E := Lib.hid (KM.out (by rw [EO.out]; simp))
          go_wp2_with fail
          go_at_call 65
          generalize hw1 : World.alloc wr _ = w1
          obtain ⟨x0, x1, x2, x3, x4, xs, xb⟩ := bx5 hw1
          clear hw1
          refine (L1.out _).mono ?_
          rintro e w' ⟨rfl, rfl⟩
          go_wp2_with fail
          go_at_call 65
          refine (L2.out _).mono ?_
          rintro e w' ⟨rfl, rfl⟩
          go_wp2_with fail
          go_at_call 65
          refine (L3.out _).mono ?_
          rintro e w' ⟨rfl, rfl⟩
          go_wp2
          go_ret
          exact ⟨ret_bool (by rw [E.out]), BEL.out.trans (xb.mono hs)⟩
        | true =>
        cases g4 with
        | false =>
          have E := Lib.hid (KM.out (by rw [EO.out]; simp))
          go_wp2_with fail
          go_at_call 65
          generalize hw1 : World.alloc wr _ = w1
          obtain ⟨x0, x1, x2, x3, x4, xs, xb⟩ := bx5 hw1
          clear hw1
          refine (L1.out _).mono ?_
          rintro e w' ⟨rfl, rfl⟩
          go_wp2_with fail
          go_at_call 65
          refine (L2.out _).mono ?_
          rintro e w' ⟨rfl, rfl⟩
          go_wp2_with fail
          go_at_call 65
          refine (L3.out _).mono ?_
          rintro e w' ⟨rfl, rfl⟩
          go_wp2_with fail
          go_at_call 65
          refine (L4.out _).mono ?_
          rintro e w' ⟨rfl, rfl⟩
          go_wp2
          go_ret
          exact ⟨ret_bool (by rw [E.out]), BEL.out.trans (xb.mono hs)⟩
        | true =>
          have EO := Lib.hid (show okB k (a1, a2, a3, a4, a5) = true from EO.out)
          go_wp2_with fail
          go_at_call 65
          generalize hw1 : World.alloc wr _ = w1
          obtain ⟨x0, x1, x2, x3, x4, xs, xb⟩ := bx5 hw1
          clear hw1
          refine (L1.out _).mono ?_
          rintro e w' ⟨rfl, rfl⟩
          go_wp2_with fail
          go_at_call 65
          refine (L2.out _).mono ?_
          rintro e w' ⟨rfl, rfl⟩
          go_wp2_with fail
          go_at_call 65
          refine (L3.out _).mono ?_
          rintro e w' ⟨rfl, rfl⟩
          go_wp2_with fail
          go_at_call 65
          refine (L4.out _).mono ?_
          rintro e w' ⟨rfl, rfl⟩
          have XB := Lib.hid xb
          clear x0 x1 x2 x3 x4 xb hc1 hc2 hc3 hc4 hc5
          have OV := OKK.out EO.out
          rw [EO.out, Bool.true_and] at KM
          rw [EO.out, Bool.true_and, Q.out, Bool.true_and] at KS
          obtain ⟨v, hv⟩ : ∃ v, vlA (vls 1 (l.take k)) (a1, a2, a3, a4, a5) = v := ⟨_, rfl⟩
          rw [hv] at KM KS VT
          have EA := Lib.hid (show allB (vls 1 (l.take (k + 1))) (-2097152) 2097152 = inB v (-2097152) 2097152 by rw [VT.out]; exact allB_last BD.out)
          have EL := Lib.hid (show (vls 1 (l.take (k + 1))).length = k + 2 by rw [vls_len, HTL.out])
          have SV := siValues_any B (some ⟨b, off, none⟩) c (l.take (k + 1)) 1 w1 (by omega) (by rw [HTL.out]; omega) OV (H'.out.below' (BEL.out.trans (XB.out.mono hs)) hB)
          rw [HTL.out] at SV
          obtain ⟨full, hfull⟩ : ∃ full, vls 1 (l.take (k + 1)) = full := ⟨_, rfl⟩
          rw [hfull] at SV EA EL
          have SV := Lib.hid SV
          have iic : (k : Int) + 1 ≤ (c : Int) := by omega
          clear hv hfull OV
          go_wp2_with fail
          go_at_call 79
          refine SV.out.mono ?_
          rintro e w2 ⟨A2, c2, rfl, ho2, hb2⟩
          have s2 := hb2.size
          have XB2 := Lib.hid (BEL.out.trans ((XB.out.mono hs).trans (hb2.mono (by omega))))
          have LA := l1All_any w2.heap.size A2 c2 full (-2097152) 2097152 w2 (by rw [EL.out]; omega) ho2.rd
          rw [EA.out] at LA
          have LA := Lib.hid LA
          clear ho2 hb2
          go_wp2_with fail
          go_at_call 63
          obtain ⟨gv, hgv⟩ : ∃ gv, inB v (-2097152) 2097152 = gv := ⟨_, rfl⟩
          rw [hgv] at LA KM KS
          refine LA.out.mono ?_
          rintro e w' ⟨rfl, rfl⟩
          clear hgv
          cases gv with
          | false =>
            have E := Lib.hid (KM.out rfl)
            go_wp2
            go_ret
            exact ⟨ret_bool (by rw [E.out]), XB2.out⟩
          | true =>
            go_wp2
            go_roundw
            case rel => exact ⟨k + 1, by omega, by go_num, KS.out, XB2.out⟩
            case measure => simp [intOf]; omega
      · have hk' : k = l.length := by omega
        subst hk'
        have E := Lib.hid (show adOk l = true by unfold adOk; rw [decide_eq_true hlen, Q.out]; rfl)
        have ik : ¬ (l.length : Int) < (l.length : Int) := by omega
        go_wp2
        go_ret
        exact ⟨ret_bool (by rw [E.out]), BEL.out⟩
  · have il : 24 < (l.length : Int) := by omega
    have E := Lib.hid (adOk_long hlen)
    go_enter Try.func76, Try.ntmps76
    go_wp2
    go_ret
    exact ⟨ret_bool (by rw [E.out]), Below.refl _ _⟩

theorem specIsAdders_any (B : Nat) (A : Option Addr) (c : Nat) (l : List Ad) (w : World) (hB : B ≤ w.heap.size) (hl : l.length ≤ 1048576) (hcap : l.length ≤ c) (hr : RdA w B A l) :
    Calls Try.prog 39 #[.slice A l.length c] w fun e w' => e = .returned (.bool (adOk l)) ∧ Below w.heap.size w w' := by
  have HC := Lib.hid (siAdders_any B A c l w hB hl hcap hr)
  clear hr
  go_enter Try.func39, Try.ntmps39
  go_wp2_with (go_at_call 76; refine HC.out.mono ?_; rintro e w2 ⟨rfl, hb⟩)
  go_ret
  exact ⟨rfl, hb⟩
theorem implIsAdders_any (B : Nat) (A : Option Addr) (c : Nat) (l : List Ad) (w : World) (hB : B ≤ w.heap.size) (hl : l.length ≤ 1048576) (_hcap : l.length ≤ c) (hr : RdA w B A l) :
    Calls Try.prog 41 #[.slice A l.length c] w fun e w' => e = .returned (.bool (adOk l)) ∧ Below w.heap.size w w' := by
  have HC := Lib.hid (multiplesOf_any B A c l w hB hl hr)
  clear hr
  go_enter Try.func41, Try.ntmps41
  go_wp2_with (go_at_call 78; refine HC.out.mono ?_; rintro e w2 ⟨A2, c2, rfl, ho, hb⟩)
  go_ret
  exact ⟨rfl, hb⟩
end Go.Proofs.Ytbohakifjmdoiaa
