/- The text of a plan, by the model. -/
import Derived.Test.YtodjnafalbbmjabDoorUa
import Derived.Test.YtodjnafalbbmjabDoorLa
import Derived.Test.YtodjnafalbbmjabDoorMa
namespace Go.Proofs.YtodjnafalbbmjabDoor
open Go.RowKit

/-- Where the numbers of a plan's text lie. -/
structure Sml (p : Pl) : Prop where
  n : 0 ≤ p.n ∧ p.n ≤ 1000000
  s : ∀ st ∈ p.s, (0 ≤ st.1 ∧ st.1 ≤ 1000000) ∧ 0 ≤ st.2 ∧ st.2 ≤ 1000000
  o : ∀ x ∈ p.o, 0 ≤ x ∧ x ≤ 1000000
  ls : p.s.length ≤ 1000
  lo : p.o.length ≤ 1000

set_option maxRecDepth 100000 in
set_option maxHeartbeats 4000000 in
theorem plText_any (B : Nat) (A1 A2 : Option Addr) (c1 c2 : Nat) (p : Pl) (w : World) (hB : B ≤ w.heap.size) (hS : Sml p) (hr : RdP w B A1 A2 p) :
    Calls Tryd.prog 37 #[.agg #[.int .i64 p.n, .slice A1 p.s.length c1, .slice A2 p.o.length c2]] w fun e w' => e = .returned (.string ⟨(plT p).toArray⟩) ∧ Below w.heap.size w w' := by
  have H := Lib.hid hr
  have SM := Lib.hid hS
  obtain ⟨n, hn⟩ : ∃ n : Nat, p.n = n := ⟨p.n.toNat, by have := hS.n; omega⟩
  have hn2 := hS.n
  have hls := hS.ls
  rw [hn] at hn2 ⊢
  have HPN := Lib.hid hn
  have HNN := Lib.hid (fun W => l1Num_any n n W (Nat.le_refl _) (by omega))
  have HPO := Lib.hid (fun W (h : Below w.heap.size w W) => plList_any B A2 c2 p.o W hS.lo hS.o (by have := h.size; omega) (H.out.2.below' h hB))
  clear hr hS hn
  go_enter Tryd.func37, Tryd.ntmps37
  go_wp2
  generalize hw1 : World.alloc w _ = w1
  obtain ⟨y0, y1, y2, ys, yb⟩ := box3 hw1
  clear hw1
  have Y0 := Lib.hid y0
  have Y2 := Lib.hid y2
  have YB := Lib.hid yb
  have YS := Lib.hid ys
  clear y0 y1 y2 yb ys
  go_loopw [3, 9] (fun sv iv wr => ∃ (k : Nat) (T : List UInt8), k ≤ p.s.length ∧ iv = .int .i64 (k : Int) ∧ sv = .string ⟨T.toArray⟩ ∧ T = sTx (p.s.take k) ∧ T.length ≤ 16 * k ∧ Below w1.heap.size w1 wr) (fun _ iv _ => p.s.length - (intOf iv).toNat)
  case atStart => exact ⟨0, [], by omega, rfl, rfl, rfl, by simp, Below.refl _ _⟩
  case round =>
    obtain ⟨k, T, hk, rfl, rfl, hT, hTl, hbel⟩ := hrel
    have HT := Lib.hid hT
    have BEL0 := Lib.hid hbel
    have BEL := Lib.hid (YB.out.trans (hbel.mono YB.out.size))
    have BSZ := Lib.hid (show w.heap.size ≤ wr.heap.size from by have := YB.out.size; have := hbel.size; omega)
    clear hT hbel
    by_cases hlt : k < p.s.length
    · obtain ⟨sb, off, rfl, hsb, hc1, hc2⟩ := (H.out.1.below' BEL.out hB).stp hlt
      obtain ⟨⟨q1, q2⟩, q3, q4⟩ := SM.out.s p.s[k] (List.getElem_mem hlt)
      have ht := sTx_take hlt
      rw [← HT.out] at ht
      obtain ⟨a, ha⟩ : ∃ a : Nat, (p.s[k]).1 = a := ⟨(p.s[k]).1.toNat, by omega⟩
      obtain ⟨b, hb⟩ : ∃ b : Nat, (p.s[k]).2 = b := ⟨(p.s[k]).2.toNat, by omega⟩
      rw [ha] at hc1 q1 q2
      rw [hb] at hc2 q3 q4
      have HNA := Lib.hid (fun W => l1Num_any a a W (Nat.le_refl _) (by omega))
      have HNB := Lib.hid (fun W => l1Num_any b b W (Nat.le_refl _) (by omega))
      have d1 := dd_len7 (n := a) (by omega)
      have d2 := dd_len7 (n := b) (by omega)
      obtain ⟨DA, hDA⟩ : ∃ D, Lib.decDigits a = D := ⟨_, rfl⟩
      obtain ⟨DB, hDB⟩ : ∃ D, Lib.decDigits b = D := ⟨_, rfl⟩
      rw [hDA] at HNA d1
      rw [hDB] at HNB d2
      rw [show stT p.s[k] = DA ++ [42] ++ DB by unfold stT ddI; rw [ha, hb, ← hDA, ← hDB]; rfl] at ht
      have HTT := Lib.hid ht
      have il : (k : Int) < (p.s.length : Int) := by omega
      have hs1 : ¬ 9223372036854775807 < DA.length + 1 := by omega
      have hs2 : ¬ 9223372036854775807 < DA.length + 1 + DB.length := by omega
      clear ht ha hb hDA hDB q1 q2 q3 q4
      by_cases h0 : k = 0
      · subst h0
        have hT0 : T = [] := List.eq_nil_of_length_eq_zero (by omega)
        subst hT0
        rw [Nat.zero_mul, Nat.add_zero] at hc1 hc2
        clear hTl
        go_wp2
        generalize hW : World.alloc wr _ = W
        have hW2 : W.cell? ⟨wr.heap.size, 0, none⟩ = some (.int .i64 (a : Int)) ∧ W.cell? ⟨wr.heap.size, 1, none⟩ = some (.int .i64 (b : Int)) ∧ W.heap.size = wr.heap.size + 1 ∧ Below wr.heap.size wr W := box2 hW
        obtain ⟨x0, x1, xs, xb⟩ := hW2
        have FS := Lib.hid (show ∀ x, Below W.heap.size W x → x.cell? ⟨wr.heap.size, 0, none⟩ = some (.int .i64 (a : Int)) ∧ x.cell? ⟨wr.heap.size, 1, none⟩ = some (.int .i64 (b : Int)) from fun x hx => ⟨(hx.cell (p := ⟨wr.heap.size, 0, none⟩) (by simp only []; omega)).trans x0, (hx.cell (p := ⟨wr.heap.size, 1, none⟩) (by simp only []; omega)).trans x1⟩)
        have XB := Lib.hid (BEL0.out.trans (xb.mono BEL0.out.size))
        have XS := Lib.hid (show w1.heap.size ≤ W.heap.size from by have := BEL0.out.size; omega)
        clear hW x0 x1 xs xb
        refine wp_region_T (fun x : World => Below W.heap.size W x) [0, 1, 2, 4, 5, 6, 8, 9, 10] [2, 6] (.lp 0 (.lp 1 (.lp 5 (.ls 2 (.ls 6 (.hv 3 (.lp 4 (.hv 7 (.lp 8 (.lp 9 (.lp 10 (.done)))))))))))) (by kernel_rfl) (by kernel_rfl) ?_
        have sd : Below W.heap.size W W.drew := (Below.refl _ _).drew
        generalize World.drew W = wd at sd ⊢
        have HW := Lib.hid sd
        clear sd
        (repeat (refine T_lp rfl (fun K hK => ?_); go_simp; refine hK _ ?_; clear hK K))
        refine T_ls1 (v := .int .i64 (a : Int)) rfl rfl HW.out (fun x hx => (by obtain ⟨q0, q1⟩ := FS.out x hx; go_simp)) (fun K hK => ?_)
        (go_simp; refine hK _ ?_; clear hK K)
        refine T_ls1 (v := .int .i64 (b : Int)) rfl rfl HW.out (fun x hx => (by obtain ⟨q0, q1⟩ := FS.out x hx; go_simp)) (fun K hK => ?_)
        (go_simp; refine hK _ ?_; clear hK K)
        refine T_hvS rfl (fun K hK => ?_)
        go_simp
        go_at_call 54
        refine (HNA.out wd).mono ?_
        rintro e W1 ⟨rfl, hb1⟩
        have HW1 := Lib.hid (HW.out.trans (hb1.mono HW.out.size))
        clear hb1
        go_simp
        refine hK _ _ HW1.out ?_
        clear hK K
        (repeat (refine T_lp rfl (fun K hK => ?_); go_simp; refine hK _ ?_; clear hK K))
        (refine T_hv rfl (by kernel_rfl) (fun K hK => ?_); go_simp)
        go_at_call 54
        refine (HNB.out W1).mono ?_
        rintro e W2 ⟨rfl, hb2⟩
        have HW2 := Lib.hid (XB.out.trans ((HW1.out.trans (hb2.mono HW1.out.size)).mono XS.out))
        clear hb2
        (go_simp; refine hK _ _ ?_; clear hK K)
        (repeat (refine T_lp rfl (fun K hK => ?_); go_simp; refine hK _ ?_; clear hK K))
        refine T_done ?_
        go_wp2
        go_roundw
        case rel => exact ⟨1, DA ++ [42] ++ DB, by omega, rfl, rfl, by rw [HTT.out, if_pos trivial], by simp; omega, HW2.out⟩
        case measure => simp [intOf]; omega
      · have ik : (0 : Int) < (k : Int) := by omega
        have hs3 : ¬ 9223372036854775807 < T.length + 1 := by omega
        have hs4 : ¬ 9223372036854775807 < T.length + 1 + (DA.length + 1 + DB.length) := by omega
        have hkn := Lib.hid h0
        clear h0
        go_wp2
        generalize hW : World.alloc wr _ = W
        have hW2 : W.cell? ⟨wr.heap.size, 0, none⟩ = some (.int .i64 (a : Int)) ∧ W.cell? ⟨wr.heap.size, 1, none⟩ = some (.int .i64 (b : Int)) ∧ W.heap.size = wr.heap.size + 1 ∧ Below wr.heap.size wr W := box2 hW
        obtain ⟨x0, x1, xs, xb⟩ := hW2
        have FS := Lib.hid (show ∀ x, Below W.heap.size W x → x.cell? ⟨wr.heap.size, 0, none⟩ = some (.int .i64 (a : Int)) ∧ x.cell? ⟨wr.heap.size, 1, none⟩ = some (.int .i64 (b : Int)) from fun x hx => ⟨(hx.cell (p := ⟨wr.heap.size, 0, none⟩) (by simp only []; omega)).trans x0, (hx.cell (p := ⟨wr.heap.size, 1, none⟩) (by simp only []; omega)).trans x1⟩)
        have XB := Lib.hid (BEL0.out.trans (xb.mono BEL0.out.size))
        have XS := Lib.hid (show w1.heap.size ≤ W.heap.size from by have := BEL0.out.size; omega)
        clear hW x0 x1 xs xb
        refine wp_region_T (fun x : World => Below W.heap.size W x) [0, 1, 2, 4, 5, 6, 8, 9, 10] [2, 6] (.lp 0 (.lp 1 (.lp 5 (.ls 2 (.ls 6 (.hv 3 (.lp 4 (.hv 7 (.lp 8 (.lp 9 (.lp 10 (.done)))))))))))) (by kernel_rfl) (by kernel_rfl) ?_
        have sd : Below W.heap.size W W.drew := (Below.refl _ _).drew
        generalize World.drew W = wd at sd ⊢
        have HW := Lib.hid sd
        clear sd
        (repeat (refine T_lp rfl (fun K hK => ?_); go_simp; refine hK _ ?_; clear hK K))
        refine T_ls1 (v := .int .i64 (a : Int)) rfl rfl HW.out (fun x hx => (by obtain ⟨q0, q1⟩ := FS.out x hx; go_simp)) (fun K hK => ?_)
        (go_simp; refine hK _ ?_; clear hK K)
        refine T_ls1 (v := .int .i64 (b : Int)) rfl rfl HW.out (fun x hx => (by obtain ⟨q0, q1⟩ := FS.out x hx; go_simp)) (fun K hK => ?_)
        (go_simp; refine hK _ ?_; clear hK K)
        refine T_hvS rfl (fun K hK => ?_)
        go_simp
        go_at_call 54
        refine (HNA.out wd).mono ?_
        rintro e W1 ⟨rfl, hb1⟩
        have HW1 := Lib.hid (HW.out.trans (hb1.mono HW.out.size))
        clear hb1
        go_simp
        refine hK _ _ HW1.out ?_
        clear hK K
        (repeat (refine T_lp rfl (fun K hK => ?_); go_simp; refine hK _ ?_; clear hK K))
        (refine T_hv rfl (by kernel_rfl) (fun K hK => ?_); go_simp)
        go_at_call 54
        refine (HNB.out W1).mono ?_
        rintro e W2 ⟨rfl, hb2⟩
        have HW2 := Lib.hid (XB.out.trans ((HW1.out.trans (hb2.mono HW1.out.size)).mono XS.out))
        clear hb2
        (go_simp; refine hK _ _ ?_; clear hK K)
        (repeat (refine T_lp rfl (fun K hK => ?_); go_simp; refine hK _ ?_; clear hK K))
        refine T_done ?_
        go_wp2
        go_roundw
        case rel => exact ⟨k + 1, T ++ [44] ++ (DA ++ [42] ++ DB), by omega, by go_num, rfl, by rw [HTT.out, if_neg hkn.out], by simp; omega, HW2.out⟩
        case measure => simp [intOf]; omega
    · have e : k = p.s.length := by omega
      have il : ¬ (k : Int) < (p.s.length : Int) := by omega
      have hTs : T = sTx p.s := by rw [HT.out, e, List.take_length]
      have HTs := Lib.hid hTs
      have hlo := SM.out.lo
      have hLo := lsT_len (l := p.o) (fun x hx => (SM.out.o x hx).2)
      have hLn := dd_len7 (n := n) (by omega)
      have HE := Lib.hid (show plT p = Lib.decDigits n ++ [58] ++ sLT p.s ++ [58] ++ lsT p.o from by unfold plT ddI; rw [HPN.out]; rfl)
      obtain ⟨DN, hDN⟩ : ∃ D, Lib.decDigits n = D := ⟨_, rfl⟩
      obtain ⟨LO, hLO⟩ : ∃ D, lsT p.o = D := ⟨_, rfl⟩
      rw [hDN] at hLn HE HNN
      rw [hLO] at hLo HE HPO
      have hv1 : ¬ 9223372036854775807 < DN.length + 1 := by omega
      clear hTs e hDN hLO
      by_cases hnil : p.s = []
      · have hT0 : T = [] := by rw [HTs.out, hnil]; rfl
        have ES := Lib.hid (show sLT p.s = [45] from by unfold sLT; rw [if_pos hnil])
        subst hT0
        have hv2 : ¬ 9223372036854775807 < DN.length + 1 + 1 := by omega
        have hv3 : ¬ 9223372036854775807 < DN.length + 1 + 1 + 1 := by omega
        have hv4 : ¬ 9223372036854775807 < DN.length + 1 + 1 + 1 + LO.length := by omega
        clear hnil hTl
        go_wp2
        generalize hW : wr = W
        have FS := Lib.hid (show ∀ x, Below W.heap.size W x → x.cell? ⟨w.heap.size, 0, none⟩ = some (.int .i64 (n : Int)) ∧ x.cell? ⟨w.heap.size, 2, none⟩ = some (.slice A2 p.o.length c2) from fun x hx => by
          rw [← hW] at hx
          have h1 : Below w1.heap.size w1 x := BEL0.out.trans (hx.mono BEL0.out.size)
          exact ⟨(h1.cell (p := ⟨w.heap.size, 0, none⟩) (by simp only []; have := YS.out; omega)).trans Y0.out, (h1.cell (p := ⟨w.heap.size, 2, none⟩) (by simp only []; have := YS.out; omega)).trans Y2.out⟩)
        rw [hW] at BEL BSZ
        clear hW BEL0
        refine wp_region_T (fun x : World => Below W.heap.size W x) [0, 1, 3, 4, 5, 6, 7, 8, 10, 11] [1, 8] (.lp 0 (.lp 4 (.lp 7 (.ls 1 (.ls 8 (.hv 2 (.lp 3 (.lp 5 (.lp 6 (.hv 9 (.lp 10 (.lp 11 (.done))))))))))))) (by kernel_rfl) (by kernel_rfl) ?_
        have sd : Below W.heap.size W W.drew := (Below.refl _ _).drew
        generalize World.drew W = wd at sd ⊢
        have HW := Lib.hid sd
        clear sd
        (repeat (refine T_lp rfl (fun K hK => ?_); go_simp; refine hK _ ?_; clear hK K))
        refine T_ls1 (v := .int .i64 (n : Int)) rfl rfl HW.out (fun x hx => (by obtain ⟨q0, q1⟩ := FS.out x hx; go_simp)) (fun K hK => ?_)
        (go_simp; refine hK _ ?_; clear hK K)
        refine T_ls1 (v := .slice A2 p.o.length c2) rfl rfl HW.out (fun x hx => (by obtain ⟨q0, q1⟩ := FS.out x hx; go_simp)) (fun K hK => ?_)
        (go_simp; refine hK _ ?_; clear hK K)
        refine T_hvS rfl (fun K hK => ?_)
        go_simp
        go_at_call 54
        refine (HNN.out wd).mono ?_
        rintro e W1 ⟨rfl, hb1⟩
        have HW1 := Lib.hid (HW.out.trans (hb1.mono HW.out.size))
        clear hb1
        go_simp
        refine hK _ _ HW1.out ?_
        clear hK K
        (repeat (refine T_lp rfl (fun K hK => ?_); go_simp; refine hK _ ?_; clear hK K))
        (refine T_hv rfl (by kernel_rfl) (fun K hK => ?_); go_simp)
        go_at_call 62
        refine (HPO.out W1 (BEL.out.trans (HW1.out.mono BSZ.out))).mono ?_
        rintro e W2 ⟨rfl, hb2⟩
        have HW2 := Lib.hid (BEL.out.trans ((HW1.out.trans (hb2.mono HW1.out.size)).mono BSZ.out))
        clear hb2
        (go_simp; refine hK _ _ ?_; clear hK K)
        (repeat (refine T_lp rfl (fun K hK => ?_); go_simp; refine hK _ ?_; clear hK K))
        refine T_done ?_
        go_wp2
        go_ret
        exact ⟨by rw [HE.out, ES.out]; rfl, HW2.out⟩
      · have hTn : T ≠ [] := by rw [HTs.out]; exact sTx_ne hnil
        have ES := Lib.hid (show sLT p.s = T from by unfold sLT; rw [if_neg hnil, HTs.out])
        have hTe : T.isEmpty = false := by cases T with | nil => exact absurd rfl hTn | cons => rfl
        clear hTn
        have hv2 : ¬ 9223372036854775807 < DN.length + 1 + T.length := by omega
        have hv3 : ¬ 9223372036854775807 < DN.length + 1 + T.length + 1 := by omega
        have hv4 : ¬ 9223372036854775807 < DN.length + 1 + T.length + 1 + LO.length := by omega
        clear hnil
        go_wp2
        generalize hW : wr = W
        have FS := Lib.hid (show ∀ x, Below W.heap.size W x → x.cell? ⟨w.heap.size, 0, none⟩ = some (.int .i64 (n : Int)) ∧ x.cell? ⟨w.heap.size, 2, none⟩ = some (.slice A2 p.o.length c2) from fun x hx => by
          rw [← hW] at hx
          have h1 : Below w1.heap.size w1 x := BEL0.out.trans (hx.mono BEL0.out.size)
          exact ⟨(h1.cell (p := ⟨w.heap.size, 0, none⟩) (by simp only []; have := YS.out; omega)).trans Y0.out, (h1.cell (p := ⟨w.heap.size, 2, none⟩) (by simp only []; have := YS.out; omega)).trans Y2.out⟩)
        rw [hW] at BEL BSZ
        clear hW BEL0
        refine wp_region_T (fun x : World => Below W.heap.size W x) [0, 1, 3, 4, 5, 6, 7, 8, 10, 11] [1, 8] (.lp 0 (.lp 4 (.lp 7 (.ls 1 (.ls 8 (.hv 2 (.lp 3 (.lp 5 (.lp 6 (.hv 9 (.lp 10 (.lp 11 (.done))))))))))))) (by kernel_rfl) (by kernel_rfl) ?_
        have sd : Below W.heap.size W W.drew := (Below.refl _ _).drew
        generalize World.drew W = wd at sd ⊢
        have HW := Lib.hid sd
        clear sd
        (repeat (refine T_lp rfl (fun K hK => ?_); go_simp; refine hK _ ?_; clear hK K))
        refine T_ls1 (v := .int .i64 (n : Int)) rfl rfl HW.out (fun x hx => (by obtain ⟨q0, q1⟩ := FS.out x hx; go_simp)) (fun K hK => ?_)
        (go_simp; refine hK _ ?_; clear hK K)
        refine T_ls1 (v := .slice A2 p.o.length c2) rfl rfl HW.out (fun x hx => (by obtain ⟨q0, q1⟩ := FS.out x hx; go_simp)) (fun K hK => ?_)
        (go_simp; refine hK _ ?_; clear hK K)
        refine T_hvS rfl (fun K hK => ?_)
        go_simp
        go_at_call 54
        refine (HNN.out wd).mono ?_
        rintro e W1 ⟨rfl, hb1⟩
        have HW1 := Lib.hid (HW.out.trans (hb1.mono HW.out.size))
        clear hb1
        go_simp
        refine hK _ _ HW1.out ?_
        clear hK K
        (repeat (refine T_lp rfl (fun K hK => ?_); go_simp; refine hK _ ?_; clear hK K))
        (refine T_hv rfl (by kernel_rfl) (fun K hK => ?_); go_simp)
        go_at_call 62
        refine (HPO.out W1 (BEL.out.trans (HW1.out.mono BSZ.out))).mono ?_
        rintro e W2 ⟨rfl, hb2⟩
        have HW2 := Lib.hid (BEL.out.trans ((HW1.out.trans (hb2.mono HW1.out.size)).mono BSZ.out))
        clear hb2
        (go_simp; refine hK _ _ ?_; clear hK K)
        (repeat (refine T_lp rfl (fun K hK => ?_); go_simp; refine hK _ ?_; clear hK K))
        refine T_done ?_
        go_wp2
        go_ret
        exact ⟨by rw [HE.out, ES.out]; rfl, HW2.out⟩
end Go.Proofs.YtodjnafalbbmjabDoor
