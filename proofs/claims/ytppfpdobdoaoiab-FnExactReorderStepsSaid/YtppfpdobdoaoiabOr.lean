/- Orders of steps: what they are; the model's. -/
import Derived.Test.YtppfpdobdoaoiabPa
import Derived.Test.YtppfpdobdoaoiabKd
namespace Go.Proofs.Ytppfpdobdoaoiab
open Go.RowKit

def ordAt (N : Nat) (p : Pl) (l : List Int) (i : Nat) : Bool := inB (l.getD i 0) 0 ((p.s.length : Int) - 1) && (!hasI (l.take i) (l.getD i 0) && (nmOk N (l.take i) (stepAt p l i).1 && nmOk N (l.take i) (stepAt p l i).2))
def ordK (N : Nat) (p : Pl) (l : List Int) (k : Nat) : Bool := (List.range k).all (ordAt N p l)
def ordB (N : Nat) (p : Pl) (l : List Int) : Bool := decide (l.length = p.s.length) && ordK N p l l.length
theorem ordK_succ (N : Nat) (p : Pl) (l : List Int) (k : Nat) : ordK N p l (k + 1) = (ordK N p l k && ordAt N p l k) := by
  unfold ordK
  rw [List.range_succ, List.all_append]
  simp
theorem ordB_bad {N : Nat} {p : Pl} {l : List Int} {k : Nat} (hk : k < l.length) (h : ordAt N p l k = false) : ordB N p l = false := by
  unfold ordB ordK
  rw [Bool.and_eq_false_iff]
  right
  rw [List.all_eq_false]
  exact ⟨k, by simpa using hk, by rw [h]; decide⟩
theorem rd_take {w : World} {B n k : Nat} {A : Option Addr} {xs : List Value} (h : Rd w B 1 A n xs) (hk : k ≤ n) : Rd w B 1 A k (xs.take k) := by
  have hl := h.1
  refine ⟨by simp; omega, fun hn => ?_⟩
  obtain ⟨b, off, e, hb, hc⟩ := h.2 (by omega)
  refine ⟨b, off, e, hb, fun j hj => ?_⟩
  rw [hc j (by omega), List.getElem?_take, if_pos (by omega)]

set_option maxRecDepth 100000 in
set_option maxHeartbeats 8000000 in
theorem plOrder_any (B N : Nat) (A1 A2 AL : Option Addr) (c1 c2 cl : Nat) (p : Pl) (l : List Int) (w : World) (hpn : p.n = N) (h6 : N ≤ 6) (hs40 : p.s.length ≤ 40) (hll : l.length ≤ 1048576) (hcap : l.length ≤ cl) (hB : B ≤ w.heap.size) (hok : OkS N p.s) (hr : RdP w B A1 A2 p) (hrl : Rd w B 1 AL l.length (l.map I)) :
    Calls Try.prog 47 #[.agg #[.int .i64 p.n, .slice A1 p.s.length c1, .slice A2 p.o.length c2], .slice AL l.length cl] w fun e w' => e = .returned (.bool (ordB N p l)) ∧ Below w.heap.size w w' := by
  have H := Lib.hid hr
  have HL := Lib.hid hrl
  have HO := Lib.hid hok
  clear hr hrl hok
  rw [hpn]
  clear hpn
  by_cases hlen : l.length = p.s.length
  case neg =>
    have hb : ordB N p l = false := by simp [ordB, hlen]
    have HBF := Lib.hid hb
    have hne : ((l.length : Int) != (p.s.length : Int)) = true := by rw [bne_iff_ne]; omega
    clear hb hlen
    go_enter Try.func47, Try.ntmps47
    go_wp2
    go_ret
    exact ⟨ret_bool HBF.out.symm, (Below.refl _ _).alloc (Nat.le_refl _) _⟩
  case pos =>
  have hne : ((l.length : Int) != (p.s.length : Int)) = false := by simp [hlen]
  have HLEN := Lib.hid hlen
  have hl40 : l.length ≤ 40 := by omega
  clear hlen
  go_enter Try.func47, Try.ntmps47
  go_wp2
  generalize hw1 : World.alloc w _ = w1
  obtain ⟨x0, x1, x2, xs, xb⟩ := box3 hw1
  clear hw1
  have HB1 := Lib.hid xb
  clear xb
  go_loopw [16] (fun iv wr => ∃ k : Nat, k ≤ l.length ∧ iv = .int .i64 k ∧ ordK N p l k = true ∧ Below w1.heap.size w1 wr) (fun i _ => l.length - (intOf i).toNat)
  case atStart => exact ⟨0, by omega, rfl, rfl, Below.refl _ _⟩
  case round =>
    obtain ⟨k, hk, rfl, hq, hbel⟩ := hrel
    have hsr : w.heap.size + 1 ≤ wr.heap.size := by have := hbel.size; omega
    have y0 := (hbel.cell (p := ⟨w.heap.size, 0, none⟩) (by simp only []; omega)).trans x0
    have y1 := (hbel.cell (p := ⟨w.heap.size, 1, none⟩) (by simp only []; omega)).trans x1
    have hbw : Below w.heap.size w wr := HB1.out.trans (hbel.mono (by omega))
    have Q := Lib.hid hq
    have HBL := Lib.hid hbel
    have HBW := Lib.hid hbw
    clear hq hbel hbw
    by_cases hlt : k < l.length
    · obtain ⟨lb, lo, rfl, hlb, hlc⟩ := (HL.out.below' HBW.out hB).int hlt
      obtain ⟨x, hx⟩ : ∃ x, l[k] = x := ⟨_, rfl⟩
      rw [hx] at hlc
      have hget : l.getD k 0 = x := by simp [hlt, hx]
      have ikc : (k : Int) ≤ (cl : Int) := by omega
      have hpre : Rd wr B 1 (some ⟨lb, lo, none⟩) (l.take k).length ((l.take k).map I) := by
        rw [List.length_take, Nat.min_eq_left (by omega), List.map_take]
        exact rd_take (HL.out.below' HBW.out hB) (by omega)
      have hPH := fun W hrW n => l1Has_any B (some ⟨lb, lo, none⟩) cl (l.take k) n W (by simp; omega) hrW
      rw [List.length_take, Nat.min_eq_left (show k ≤ l.length by omega)] at hPH hpre
      have HPRE := Lib.hid hpre
      have HPH := Lib.hid hPH
      have HX := Lib.hid hx
      have HGET := Lib.hid hget
      clear hpre hPH hx hget
      obtain ⟨gi, hgi⟩ : ∃ b, inB x 0 ((p.s.length : Int) - 1) = b := ⟨_, rfl⟩
      have hCI := fun W => l1In_any x 0 ((p.s.length : Int) - 1) W
      rw [hgi] at hCI
      have HCI := Lib.hid hCI
      clear hCI
      cases gi with
      | false =>
        have hb : ordB N p l = false := ordB_bad hlt (by unfold ordAt; rw [HGET.out, hgi]; rfl)
        have HBF := Lib.hid hb
        clear hb hgi
        go_wp2_with (go_at_call 51; refine (HCI.out _).mono ?_; rintro e w' ⟨rfl, rfl⟩)
        go_ret
        exact ⟨ret_bool HBF.out.symm, HBW.out⟩
      | true =>
        obtain ⟨v0, v1⟩ : 0 ≤ x ∧ x ≤ (p.s.length : Int) - 1 := by simpa [inB] using hgi
        have HGI := Lib.hid hgi
        obtain ⟨n, hn⟩ : ∃ n : Nat, x = n := ⟨x.toNat, by omega⟩
        subst hn
        have hns : n < p.s.length := by omega
        have ins : (n : Int) < (p.s.length : Int) := by omega
        clear hgi
        obtain ⟨gh, hgh⟩ : ∃ b, hasI (l.take k) (n : Int) = b := ⟨_, rfl⟩
        have hC := fun W hrW => HPH.out W hrW (n : Int)
        rw [hgh] at hC
        have HC := Lib.hid hC
        clear hC
        cases gh with
        | true =>
          have hb : ordB N p l = false := ordB_bad hlt (by unfold ordAt; rw [HGET.out, hgh]; simp)
          have HBF := Lib.hid hb
          clear hb hgh
          go_wp2_with (first
            | (go_at_call 51; refine (HCI.out _).mono ?_; rintro e w' ⟨rfl, rfl⟩)
            | (go_at_call 66; refine (HC.out _ HPRE.out).mono ?_; rintro e w' ⟨rfl, rfl⟩))
          go_ret
          exact ⟨ret_bool HBF.out.symm, HBW.out⟩
        | false =>
          have HGH := Lib.hid hgh
          clear hgh
          obtain ⟨sb, off, rfl, hsb, hc1, hc2⟩ := (H.out.below' HBW.out hB).1.stp hns
          obtain ⟨s1, s2, s3⟩ := HO.out n hns
          have hsa := stepAt_eq hlt HX.out hns
          obtain ⟨a, ha⟩ : ∃ a : Nat, (p.s[n]).1 = a := ⟨(p.s[n]).1.toNat, by omega⟩
          obtain ⟨b, hb⟩ : ∃ b : Nat, (p.s[n]).2 = b := ⟨(p.s[n]).2.toNat, by omega⟩
          rw [ha] at hc1 s1 s2
          rw [hb] at hc2 s2 s3
          have hat : ordAt N p l k = (nmOk N (l.take k) (a : Int) && nmOk N (l.take k) (b : Int)) := by
            unfold ordAt
            rw [HGET.out, HGI.out, HGH.out, hsa, ha, hb]
            rfl
          have HAT := Lib.hid hat
          have hsubA : IntKind.i64.wrap ((a : Int) - (N : Int)) = (a : Int) - N := IntWalk.i64_in _ (by omega)
          have hsubB : IntKind.i64.wrap ((b : Int) - (N : Int)) = (b : Int) - N := IntWalk.i64_in _ (by omega)
          clear hat ha hb hsa s1 s2 s3
          obtain ⟨ga, hga⟩ : ∃ q, hasI (l.take k) ((a : Int) - (N : Int)) = q := ⟨_, rfl⟩
          obtain ⟨gb, hgb⟩ : ∃ q, hasI (l.take k) ((b : Int) - (N : Int)) = q := ⟨_, rfl⟩
          have hCA := fun W hrW => HPH.out W hrW ((a : Int) - (N : Int))
          have hCB := fun W hrW => HPH.out W hrW ((b : Int) - (N : Int))
          rw [hga] at hCA
          rw [hgb] at hCB
          have HCA := Lib.hid hCA
          have HCB := Lib.hid hCB
          have HGA := Lib.hid hga
          have HGB := Lib.hid hgb
          clear hCA hCB hga hgb
          by_cases hA : (a : Int) < (N : Int)
          · have hAn : ¬ N ≤ a := by omega
            by_cases hBb : (b : Int) < (N : Int)
            · have hBn : ¬ N ≤ b := by omega
              have h1 : nmOk N (l.take k) (a : Int) = true := by
                unfold nmOk
                rw [Bool.or_eq_true, decide_eq_true_eq]
                exact .inl hA
              have h2 : nmOk N (l.take k) (b : Int) = true := by
                unfold nmOk
                rw [Bool.or_eq_true, decide_eq_true_eq]
                exact .inl hBb
              have HOK := Lib.hid (show (nmOk N (l.take k) (a : Int) && nmOk N (l.take k) (b : Int)) = true by rw [h1, h2]; rfl)
              clear h1 h2
              go_wp2_with (first
                | (go_at_call 51; refine (HCI.out _).mono ?_; rintro e w' ⟨rfl, rfl⟩)
                | (go_at_call 66; refine (HC.out _ HPRE.out).mono ?_; rintro e w' ⟨rfl, rfl⟩))
              generalize hw5 : World.alloc wr _ = w5
              obtain ⟨e0, e1, es, eb⟩ := box2 hw5
              clear hw5
              have z0 := (eb.cell (p := ⟨w.heap.size, 0, none⟩) (by simp only []; omega)).trans y0
              have HPRE5 := Lib.hid (HPRE.out.below' eb (by have := HBW.out.size; omega))
              have EB := Lib.hid eb
              clear eb
              refine wp_region_Tw [0, 1, 2, 3, 4, 5, 6, 7, 8, 9, 10, 11, 12, 13, 15, 16, 17, 18, 19, 20, 21, 22, 23, 24, 25, 26, 27, 28, 29, 30, 31, 33, 34, 35] [1, 3, 10, 12, 19, 21, 28, 30] (.lp 0 (.lp 2 (.ls 1 (.ls 3 (.lp 4 (.lp 5 (.lp 6 (.lp 7 (.lp 8 (.lp 9 (.lp 11 (.ls 10 (.ls 12 (.lp 13 (.hv 14 (.lp 15 (.lp 16 (.lp 17 (.lp 18 (.lp 20 (.ls 19 (.ls 21 (.lp 22 (.lp 23 (.lp 24 (.lp 25 (.lp 26 (.lp 27 (.lp 29 (.ls 28 (.ls 30 (.lp 31 (.hv 32 (.lp 33 (.lp 34 (.lp 35 (.done))))))))))))))))))))))))))))))))))))) (by kernel_rfl) (by kernel_rfl) ?_
              (repeat (first | (refine T_lp rfl (fun K hK => ?_); go_simp; refine hK _ ?_; clear hK K) | (refine T_ls rfl rfl (fun K hK => ?_); go_simp; refine hK _ ?_; clear hK K)))
              refine T_hvS rfl (fun K hK => ?_)
              go_simp
              refine hK _ _ rfl ?_
              clear hK K
              (repeat (first | (refine T_lp rfl (fun K hK => ?_); go_simp; refine hK _ ?_; clear hK K) | (refine T_ls rfl rfl (fun K hK => ?_); go_simp; refine hK _ ?_; clear hK K)))
              refine T_hvS rfl (fun K hK => ?_)
              go_simp
              refine hK _ _ rfl ?_
              clear hK K
              (repeat (first | (refine T_lp rfl (fun K hK => ?_); go_simp; refine hK _ ?_; clear hK K) | (refine T_ls rfl rfl (fun K hK => ?_); go_simp; refine hK _ ?_; clear hK K)))
              refine T_done ?_
              go_wp2
              go_roundw
              case rel => exact ⟨k + 1, by omega, by go_num, by rw [ordK_succ, Q.out, HAT.out, HOK.out]; rfl, HBL.out.trans ((EB.out.drew).mono (by have := HBL.out.size; omega))⟩
              case measure => simp [intOf]; omega
            · have hBge : (N : Int) ≤ (b : Int) := by omega
              cases gb with
              | true =>
                have h1 : nmOk N (l.take k) (a : Int) = true := by
                  unfold nmOk
                  rw [Bool.or_eq_true, decide_eq_true_eq]
                  exact .inl hA
                have h2 : nmOk N (l.take k) (b : Int) = true := by
                  unfold nmOk
                  rw [Bool.or_eq_true, decide_eq_true_eq]
                  exact .inr HGB.out
                have HOK := Lib.hid (show (nmOk N (l.take k) (a : Int) && nmOk N (l.take k) (b : Int)) = true by rw [h1, h2]; rfl)
                clear h1 h2
                go_wp2_with (first
                  | (go_at_call 51; refine (HCI.out _).mono ?_; rintro e w' ⟨rfl, rfl⟩)
                  | (go_at_call 66; refine (HC.out _ HPRE.out).mono ?_; rintro e w' ⟨rfl, rfl⟩))
                generalize hw5 : World.alloc wr _ = w5
                obtain ⟨e0, e1, es, eb⟩ := box2 hw5
                clear hw5
                have z0 := (eb.cell (p := ⟨w.heap.size, 0, none⟩) (by simp only []; omega)).trans y0
                have HPRE5 := Lib.hid (HPRE.out.below' eb (by have := HBW.out.size; omega))
                have EB := Lib.hid eb
                clear eb
                refine wp_region_Tw [0, 1, 2, 3, 4, 5, 6, 7, 8, 9, 10, 11, 12, 13, 15, 16, 17, 18, 19, 20, 21, 22, 23, 24, 25, 26, 27, 28, 29, 30, 31, 33, 34, 35] [1, 3, 10, 12, 19, 21, 28, 30] (.lp 0 (.lp 2 (.ls 1 (.ls 3 (.lp 4 (.lp 5 (.lp 6 (.lp 7 (.lp 8 (.lp 9 (.lp 11 (.ls 10 (.ls 12 (.lp 13 (.hv 14 (.lp 15 (.lp 16 (.lp 17 (.lp 18 (.lp 20 (.ls 19 (.ls 21 (.lp 22 (.lp 23 (.lp 24 (.lp 25 (.lp 26 (.lp 27 (.lp 29 (.ls 28 (.ls 30 (.lp 31 (.hv 32 (.lp 33 (.lp 34 (.lp 35 (.done))))))))))))))))))))))))))))))))))))) (by kernel_rfl) (by kernel_rfl) ?_
                (repeat (first | (refine T_lp rfl (fun K hK => ?_); go_simp; refine hK _ ?_; clear hK K) | (refine T_ls rfl rfl (fun K hK => ?_); go_simp; refine hK _ ?_; clear hK K)))
                refine T_hvS rfl (fun K hK => ?_)
                go_simp
                refine hK _ _ rfl ?_
                clear hK K
                (repeat (first | (refine T_lp rfl (fun K hK => ?_); go_simp; refine hK _ ?_; clear hK K) | (refine T_ls rfl rfl (fun K hK => ?_); go_simp; refine hK _ ?_; clear hK K)))
                refine T_hvS rfl (fun K hK => ?_)
                go_simp
                go_at_call 66
                refine (HCB.out _ HPRE5.out.drew).mono ?_
                rintro e w' ⟨rfl, rfl⟩
                go_simp
                refine hK _ _ rfl ?_
                clear hK K
                (repeat (first | (refine T_lp rfl (fun K hK => ?_); go_simp; refine hK _ ?_; clear hK K) | (refine T_ls rfl rfl (fun K hK => ?_); go_simp; refine hK _ ?_; clear hK K)))
                refine T_done ?_
                go_wp2
                go_roundw
                case rel => exact ⟨k + 1, by omega, by go_num, by rw [ordK_succ, Q.out, HAT.out, HOK.out]; rfl, HBL.out.trans ((EB.out.drew).mono (by have := HBL.out.size; omega))⟩
                case measure => simp [intOf]; omega
              | false =>
                have h2 : nmOk N (l.take k) (b : Int) = false := by
                  unfold nmOk
                  rw [HGB.out, Bool.or_false, decide_eq_false_iff_not]
                  omega
                have HBF := Lib.hid (ordB_bad hlt (by rw [HAT.out, h2, Bool.and_false]))
                clear h2
                go_wp2_with (first
                  | (go_at_call 51; refine (HCI.out _).mono ?_; rintro e w' ⟨rfl, rfl⟩)
                  | (go_at_call 66; refine (HC.out _ HPRE.out).mono ?_; rintro e w' ⟨rfl, rfl⟩))
                generalize hw5 : World.alloc wr _ = w5
                obtain ⟨e0, e1, es, eb⟩ := box2 hw5
                clear hw5
                have z0 := (eb.cell (p := ⟨w.heap.size, 0, none⟩) (by simp only []; omega)).trans y0
                have HPRE5 := Lib.hid (HPRE.out.below' eb (by have := HBW.out.size; omega))
                have EB := Lib.hid eb
                clear eb
                refine wp_region_Tw [0, 1, 2, 3, 4, 5, 6, 7, 8, 9, 10, 11, 12, 13, 15, 16, 17, 18, 19, 20, 21, 22, 23, 24, 25, 26, 27, 28, 29, 30, 31, 33, 34, 35] [1, 3, 10, 12, 19, 21, 28, 30] (.lp 0 (.lp 2 (.ls 1 (.ls 3 (.lp 4 (.lp 5 (.lp 6 (.lp 7 (.lp 8 (.lp 9 (.lp 11 (.ls 10 (.ls 12 (.lp 13 (.hv 14 (.lp 15 (.lp 16 (.lp 17 (.lp 18 (.lp 20 (.ls 19 (.ls 21 (.lp 22 (.lp 23 (.lp 24 (.lp 25 (.lp 26 (.lp 27 (.lp 29 (.ls 28 (.ls 30 (.lp 31 (.hv 32 (.lp 33 (.lp 34 (.lp 35 (.done))))))))))))))))))))))))))))))))))))) (by kernel_rfl) (by kernel_rfl) ?_
                (repeat (first | (refine T_lp rfl (fun K hK => ?_); go_simp; refine hK _ ?_; clear hK K) | (refine T_ls rfl rfl (fun K hK => ?_); go_simp; refine hK _ ?_; clear hK K)))
                refine T_hvS rfl (fun K hK => ?_)
                go_simp
                refine hK _ _ rfl ?_
                clear hK K
                (repeat (first | (refine T_lp rfl (fun K hK => ?_); go_simp; refine hK _ ?_; clear hK K) | (refine T_ls rfl rfl (fun K hK => ?_); go_simp; refine hK _ ?_; clear hK K)))
                refine T_hvS rfl (fun K hK => ?_)
                go_simp
                go_at_call 66
                refine (HCB.out _ HPRE5.out.drew).mono ?_
                rintro e w' ⟨rfl, rfl⟩
                go_simp
                refine hK _ _ rfl ?_
                clear hK K
                (repeat (first | (refine T_lp rfl (fun K hK => ?_); go_simp; refine hK _ ?_; clear hK K) | (refine T_ls rfl rfl (fun K hK => ?_); go_simp; refine hK _ ?_; clear hK K)))
                refine T_done ?_
                go_wp2
                go_ret
                exact ⟨ret_bool HBF.out.symm, HBW.out.trans ((EB.out.drew).mono HBW.out.size)⟩
          · have hAge : (N : Int) ≤ (a : Int) := by omega
            cases ga with
            | true =>
              by_cases hBb : (b : Int) < (N : Int)
              · have hBn : ¬ N ≤ b := by omega
                have h1 : nmOk N (l.take k) (a : Int) = true := by
                  unfold nmOk
                  rw [Bool.or_eq_true, decide_eq_true_eq]
                  exact .inr HGA.out
                have h2 : nmOk N (l.take k) (b : Int) = true := by
                  unfold nmOk
                  rw [Bool.or_eq_true, decide_eq_true_eq]
                  exact .inl hBb
                have HOK := Lib.hid (show (nmOk N (l.take k) (a : Int) && nmOk N (l.take k) (b : Int)) = true by rw [h1, h2]; rfl)
                clear h1 h2
                go_wp2_with (first
                  | (go_at_call 51; refine (HCI.out _).mono ?_; rintro e w' ⟨rfl, rfl⟩)
                  | (go_at_call 66; refine (HC.out _ HPRE.out).mono ?_; rintro e w' ⟨rfl, rfl⟩))
                generalize hw5 : World.alloc wr _ = w5
                obtain ⟨e0, e1, es, eb⟩ := box2 hw5
                clear hw5
                have z0 := (eb.cell (p := ⟨w.heap.size, 0, none⟩) (by simp only []; omega)).trans y0
                have HPRE5 := Lib.hid (HPRE.out.below' eb (by have := HBW.out.size; omega))
                have EB := Lib.hid eb
                clear eb
                refine wp_region_Tw [0, 1, 2, 3, 4, 5, 6, 7, 8, 9, 10, 11, 12, 13, 15, 16, 17, 18, 19, 20, 21, 22, 23, 24, 25, 26, 27, 28, 29, 30, 31, 33, 34, 35] [1, 3, 10, 12, 19, 21, 28, 30] (.lp 0 (.lp 2 (.ls 1 (.ls 3 (.lp 4 (.lp 5 (.lp 6 (.lp 7 (.lp 8 (.lp 9 (.lp 11 (.ls 10 (.ls 12 (.lp 13 (.hv 14 (.lp 15 (.lp 16 (.lp 17 (.lp 18 (.lp 20 (.ls 19 (.ls 21 (.lp 22 (.lp 23 (.lp 24 (.lp 25 (.lp 26 (.lp 27 (.lp 29 (.ls 28 (.ls 30 (.lp 31 (.hv 32 (.lp 33 (.lp 34 (.lp 35 (.done))))))))))))))))))))))))))))))))))))) (by kernel_rfl) (by kernel_rfl) ?_
                (repeat (first | (refine T_lp rfl (fun K hK => ?_); go_simp; refine hK _ ?_; clear hK K) | (refine T_ls rfl rfl (fun K hK => ?_); go_simp; refine hK _ ?_; clear hK K)))
                refine T_hvS rfl (fun K hK => ?_)
                go_simp
                go_at_call 66
                refine (HCA.out _ HPRE5.out.drew).mono ?_
                rintro e w' ⟨rfl, rfl⟩
                go_simp
                refine hK _ _ rfl ?_
                clear hK K
                (repeat (first | (refine T_lp rfl (fun K hK => ?_); go_simp; refine hK _ ?_; clear hK K) | (refine T_ls rfl rfl (fun K hK => ?_); go_simp; refine hK _ ?_; clear hK K)))
                refine T_hvS rfl (fun K hK => ?_)
                go_simp
                refine hK _ _ rfl ?_
                clear hK K
                (repeat (first | (refine T_lp rfl (fun K hK => ?_); go_simp; refine hK _ ?_; clear hK K) | (refine T_ls rfl rfl (fun K hK => ?_); go_simp; refine hK _ ?_; clear hK K)))
                refine T_done ?_
                go_wp2
                go_roundw
                case rel => exact ⟨k + 1, by omega, by go_num, by rw [ordK_succ, Q.out, HAT.out, HOK.out]; rfl, HBL.out.trans ((EB.out.drew).mono (by have := HBL.out.size; omega))⟩
                case measure => simp [intOf]; omega
              · have hBge : (N : Int) ≤ (b : Int) := by omega
                cases gb with
                | true =>
                  have h1 : nmOk N (l.take k) (a : Int) = true := by
                    unfold nmOk
                    rw [Bool.or_eq_true, decide_eq_true_eq]
                    exact .inr HGA.out
                  have h2 : nmOk N (l.take k) (b : Int) = true := by
                    unfold nmOk
                    rw [Bool.or_eq_true, decide_eq_true_eq]
                    exact .inr HGB.out
                  have HOK := Lib.hid (show (nmOk N (l.take k) (a : Int) && nmOk N (l.take k) (b : Int)) = true by rw [h1, h2]; rfl)
                  clear h1 h2
                  go_wp2_with (first
                    | (go_at_call 51; refine (HCI.out _).mono ?_; rintro e w' ⟨rfl, rfl⟩)
                    | (go_at_call 66; refine (HC.out _ HPRE.out).mono ?_; rintro e w' ⟨rfl, rfl⟩))
                  generalize hw5 : World.alloc wr _ = w5
                  obtain ⟨e0, e1, es, eb⟩ := box2 hw5
                  clear hw5
                  have z0 := (eb.cell (p := ⟨w.heap.size, 0, none⟩) (by simp only []; omega)).trans y0
                  have HPRE5 := Lib.hid (HPRE.out.below' eb (by have := HBW.out.size; omega))
                  have EB := Lib.hid eb
                  clear eb
                  refine wp_region_Tw [0, 1, 2, 3, 4, 5, 6, 7, 8, 9, 10, 11, 12, 13, 15, 16, 17, 18, 19, 20, 21, 22, 23, 24, 25, 26, 27, 28, 29, 30, 31, 33, 34, 35] [1, 3, 10, 12, 19, 21, 28, 30] (.lp 0 (.lp 2 (.ls 1 (.ls 3 (.lp 4 (.lp 5 (.lp 6 (.lp 7 (.lp 8 (.lp 9 (.lp 11 (.ls 10 (.ls 12 (.lp 13 (.hv 14 (.lp 15 (.lp 16 (.lp 17 (.lp 18 (.lp 20 (.ls 19 (.ls 21 (.lp 22 (.lp 23 (.lp 24 (.lp 25 (.lp 26 (.lp 27 (.lp 29 (.ls 28 (.ls 30 (.lp 31 (.hv 32 (.lp 33 (.lp 34 (.lp 35 (.done))))))))))))))))))))))))))))))))))))) (by kernel_rfl) (by kernel_rfl) ?_
                  (repeat (first | (refine T_lp rfl (fun K hK => ?_); go_simp; refine hK _ ?_; clear hK K) | (refine T_ls rfl rfl (fun K hK => ?_); go_simp; refine hK _ ?_; clear hK K)))
                  refine T_hvS rfl (fun K hK => ?_)
                  go_simp
                  go_at_call 66
                  refine (HCA.out _ HPRE5.out.drew).mono ?_
                  rintro e w' ⟨rfl, rfl⟩
                  go_simp
                  refine hK _ _ rfl ?_
                  clear hK K
                  (repeat (first | (refine T_lp rfl (fun K hK => ?_); go_simp; refine hK _ ?_; clear hK K) | (refine T_ls rfl rfl (fun K hK => ?_); go_simp; refine hK _ ?_; clear hK K)))
                  refine T_hvS rfl (fun K hK => ?_)
                  go_simp
                  go_at_call 66
                  refine (HCB.out _ HPRE5.out.drew).mono ?_
                  rintro e w' ⟨rfl, rfl⟩
                  go_simp
                  refine hK _ _ rfl ?_
                  clear hK K
                  (repeat (first | (refine T_lp rfl (fun K hK => ?_); go_simp; refine hK _ ?_; clear hK K) | (refine T_ls rfl rfl (fun K hK => ?_); go_simp; refine hK _ ?_; clear hK K)))
                  refine T_done ?_
                  go_wp2
                  go_roundw
                  case rel => exact ⟨k + 1, by omega, by go_num, by rw [ordK_succ, Q.out, HAT.out, HOK.out]; rfl, HBL.out.trans ((EB.out.drew).mono (by have := HBL.out.size; omega))⟩
                  case measure => simp [intOf]; omega
                | false =>
                  have h2 : nmOk N (l.take k) (b : Int) = false := by
                    unfold nmOk
                    rw [HGB.out, Bool.or_false, decide_eq_false_iff_not]
                    omega
                  have HBF := Lib.hid (ordB_bad hlt (by rw [HAT.out, h2, Bool.and_false]))
                  clear h2
                  go_wp2_with (first
                    | (go_at_call 51; refine (HCI.out _).mono ?_; rintro e w' ⟨rfl, rfl⟩)
                    | (go_at_call 66; refine (HC.out _ HPRE.out).mono ?_; rintro e w' ⟨rfl, rfl⟩))
                  generalize hw5 : World.alloc wr _ = w5
                  obtain ⟨e0, e1, es, eb⟩ := box2 hw5
                  clear hw5
                  have z0 := (eb.cell (p := ⟨w.heap.size, 0, none⟩) (by simp only []; omega)).trans y0
                  have HPRE5 := Lib.hid (HPRE.out.below' eb (by have := HBW.out.size; omega))
                  have EB := Lib.hid eb
                  clear eb
                  refine wp_region_Tw [0, 1, 2, 3, 4, 5, 6, 7, 8, 9, 10, 11, 12, 13, 15, 16, 17, 18, 19, 20, 21, 22, 23, 24, 25, 26, 27, 28, 29, 30, 31, 33, 34, 35] [1, 3, 10, 12, 19, 21, 28, 30] (.lp 0 (.lp 2 (.ls 1 (.ls 3 (.lp 4 (.lp 5 (.lp 6 (.lp 7 (.lp 8 (.lp 9 (.lp 11 (.ls 10 (.ls 12 (.lp 13 (.hv 14 (.lp 15 (.lp 16 (.lp 17 (.lp 18 (.lp 20 (.ls 19 (.ls 21 (.lp 22 (.lp 23 (.lp 24 (.lp 25 (.lp 26 (.lp 27 (.lp 29 (.ls 28 (.ls 30 (.lp 31 (.hv 32 (.lp 33 (.lp 34 (.lp 35 (.done))))))))))))))))))))))))))))))))))))) (by kernel_rfl) (by kernel_rfl) ?_
                  (repeat (first | (refine T_lp rfl (fun K hK => ?_); go_simp; refine hK _ ?_; clear hK K) | (refine T_ls rfl rfl (fun K hK => ?_); go_simp; refine hK _ ?_; clear hK K)))
                  refine T_hvS rfl (fun K hK => ?_)
                  go_simp
                  go_at_call 66
                  refine (HCA.out _ HPRE5.out.drew).mono ?_
                  rintro e w' ⟨rfl, rfl⟩
                  go_simp
                  refine hK _ _ rfl ?_
                  clear hK K
                  (repeat (first | (refine T_lp rfl (fun K hK => ?_); go_simp; refine hK _ ?_; clear hK K) | (refine T_ls rfl rfl (fun K hK => ?_); go_simp; refine hK _ ?_; clear hK K)))
                  refine T_hvS rfl (fun K hK => ?_)
                  go_simp
                  go_at_call 66
                  refine (HCB.out _ HPRE5.out.drew).mono ?_
                  rintro e w' ⟨rfl, rfl⟩
                  go_simp
                  refine hK _ _ rfl ?_
                  clear hK K
                  (repeat (first | (refine T_lp rfl (fun K hK => ?_); go_simp; refine hK _ ?_; clear hK K) | (refine T_ls rfl rfl (fun K hK => ?_); go_simp; refine hK _ ?_; clear hK K)))
                  refine T_done ?_
                  go_wp2
                  go_ret
                  exact ⟨ret_bool HBF.out.symm, HBW.out.trans ((EB.out.drew).mono HBW.out.size)⟩
            | false =>
              have h1 : nmOk N (l.take k) (a : Int) = false := by
                unfold nmOk
                rw [HGA.out, Bool.or_false, decide_eq_false_iff_not]
                omega
              have HBF := Lib.hid (ordB_bad hlt (by rw [HAT.out, h1]; rfl))
              clear h1
              go_wp2_with (first
                | (go_at_call 51; refine (HCI.out _).mono ?_; rintro e w' ⟨rfl, rfl⟩)
                | (go_at_call 66; refine (HC.out _ HPRE.out).mono ?_; rintro e w' ⟨rfl, rfl⟩))
              generalize hw5 : World.alloc wr _ = w5
              obtain ⟨e0, e1, es, eb⟩ := box2 hw5
              clear hw5
              have z0 := (eb.cell (p := ⟨w.heap.size, 0, none⟩) (by simp only []; omega)).trans y0
              have HPRE5 := Lib.hid (HPRE.out.below' eb (by have := HBW.out.size; omega))
              have EB := Lib.hid eb
              clear eb
              refine wp_region_Tw [0, 1, 2, 3, 4, 5, 6, 7, 8, 9, 10, 11, 12, 13, 15, 16, 17, 18, 19, 20, 21, 22, 23, 24, 25, 26, 27, 28, 29, 30, 31, 33, 34, 35] [1, 3, 10, 12, 19, 21, 28, 30] (.lp 0 (.lp 2 (.ls 1 (.ls 3 (.lp 4 (.lp 5 (.lp 6 (.lp 7 (.lp 8 (.lp 9 (.lp 11 (.ls 10 (.ls 12 (.lp 13 (.hv 14 (.lp 15 (.lp 16 (.lp 17 (.lp 18 (.lp 20 (.ls 19 (.ls 21 (.lp 22 (.lp 23 (.lp 24 (.lp 25 (.lp 26 (.lp 27 (.lp 29 (.ls 28 (.ls 30 (.lp 31 (.hv 32 (.lp 33 (.lp 34 (.lp 35 (.done))))))))))))))))))))))))))))))))))))) (by kernel_rfl) (by kernel_rfl) ?_
              (repeat (first | (refine T_lp rfl (fun K hK => ?_); go_simp; refine hK _ ?_; clear hK K) | (refine T_ls rfl rfl (fun K hK => ?_); go_simp; refine hK _ ?_; clear hK K)))
              refine T_hvS rfl (fun K hK => ?_)
              go_simp
              go_at_call 66
              refine (HCA.out _ HPRE5.out.drew).mono ?_
              rintro e w' ⟨rfl, rfl⟩
              go_simp
              refine hK _ _ rfl ?_
              clear hK K
              (repeat (first | (refine T_lp rfl (fun K hK => ?_); go_simp; refine hK _ ?_; clear hK K) | (refine T_ls rfl rfl (fun K hK => ?_); go_simp; refine hK _ ?_; clear hK K)))
              refine T_hvS rfl (fun K hK => ?_)
              go_simp
              refine hK _ _ rfl ?_
              clear hK K
              (repeat (first | (refine T_lp rfl (fun K hK => ?_); go_simp; refine hK _ ?_; clear hK K) | (refine T_ls rfl rfl (fun K hK => ?_); go_simp; refine hK _ ?_; clear hK K)))
              refine T_done ?_
              go_wp2
              go_ret
              exact ⟨ret_bool HBF.out.symm, HBW.out.trans ((EB.out.drew).mono HBW.out.size)⟩
    · have hk' : k = l.length := by omega
      have hq := Q.out
      rw [hk'] at hq
      have hb : ordB N p l = true := by
        unfold ordB
        rw [hq, Bool.and_true]
        exact decide_eq_true HLEN.out
      have HBF := Lib.hid hb
      clear hq hb hk'
      go_wp2
      go_ret
      exact ⟨ret_bool HBF.out.symm, HBW.out⟩
end Go.Proofs.Ytppfpdobdoaoiab
