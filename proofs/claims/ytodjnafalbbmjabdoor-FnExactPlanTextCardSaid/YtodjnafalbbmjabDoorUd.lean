/- PlanText, by the program. -/
import Derived.Test.YtodjnafalbbmjabDoorUc
namespace Go.Proofs.YtodjnafalbbmjabDoor
open Go.RowKit

set_option maxRecDepth 100000 in
set_option maxHeartbeats 4000000 in
theorem implPlanText_some (B : Nat) (A1 A2 : Option Addr) (c1 c2 : Nat) (p : Pl) (w : World) (hB : B ≤ w.heap.size) (hg : good p = true) (hr : RdP w B A1 A2 p) (hT : Tab w) :
    Calls Tryd.prog 18 #[.agg #[.int .i64 p.n, .slice A1 p.s.length c1, .slice A2 p.o.length c2]] w fun e w' => e = .returned (.tuple #[.string ⟨(plT p).toArray⟩, .bool true]) ∧ Below w.heap.size w w' := by
  obtain ⟨n, hn, hn1, hn6, hl40, hl6, hrest⟩ := good_facts hg
  clear hrest
  have hS := sml_of_good hg
  have H := Lib.hid hr
  have HTAB := Lib.hid hT
  have SM := Lib.hid hS
  have hG := fun W (hb : Below w.heap.size w W) => implIsPlan_any B A1 A2 c1 c2 p W (by have := hb.size; omega) (by omega) (by omega) (H.out.below' hb hB)
  rw [hg] at hG
  rw [hn] at hG
  have HG := Lib.hid hG
  have hmk : ∀ W : World, (Instr.makeSlice 48 (.int .i64 (p.s.length : Int)) (.int .i64 (p.s.length : Int))).run Tryd.prog W = .ok (.slice (some ⟨W.heap.size, 0, none⟩) p.s.length p.s.length) (W.alloc (.cells (madeCells #[.string ⟨#[]⟩] p.s.length) 9)) := run_make_row' (P := Tryd.prog) 48 9 (.string ⟨#[]⟩) 16 Tryd.underlying48 info_str rfl .i64 .i64 p.s.length (by omega) (by omega)
  have HNN := Lib.hid (fun W (hb : Below w.heap.size w W) => itoa_any n W (by omega) (HTAB.out.on hb))
  have HNT := Lib.hid (fun W (hb : Below w.heap.size w W) => numberTexts_any B A2 c2 p.o W (by omega) hS.o (by have := hb.size; omega) (H.out.2.below' hb hB) (HTAB.out.on hb))
  have hLs := sTx_len (s := p.s) (fun st hst => ⟨(hS.s st hst).1.2, (hS.s st hst).2.2⟩)
  have hLo := txt_len (c := 44) (l := p.o) (fun x hx => (hS.o x hx).2)
  have HL1 := Lib.hid (fun (W : World) (B' : Nat) (A' : Option Addr) (c' : Nat) (h : OwT W B' (.slice A' p.s.length c') (p.s.map stT)) => listText_any B' A' c' p.s.length (p.s.map stT) W (by simp) h (by show (sTx p.s).length ≤ _; omega) (by omega))
  have HL2 := Lib.hid (fun (W : World) (B' : Nat) (A' : Option Addr) (c' : Nat) (h : OwT W B' (.slice A' p.o.length c') (p.o.map ddI)) => listText_any B' A' c' p.o.length (p.o.map ddI) W (by simp) h (by show (txt 44 p.o).length ≤ _; omega) (by omega))
  have hLo2 := lsT_len (l := p.o) (fun x hx => (hS.o x hx).2)
  have hLs2 : (sLT p.s).length ≤ 16 * p.s.length + 1 := by
    unfold sLT
    split
    · simp
    · omega
  have hLn := dd_len7 (n := n) (by omega)
  have HE := Lib.hid (show plT p = Lib.decDigits n ++ [58] ++ sLT p.s ++ [58] ++ lsT p.o from by unfold plT ddI; rw [hn]; rfl)
  rw [jn_st] at HL1
  rw [jn_ls] at HL2
  obtain ⟨DN, hDN⟩ : ∃ D, Lib.decDigits n = D := ⟨_, rfl⟩
  obtain ⟨LO, hLO⟩ : ∃ D, lsT p.o = D := ⟨_, rfl⟩
  obtain ⟨LS, hLS⟩ : ∃ D, sLT p.s = D := ⟨_, rfl⟩
  rw [hDN] at hLn HE HNN
  rw [hLO] at hLo2 HE HL2
  rw [hLS] at hLs2 HE HL1
  have hv1 : ¬ 9223372036854775807 < DN.length + 1 := by omega
  have hv2 : ¬ 9223372036854775807 < DN.length + 1 + LS.length := by omega
  have hv3 : ¬ 9223372036854775807 < DN.length + 1 + LS.length + 1 := by omega
  have hv4 : ¬ 9223372036854775807 < DN.length + 1 + LS.length + 1 + LO.length := by omega
  rw [hn]
  clear hr hT hG hg hS hDN hLO hLS hLs hLo hn
  go_enter Tryd.func18, Tryd.ntmps18
  go_wp2_with fail
  go_at_call 39
  generalize hw1 : World.alloc w _ = w1
  obtain ⟨y0, y1, y2, ys, yb⟩ := box3 hw1
  clear hw1
  refine (HG.out _ yb).mono ?_
  rintro e w2 ⟨rfl, hb2⟩
  have z0 := (hb2.cell (p := ⟨w.heap.size, 0, none⟩) (by simp only []; omega)).trans y0
  have z1 := (hb2.cell (p := ⟨w.heap.size, 1, none⟩) (by simp only []; omega)).trans y1
  have z2 := (hb2.cell (p := ⟨w.heap.size, 2, none⟩) (by simp only []; omega)).trans y2
  have HB := Lib.hid (yb.trans (hb2.mono yb.size))
  have hz2 : w.heap.size < w2.heap.size := by have := hb2.size; omega
  clear y0 y1 y2 ys yb hb2
  have hz := World.ownsRow_lit (base := w2.heap.size) (e := 9) (size := 1) w2 (madeCells #[Value.string ⟨#[]⟩] p.s.length) p.s.length (Nat.le_refl _) (by unfold maxLen; omega) (by simp [size_madeCells])
  rw [toList_madeCells_one, show List.replicate p.s.length (Value.string ⟨#[]⟩) = tyr (p.s.map stT) 0 by rw [tyr_zero, List.length_map]] at hz
  have HZ := Lib.hid hz
  have Z0 := Lib.hid z0
  have Z2 := Lib.hid z2
  have z1' := cell_kept z1
  clear hz
  go_wp2
  clear hmk z1' z0 z1 z2
  generalize hw3 : World.alloc w2 _ = w3
  have h3 := HZ.out
  rw [hw3] at h3
  have hb3 : Below w2.heap.size w2 w3 := by rw [← hw3]; exact (Below.refl _ _).alloc (Nat.le_refl _) _
  have H3 := Lib.hid h3
  have HB3 := Lib.hid hb3
  clear hw3 h3 hb3 HZ
  go_loopw [17] (fun iv wr => ∃ k : Nat, k ≤ p.s.length ∧ iv = .int .i64 (k : Int) ∧ wr.ownsRow w2.heap.size 9 1 (.slice (some ⟨w2.heap.size, 0, none⟩) p.s.length p.s.length) p.s.length (tyr (p.s.map stT) k) ∧ Below w2.heap.size w2 wr) (fun iv _ => p.s.length - (intOf iv).toNat)
  case atStart => exact ⟨0, by omega, rfl, H3.out, HB3.out⟩
  case round =>
    obtain ⟨k, hk, rfl, hown, hbel⟩ := hrel
    have OWN := Lib.hid hown
    have BEL0 := Lib.hid hbel
    have BEL := Lib.hid (HB.out.trans (hbel.mono HB.out.size))
    have BSZ := Lib.hid (show w2.heap.size ≤ wr.heap.size from hbel.size)
    clear hown hbel
    by_cases hlt : k < p.s.length
    · obtain ⟨sb, off, rfl, hsb, hc1, hc2⟩ := (H.out.1.below' BEL.out hB).stp hlt
      obtain ⟨⟨q1, q2⟩, q3, q4⟩ := SM.out.s p.s[k] (List.getElem_mem hlt)
      have ht := tyr_set (ts := p.s.map stT) (k := k) (by simpa using hlt)
      obtain ⟨a, ha⟩ : ∃ a : Nat, (p.s[k]).1 = a := ⟨(p.s[k]).1.toNat, by omega⟩
      obtain ⟨b, hb⟩ : ∃ b : Nat, (p.s[k]).2 = b := ⟨(p.s[k]).2.toNat, by omega⟩
      rw [ha] at hc1 q1 q2
      rw [hb] at hc2 q3 q4
      have HNA := Lib.hid (fun W (h : Below w.heap.size w W) => itoa_any a W (by omega) (HTAB.out.on h))
      have HNB := Lib.hid (fun W (h : Below w.heap.size w W) => itoa_any b W (by omega) (HTAB.out.on h))
      have d1 := dd_len7 (n := a) (by omega)
      have d2 := dd_len7 (n := b) (by omega)
      obtain ⟨DA, hDA⟩ : ∃ D, Lib.decDigits a = D := ⟨_, rfl⟩
      obtain ⟨DB, hDB⟩ : ∃ D, Lib.decDigits b = D := ⟨_, rfl⟩
      rw [hDA] at HNA d1
      rw [hDB] at HNB d2
      rw [List.getElem_map, show stT p.s[k] = DA ++ [42] ++ DB by unfold stT ddI; rw [ha, hb, ← hDA, ← hDB]; rfl] at ht
      have HTT := Lib.hid ht
      have HTL := Lib.hid (tyr_len (p.s.map stT) (k := k) (by simpa using hk))
      have il : (k : Int) < (p.s.length : Int) := by omega
      have hs1 : ¬ 9223372036854775807 < DA.length + 1 := by omega
      have hs2 : ¬ 9223372036854775807 < DA.length + 1 + DB.length := by omega
      clear ht ha hb hDA hDB q1 q2 q3 q4
      go_wp2
      generalize hW : World.alloc wr _ = W
      obtain ⟨x0, x1, xs, xb⟩ := box2 hW
      have FS := Lib.hid (show ∀ x, Below W.heap.size W x → x.cell? ⟨wr.heap.size, 0, none⟩ = some (.int .i64 (a : Int)) ∧ x.cell? ⟨wr.heap.size, 1, none⟩ = some (.int .i64 (b : Int)) from fun x hx => ⟨(hx.cell (p := ⟨wr.heap.size, 0, none⟩) (by simp only []; omega)).trans x0, (hx.cell (p := ⟨wr.heap.size, 1, none⟩) (by simp only []; omega)).trans x1⟩)
      have XB := Lib.hid (BEL0.out.trans (xb.mono BEL0.out.size))
      have XS := Lib.hid (show w2.heap.size ≤ W.heap.size from by have := BEL0.out.size; omega)
      have OW := Lib.hid (own_below OWN.out xb)
      clear hW x0 x1 xs xb
      refine wp_region_T (fun x : World => Below W.heap.size W x) [0, 1, 2, 3, 5, 6, 7, 9, 10] [3, 7] (.lp 0 (.lp 1 (.lp 2 (.lp 6 (.ls 3 (.ls 7 (.hv 4 (.lp 5 (.hv 8 (.lp 9 (.lp 10 (.hv 11 (.done))))))))))))) (by kernel_rfl) (by kernel_rfl) ?_
      have sd : Below W.heap.size W W.drew := (Below.refl _ _).drew
      generalize World.drew W = wd at sd ⊢
      have HW := Lib.hid sd
      clear sd
      (repeat (refine T_lp rfl (fun K hK => ?_); go_simp; refine hK _ ?_; clear hK K))
      refine T_ls1 (v := .int .i64 (a : Int)) rfl rfl HW.out (fun x hx => (by obtain ⟨q0, q1⟩ := FS.out x hx; go_simp)) (fun K hK => ?_)
      (go_simp; refine hK _ ?_; clear hK K)
      refine T_ls1 (v := .int .i64 (b : Int)) rfl rfl HW.out (fun x hx => (by obtain ⟨q0, q1⟩ := FS.out x hx; go_simp)) (fun K hK => ?_)
      (go_simp; refine hK _ ?_; clear hK K)
      refine T_hvS rfl (fun K hK => ?_)
      go_simp
      go_at_call 40
      refine (HNA.out wd (HB.out.trans ((XB.out.trans (HW.out.mono XS.out)).mono HB.out.size))).mono ?_
      rintro e W1 ⟨rfl, hb1⟩
      have HW1 := Lib.hid (HW.out.trans (hb1.mono HW.out.size))
      clear hb1
      go_simp
      refine hK _ _ HW1.out ?_
      clear hK K
      (repeat (refine T_lp rfl (fun K hK => ?_); go_simp; refine hK _ ?_; clear hK K))
      (refine T_hv rfl (by kernel_rfl) (fun K hK => ?_); go_simp)
      go_at_call 40
      refine (HNB.out W1 (HB.out.trans ((XB.out.trans (HW1.out.mono XS.out)).mono HB.out.size))).mono ?_
      rintro e W2 ⟨rfl, hb2⟩
      have hWW := HW1.out.trans (hb2.mono HW1.out.size)
      have HW2 := Lib.hid (XB.out.trans (hWW.mono XS.out))
      have o2 := own_below OW.out hWW
      have f2 := o2.frozenAt k
      have c2 : ∃ v, W2.cell? ⟨w2.heap.size, k, none⟩ = some v := ⟨_, by rw [o2.cellAt k (by omega), List.getElem?_eq_getElem (by rw [HTL.out]; simpa using hlt)]⟩
      obtain ⟨v2, c2⟩ := c2
      have S2 := Lib.hid (o2.stored k (.string ⟨(DA ++ [42] ++ DB).toArray⟩)).1
      clear hb2 hWW o2
      (go_simp; refine hK _ _ ?_; clear hK K)
      (repeat (refine T_lp rfl (fun K hK => ?_); go_simp; refine hK _ ?_; clear hK K))
      (refine T_hv rfl (by kernel_rfl) (fun K hK => ?_); go_simp; refine hK _ _ ?_; clear hK K)
      refine T_done ?_
      go_wp2
      go_roundw
      case rel => exact ⟨k + 1, by omega, by go_num, by rw [← HTT.out]; exact S2.out, HW2.out.setCell (Nat.le_refl _) _⟩
      case measure => simp [intOf]; omega
    · have e : k = p.s.length := by omega
      have il : ¬ (k : Int) < (p.s.length : Int) := by omega
      have OT := Lib.hid (show OwT wr w2.heap.size (.slice (some ⟨w2.heap.size, 0, none⟩) p.s.length p.s.length) (p.s.map stT) from by
        have h := OWN.out
        rw [show tyr (p.s.map stT) k = (p.s.map stT).map sv by rw [e]; have := tyr_end (p.s.map stT); rw [List.length_map] at this; exact this] at h
        unfold OwT
        rw [List.length_map]
        exact h)
      clear e OWN
      go_wp2
      generalize hW : wr = W
      have FS := Lib.hid (show ∀ x, Below W.heap.size W x → x.cell? ⟨w.heap.size, 0, none⟩ = some (.int .i64 (n : Int)) ∧ x.cell? ⟨w.heap.size, 2, none⟩ = some (.slice A2 p.o.length c2) from fun x hx => by
        rw [← hW] at hx
        have h1 : Below w2.heap.size w2 x := BEL0.out.trans (hx.mono BEL0.out.size)
        exact ⟨(h1.cell (p := ⟨w.heap.size, 0, none⟩) (by simp only []; omega)).trans Z0.out, (h1.cell (p := ⟨w.heap.size, 2, none⟩) (by simp only []; omega)).trans Z2.out⟩)
      rw [hW] at BEL BSZ OT
      have BWS := Lib.hid (show w.heap.size ≤ W.heap.size from by have := BSZ.out; omega)
      clear hW BEL0
      refine wp_region_T (fun x : World => Below W.heap.size W x) [0, 1, 3, 4, 6, 7, 8, 9, 12, 13, 14] [1, 9] (.lp 0 (.lp 4 (.lp 8 (.ls 1 (.ls 9 (.hv 2 (.lp 3 (.hv 5 (.lp 6 (.lp 7 (.hv 10 (.hv 11 (.lp 12 (.lp 13 (.lp 14 (.done)))))))))))))))) (by kernel_rfl) (by kernel_rfl) ?_
      have sd : Below W.heap.size W W.drew := (Below.refl _ _).drew
      generalize World.drew W = wd at sd ⊢
      have HW := Lib.hid sd
      clear sd
      (repeat (refine T_lp rfl (fun K hK => ?_); go_simp; refine hK _ ?_; clear hK K))
      refine T_ls1 (v := .int .i64 (n : Int)) rfl rfl HW.out (fun x hx => (by obtain ⟨q0, q1⟩ := FS.out x hx; go_simp)) (fun K hK => ?_)
      (go_simp; refine hK _ ?_; clear hK K)
      refine T_ls1 (v := .slice A2 p.o.length c2) rfl rfl HW.out (fun x hx => (by obtain ⟨q0, q1⟩ := FS.out x hx; go_simp)) (fun K hK => ?_)
      (go_simp; refine hK _ ?_; clear hK K)
      refine T_hvS rfl (fun K hK => ?_)
      go_simp
      go_at_call 40
      refine (HNN.out wd (BEL.out.trans (HW.out.mono BWS.out))).mono ?_
      rintro e W1 ⟨rfl, hb1⟩
      have HW1 := Lib.hid (HW.out.trans (hb1.mono HW.out.size))
      clear hb1
      go_simp
      refine hK _ _ HW1.out ?_
      clear hK K
      (repeat (refine T_lp rfl (fun K hK => ?_); go_simp; refine hK _ ?_; clear hK K))
      refine T_hvS rfl (fun K hK => ?_)
      go_simp
      go_at_call 41
      refine (HL1.out W1 _ _ _ (own_below OT.out HW1.out)).mono ?_
      rintro e W2 ⟨rfl, hb2⟩
      have HW2 := Lib.hid (HW1.out.trans (hb2.mono HW1.out.size))
      clear hb2
      go_simp
      refine hK _ _ HW2.out ?_
      clear hK K
      (repeat (refine T_lp rfl (fun K hK => ?_); go_simp; refine hK _ ?_; clear hK K))
      (refine T_hv rfl (by kernel_rfl) (fun K hK => ?_); go_simp)
      go_at_call 28
      refine (HNT.out W2 (BEL.out.trans (HW2.out.mono BWS.out))).mono ?_
      rintro e W3 ⟨A5, c5, rfl, ho5, hb3⟩
      have HW3 := Lib.hid (HW2.out.trans (hb3.mono HW2.out.size))
      have O5 := Lib.hid ho5
      clear hb3 ho5
      (go_simp; refine hK _ _ ?_; clear hK K)
      (refine T_hv rfl (by kernel_rfl) (fun K hK => ?_); go_simp)
      go_at_call 41
      refine (HL2.out W3 _ _ _ O5.out).mono ?_
      rintro e W4 ⟨rfl, hb4⟩
      have HW4 := Lib.hid (HW3.out.trans (hb4.mono HW3.out.size))
      clear hb4
      (go_simp; refine hK _ _ ?_; clear hK K)
      (repeat (refine T_lp rfl (fun K hK => ?_); go_simp; refine hK _ ?_; clear hK K))
      refine T_done ?_
      go_wp2
      go_ret2
      exact ⟨by rw [HE.out]; rfl, BEL.out.trans (HW4.out.mono BWS.out)⟩

set_option maxRecDepth 100000 in
set_option maxHeartbeats 1000000 in
theorem implPlanText_any (B : Nat) (A1 A2 : Option Addr) (c1 c2 : Nat) (p : Pl) (w : World) (hB : B ≤ w.heap.size) (hls : p.s.length ≤ 2000000) (hlo : p.o.length ≤ 2000000) (hr : RdP w B A1 A2 p) (hT : Tab w) :
    Calls Tryd.prog 18 #[.agg #[.int .i64 p.n, .slice A1 p.s.length c1, .slice A2 p.o.length c2]] w fun e w' => e = .returned (.tuple #[.string ⟨(plX p).toArray⟩, .bool (good p)]) ∧ Below w.heap.size w w' := by
  cases hg : good p with
  | false =>
    have H := Lib.hid hr
    have hG := fun W (hb : Below w.heap.size w W) => implIsPlan_any B A1 A2 c1 c2 p W (by have := hb.size; omega) hls hlo (H.out.below' hb hB)
    have E := Lib.hid (plX_false hg)
    rw [hg] at hG
    have HG := Lib.hid hG
    clear hG hg hr hT
    go_enter Tryd.func18, Tryd.ntmps18
    go_wp2_with fail
    go_at_call 39
    refine (HG.out _ ((Below.refl _ _).alloc (Nat.le_refl _) _)).mono ?_
    rintro e w2 ⟨rfl, hb2⟩
    have HB := Lib.hid (((Below.refl w.heap.size w).alloc (Nat.le_refl _) _).trans (hb2.mono (by simp)))
    clear hb2
    go_wp2
    go_ret2
    exact ⟨by rw [E.out]; rfl, HB.out⟩
  | true =>
    refine (implPlanText_some B A1 A2 c1 c2 p w hB hg hr hT).mono ?_
    rintro e w' ⟨rfl, hb⟩
    exact ⟨by rw [plX_true hg], hb⟩
end Go.Proofs.YtodjnafalbbmjabDoor
