/- The law FnExactTurnPlan holds: for every argument, valid or not, TurnPlan of the program answers as TurnPlan of the model, writes into no argument, and its answer owns its memory. No condition. -/
import Derived.Test.YtlkieebmfmiafaaPD0
import Derived.Test.YtlkieebmfmiafaaPD4
namespace Go.Proofs.Ytlkieebmfmiafaa
open Go.ChangeShapes Go.WideShapes Go.ChangeAt Go.RowKit Go.Deep Go.Joins

set_option maxRecDepth 100000 in
set_option maxHeartbeats 8000000 in
theorem lawTurnPlan (A1 A2 : Option Addr) (c1 c2 : Nat) (p : Pl) (w : World) (hn1 : p.s.length ≤ 9223372036854775807) (hn2 : p.o.length ≤ 9223372036854775807) (hr : RdP w w.heap.size A1 A2 p) :
    Calls Try.prog 5 #[.agg #[.int .i64 p.n, .slice A1 p.s.length c1, .slice A2 p.o.length c2]] w fun e w' => e = .returned (.bool true) ∧ Below w.heap.size w w' := by
  have H := Lib.hid hr
  clear hr
  obtain ⟨q0, hq0⟩ : ∃ qx, szPl p 1048576 = qx := ⟨_, rfl⟩
  have hsz := fun W => szPlan_any A1 A2 c1 c2 p 1048576 W (by omega) (by omega) hn1 hn2
  rw [hq0] at hsz
  have HX := Lib.hid hq0
  have HSZ := Lib.hid hsz
  clear hq0 hsz
  by_cases hneg : q0 < 0
  · go_enter Try.func5, Try.ntmps5
    go_wp2_with fail
    go_at_call 15
    refine (HSZ.out _).mono ?_
    rintro e w2 ⟨rfl, hb2⟩
    go_wp2
    go_ret
    exact ⟨rfl, ((Below.refl _ _).alloc (Nat.le_refl _) _).trans (hb2.mono (by simp))⟩
  · obtain ⟨l1, l2⟩ := szPl_ok (p := p) (by rw [HX.out]; exact hneg)
    obtain ⟨r, hR⟩ : ∃ r, tuR p = r := ⟨_, rfl⟩
    have hrl0 : r.s.length ≤ 1000 ∧ r.o.length ≤ 1000 := by rw [← hR]; exact tuR_len p
    obtain ⟨rl1, rl2⟩ := hrl0
    obtain ⟨gd, hgd⟩ : ∃ gx, tuB p = gx := ⟨_, rfl⟩
    have hspec := fun W A A' d d' => specTurn_any (World.heap W).size A A' d d' p W (Nat.le_refl _) (by omega) (by omega)
    have himpl := fun W A A' d d' => implTurn_any (World.heap W).size A A' d d' p W (Nat.le_refl _) (by omega) (by omega)
    rw [hR, hgd] at hspec himpl
    have HSPEC := Lib.hid hspec
    have HIMPL := Lib.hid himpl
    clear hR hgd hspec himpl
    go_enter Try.func5, Try.ntmps5
    go_wp2_with fail
    go_at_call 15
    generalize hw1 : World.alloc w _ = w1
    obtain ⟨x0, x1, x2, xs, xb⟩ := box3 hw1
    clear hw1
    refine (HSZ.out _).mono ?_
    rintro e w2 ⟨rfl, hb2⟩
    have hs2 : w.heap.size + 1 ≤ w2.heap.size := by have := hb2.size; omega
    have y0 := (hb2.cell (p := ⟨w.heap.size, 0, none⟩) (by simp only []; omega)).trans x0
    have y1 := (hb2.cell (p := ⟨w.heap.size, 1, none⟩) (by simp only []; omega)).trans x1
    have y2 := (hb2.cell (p := ⟨w.heap.size, 2, none⟩) (by simp only []; omega)).trans x2
    have HB2 := Lib.hid (xb.trans (hb2.mono (show w.heap.size ≤ w1.heap.size by omega)))
    clear x0 x1 x2 xs xb hb2
    go_wp2_with fail
    go_at_call 17
    refine (toPlan_any w.heap.size A1 A2 c1 c2 p w2 l1 l2 (by omega) (H.out.below HB2.out)).mono ?_
    rintro e w3' ⟨B1, B2, d1, d2, rfl, hown3', hb3'⟩
    obtain ⟨w3, hw3, hb3, hown3⟩ : ∃ w3, w3 = w3' ∧ Below w2.heap.size w2 w3 ∧ OwP w3 w2.heap.size B1 B2 d1 d2 p := ⟨_, rfl, hb3', hown3'⟩
    subst hw3
    go_wp2_with fail
    go_at_call 26
    refine (HSPEC.out w3 B1 B2 d1 d2 hown3.rd).mono ?_
    rintro e w4' ⟨R1, R2, v1, v2, rfl, hres4', hb4'⟩
    have hb24' := hb3.trans (hb4'.mono hb3.size)
    have z0' := (hb24'.cell (p := ⟨w.heap.size, 0, none⟩) (by simp only []; omega)).trans y0
    have z1' := (hb24'.cell (p := ⟨w.heap.size, 1, none⟩) (by simp only []; omega)).trans y1
    have z2' := (hb24'.cell (p := ⟨w.heap.size, 2, none⟩) (by simp only []; omega)).trans y2
    have z0 := cell_kept z0'
    have z1 := cell_kept z1'
    have z2 := cell_kept z2'
    have hs4' : w.heap.size + 1 ≤ w4'.heap.size := by have := hb24'.size; omega
    clear y0 y1 y2
    go_wp2_with fail
    go_at_call 17
    generalize hw4 : World.alloc w4' _ = w4
    obtain ⟨b0, b1, b2, bs, bb⟩ := box3 hw4
    clear hw4 z0 z1 z2
    have hs4 : w.heap.size + 2 ≤ w4.heap.size := by omega
    have z0 := (bb.cell (p := ⟨w.heap.size, 0, none⟩) (by simp only []; omega)).trans z0'
    have z1 := (bb.cell (p := ⟨w.heap.size, 1, none⟩) (by simp only []; omega)).trans z1'
    have z2 := (bb.cell (p := ⟨w.heap.size, 2, none⟩) (by simp only []; omega)).trans z2'
    have HB4 := Lib.hid (HB2.out.trans ((hb24'.mono (by omega)).trans (bb.mono (by omega))))
    have RES := Lib.hid (hres4'.below bb)
    clear z0' z1' z2' hb3 hb4' hb24' hown3 hs2 hres4' bb
    refine (toPlan_any w.heap.size A1 A2 c1 c2 p w4 l1 l2 (by omega) (H.out.below HB4.out)).mono ?_
    rintro e w5 ⟨C1, C2, e1, e2, rfl, hown5, hb5⟩
    have hs5 : w4.heap.size ≤ w5.heap.size := hb5.size
    go_wp2_with fail
    go_at_call 27
    generalize hw6 : World.alloc w5 _ = w6
    obtain ⟨k0, k1, k2, ks, kb⟩ := box3 hw6
    clear hw6
    have hown6 := hown5.below kb
    refine (HIMPL.out w6 C1 C2 e1 e2 hown6.rd).mono ?_
    rintro e w7' ⟨G1, G2, u1, u2, rfl, hres7', hb7'⟩
    have hb47' : Below w4.heap.size w4 w7' := (hb5.trans (kb.mono hs5)).trans (hb7'.mono (by omega))
    have hs7' : w6.heap.size ≤ w7'.heap.size := hb7'.size
    have hb67' := hb7'
    have zb0 := cell_kept ((hb47'.cell (p := ⟨w4'.heap.size, 0, none⟩) (by simp only []; omega)).trans b0)
    have zb1 := cell_kept ((hb47'.cell (p := ⟨w4'.heap.size, 1, none⟩) (by simp only []; omega)).trans b1)
    have zb2 := cell_kept ((hb47'.cell (p := ⟨w4'.heap.size, 2, none⟩) (by simp only []; omega)).trans b2)
    go_wp2_with fail
    go_at_call 20
    generalize hw7 : World.alloc w7' _ = w7
    obtain ⟨g0, g1, g2, gs, gb⟩ := box3 hw7
    clear hw7 zb0 zb1 zb2
    have hb47 : Below w4.heap.size w4 w7 := hb47'.trans (gb.mono (by omega))
    have hb67 : Below w6.heap.size w6 w7 := hb67'.trans (gb.mono hs7')
    have HO6 := Lib.hid hown6
    have HO7 := Lib.hid ((hown6.below hb67') |>.below gb)
    have HGO := Lib.hid hres7'
    have HG7 := Lib.hid (hres7'.below gb)
    have HB47 := Lib.hid hb47
    have hs7 : w6.heap.size + 1 ≤ w7.heap.size := by omega
    have m0 := (hb47.cell (p := ⟨w.heap.size, 0, none⟩) (by simp only []; omega)).trans z0
    have m1 := (hb47.cell (p := ⟨w.heap.size, 1, none⟩) (by simp only []; omega)).trans z1
    have m2 := (hb47.cell (p := ⟨w.heap.size, 2, none⟩) (by simp only []; omega)).trans z2
    have n0 := (hb67.cell (p := ⟨w5.heap.size, 0, none⟩) (by simp only []; omega)).trans k0
    have n1 := (hb67.cell (p := ⟨w5.heap.size, 1, none⟩) (by simp only []; omega)).trans k1
    have n2 := (hb67.cell (p := ⟨w5.heap.size, 2, none⟩) (by simp only []; omega)).trans k2
    clear z0 z1 z2 k0 k1 k2 kb hb5 hb7' hb47' hown5 hown6 hres7' hb67' hb67 hb47 gb
    have hE := eqPlan_any w7.heap.size w7.heap.size G1 G2 R1 R2 u1 u2 v1 v2 r r w7 (by omega) (by omega) (by omega) (by omega) (Nat.le_refl _) (Nat.le_refl _) HG7.out.rd (RES.out.below HB47.out).rd
    rw [eqP_refl] at hE
    refine hE.mono ?_
    rintro e w8 ⟨rfl, hb8⟩
    clear hE
    have HB48 := Lib.hid (HB47.out.trans (hb8.mono (by omega)))
    have HB78 := Lib.hid hb8
    have hs8 : w7.heap.size ≤ w8.heap.size := hb8.size
    have F8 := Lib.hid (show ∀ x, Below w8.heap.size w8 x → x.cell? ⟨w.heap.size, 0, none⟩ = some (.int .i64 p.n) ∧ x.cell? ⟨w.heap.size, 1, none⟩ = some (.slice A1 p.s.length c1) ∧ x.cell? ⟨w.heap.size, 2, none⟩ = some (.slice A2 p.o.length c2) ∧
        x.cell? ⟨w5.heap.size, 0, none⟩ = some (.int .i64 p.n) ∧ x.cell? ⟨w5.heap.size, 1, none⟩ = some (.slice C1 p.s.length e1) ∧ x.cell? ⟨w5.heap.size, 2, none⟩ = some (.slice C2 p.o.length e2) from fun x hx => by
      have hx7 := hb8.trans (hx.mono hs8)
      exact ⟨(hx7.cell (p := ⟨w.heap.size, 0, none⟩) (by simp only []; omega)).trans m0, (hx7.cell (p := ⟨w.heap.size, 1, none⟩) (by simp only []; omega)).trans m1, (hx7.cell (p := ⟨w.heap.size, 2, none⟩) (by simp only []; omega)).trans m2,
        (hx7.cell (p := ⟨w5.heap.size, 0, none⟩) (by simp only []; omega)).trans n0, (hx7.cell (p := ⟨w5.heap.size, 1, none⟩) (by simp only []; omega)).trans n1, (hx7.cell (p := ⟨w5.heap.size, 2, none⟩) (by simp only []; omega)).trans n2⟩)
    have S8 := Lib.hid (show Below w8.heap.size w8 w8.drew from (Below.refl _ _).drew)
    clear m0 m1 m2 n0 n1 n2 hb8
    go_wp2
    refine wp_region_T (fun x : World => Below w8.heap.size w8 x) [0, 1, 4] [0, 1] (.ls 0 (.ls 1 (.hv 2 (.hv 3 (.lp 4 (.done)))))) (by kernel_rfl) (by kernel_rfl) ?_
    refine T_ls1 (v := .agg #[.int .i64 p.n, .slice C1 p.s.length e1, .slice C2 p.o.length e2]) rfl rfl S8.out (fun x hx => (by obtain ⟨h1, h2, h3, h4, h5, h6⟩ := F8.out x hx; go_simp)) (fun K hK => ?_)
    (go_simp; refine hK _ ?_; clear hK K)
    refine T_ls1 (v := .agg #[.int .i64 p.n, .slice A1 p.s.length c1, .slice A2 p.o.length c2]) rfl rfl S8.out (fun x hx => (by obtain ⟨h1, h2, h3, h4, h5, h6⟩ := F8.out x hx; go_simp)) (fun K hK => ?_)
    (go_simp; refine hK _ ?_; clear hK K)
    refine T_hvS rfl (fun K hK => ?_)
    go_simp
    go_at_call 17
    refine (toPlan_any w.heap.size A1 A2 c1 c2 p w8.drew l1 l2 (by simp; omega) (H.out.below (HB4.out.trans (HB48.out.mono (by omega)))).drew).mono ?_
    rintro e w9 ⟨D1, D2, f1, f2, rfl, hown9, hb9⟩
    have hb89 : Below w8.heap.size w8 w9 := (Below.refl _ w8).drew.trans (hb9.mono (by simp))
    have HO9 := Lib.hid hown9
    have HB89 := Lib.hid hb89
    have hs9 := hb89.size
    clear hown9 hb9
    go_simp
    refine hK _ _ hb89 ?_
    clear hK K hb89
    (refine T_hv rfl (by kernel_rfl) (fun K hK => ?_); go_simp)
    go_at_call 20
    have hE := eqPlan_any w9.heap.size w9.heap.size C1 C2 D1 D2 e1 e2 f1 f2 p p w9 (by omega) (by omega) (by omega) (by omega) (Nat.le_refl _) (Nat.le_refl _) ((HO7.out.below (HB78.out.trans (HB89.out.mono hs8))).rd) HO9.out.rd
    rw [eqP_refl] at hE
    refine hE.mono ?_
    rintro e w10 ⟨rfl, hb10⟩
    clear hE
    have HB810 := Lib.hid (HB89.out.trans (hb10.mono hs9))
    have HB710 := Lib.hid (HB78.out.trans (HB810.out.mono hs8))
    have HB410 := Lib.hid (HB48.out.trans (HB810.out.mono (by omega)))
    have hs10 := HB810.out.size
    clear hb10
    (go_simp; refine hK _ _ ?_; clear hK K)
    (repeat (first | (refine T_lp rfl (fun K hK => ?_); go_simp; refine hK _ ?_; clear hK K) | (refine T_ls rfl rfl (fun K hK => ?_); go_simp; refine hK _ ?_; clear hK K)))
    refine T_done ?_
    obtain ⟨wt, hwt⟩ : ∃ wt, w10 = wt := ⟨w10, rfl⟩
    have HT10 := Lib.hid (show Below w10.heap.size w10 wt by rw [hwt]; exact Below.refl _ _)
    have hst : w10.heap.size ≤ wt.heap.size := HT10.out.size
    have HB8t := Lib.hid (HB810.out.trans (HT10.out.mono hs10))
    have HB7t := Lib.hid (HB710.out.trans (HT10.out.mono (by omega)))
    have HB4t := Lib.hid (HB410.out.trans (HT10.out.mono (by omega)))
    have r0 := (F8.out wt HB8t.out).2.2.2.1
    have r1 := (F8.out wt HB8t.out).2.2.2.2.1
    have r2 := (F8.out wt HB8t.out).2.2.2.2.2
    rw [hwt]
    go_wp2_with fail
    go_at_call 21
    have hwin := markPlan_any w4.heap.size w6.heap.size C1 C2 e1 e2 p 1 wt l1 l2 (by omega) (by omega) (by omega) (by omega) (HO7.out.below HB7t.out) (fun k hk => (own_block HO6.out.1 k hk).2) (fun k hk => (own_block HO6.out.2 k hk).2)
    refine hwin.mono ?_
    rintro e w11' ⟨rfl, _, _, hwn'⟩
    clear hwin r0 r1 r2
    have hk0 : ¬ (1 + 2 * (p.s.length : Int) + (p.o.length : Int) < 0) := by omega
    obtain ⟨w11, hw11, hwn⟩ : ∃ w11, w11' = w11 ∧ Win w4.heap.size w6.heap.size wt w11 := ⟨_, rfl, hwn'⟩
    rw [hw11]
    have hs11 := hwn.1.size
    have a0 := ((HB4t.out.trans hwn.1).cell (p := ⟨w4'.heap.size, 0, none⟩) (by simp only []; omega)).trans b0
    have a1 := ((HB4t.out.trans hwn.1).cell (p := ⟨w4'.heap.size, 1, none⟩) (by simp only []; omega)).trans b1
    have a2 := ((HB4t.out.trans hwn.1).cell (p := ⟨w4'.heap.size, 2, none⟩) (by simp only []; omega)).trans b2
    have hgk : ∀ j, w11.cell? ⟨w7'.heap.size, j, none⟩ = w7.cell? ⟨w7'.heap.size, j, none⟩ := fun j =>
      (World.cell?_of_block (hwn.2 w7'.heap.size (by omega) (by have := HB7t.out.size; omega))).trans (HB7t.out.cell (p := ⟨w7'.heap.size, j, none⟩) (by simp only []; omega))
    have i0 := (hgk 0).trans g0
    have i1 := (hgk 1).trans g1
    have i2 := (hgk 2).trans g2
    have HG11 := Lib.hid (show OwP w11 w6.heap.size G1 G2 u1 u2 r from ⟨hwn.own (HG7.out.below HB7t.out).1 (Nat.le_refl _), hwn.own (HG7.out.below HB7t.out).2 (Nat.le_refl _)⟩)
    have HB411 := Lib.hid (HB4t.out.trans hwn.1)
    clear hwn hwn' hgk
    go_wp2_with fail
    go_at_call 20
    have hE := eqPlan_any w11.heap.size w11.heap.size G1 G2 R1 R2 u1 u2 v1 v2 r r w11 (by omega) (by omega) (by omega) (by omega) (Nat.le_refl _) (Nat.le_refl _) HG11.out.rd (RES.out.below HB411.out).rd
    rw [eqP_refl] at hE
    refine hE.mono ?_
    rintro e w12 ⟨rfl, hb12⟩
    clear hE
    have hs12 := hb12.size
    have j0 := (hb12.cell (p := ⟨w7'.heap.size, 0, none⟩) (by simp only []; omega)).trans i0
    have j1 := (hb12.cell (p := ⟨w7'.heap.size, 1, none⟩) (by simp only []; omega)).trans i1
    have j2 := (hb12.cell (p := ⟨w7'.heap.size, 2, none⟩) (by simp only []; omega)).trans i2
    have HB412 := Lib.hid (HB411.out.trans (hb12.mono (by omega)))
    have HG12 := Lib.hid (HG11.out.below hb12)
    clear a0 a1 a2 i0 i1 i2 hb12
    go_wp2_with fail
    go_at_call 21
    have hwin := markPlan_any w6.heap.size w7'.heap.size G1 G2 u1 u2 r 1 w12 (by omega) (by omega) (by omega) (by omega) (by omega) (by omega) HG12.out (fun k hk => (own_block HGO.out.1 k hk).2) (fun k hk => (own_block HGO.out.2 k hk).2)
    refine hwin.mono ?_
    rintro e w13 ⟨rfl, hm1, hm2, hwn⟩
    clear hwin
    have hs13 := hwn.1.size
    have hk1 : ¬ (1 + 2 * (r.s.length : Int) + (r.o.length : Int) < 0) := by omega
    have l0 := (World.cell?_of_block (a := ⟨w7'.heap.size, 0, none⟩) (hwn.2 w7'.heap.size (Nat.le_refl _) (by omega))).trans j0
    have l1' := (World.cell?_of_block (a := ⟨w7'.heap.size, 1, none⟩) (hwn.2 w7'.heap.size (Nat.le_refl _) (by omega))).trans j1
    have l2' := (World.cell?_of_block (a := ⟨w7'.heap.size, 2, none⟩) (hwn.2 w7'.heap.size (Nat.le_refl _) (by omega))).trans j2
    have M1 := Lib.hid (own_rd_marksS hm1)
    have M2 := Lib.hid (own_rd_marks hm2)
    have HB413 := Lib.hid (HB412.out.trans (hwn.1.mono (by omega)))
    clear hwn hm1 hm2 j0 j1 j2
    go_wp2_with fail
    go_at_call 28
    refine (heldPlan_any w13.heap.size G1 G2 u1 u2 r.s.length r.o.length r.n 1 w13 (by omega) (by omega) (by omega) (by omega) (Nat.le_refl _) M1.out M2.out).mono ?_
    rintro e w14 ⟨rfl, hb14⟩
    have hs14 := hb14.size
    have o0 := (hb14.cell (p := ⟨w7'.heap.size, 0, none⟩) (by simp only []; omega)).trans l0
    have o1 := (hb14.cell (p := ⟨w7'.heap.size, 1, none⟩) (by simp only []; omega)).trans l1'
    have o2 := (hb14.cell (p := ⟨w7'.heap.size, 2, none⟩) (by simp only []; omega)).trans l2'
    have HB414 := Lib.hid (HB413.out.trans (hb14.mono (by omega)))
    have M114 := Lib.hid (M1.out.below hb14)
    have M214 := Lib.hid (M2.out.below hb14)
    have HB814 := Lib.hid (show Below w.heap.size w w14 from HB4.out.trans (HB414.out.mono (by omega)))
    have p0 := (HB414.out.cell (p := ⟨w.heap.size, 0, none⟩) (by simp only []; omega)).trans ((HB48.out.cell (p := ⟨w.heap.size, 0, none⟩) (by simp only []; omega)).symm.trans (F8.out w8 (Below.refl _ _)).1)
    have p1 := (HB414.out.cell (p := ⟨w.heap.size, 1, none⟩) (by simp only []; omega)).trans ((HB48.out.cell (p := ⟨w.heap.size, 1, none⟩) (by simp only []; omega)).symm.trans (F8.out w8 (Below.refl _ _)).2.1)
    have p2 := (HB414.out.cell (p := ⟨w.heap.size, 2, none⟩) (by simp only []; omega)).trans ((HB48.out.cell (p := ⟨w.heap.size, 2, none⟩) (by simp only []; omega)).symm.trans (F8.out w8 (Below.refl _ _)).2.2.1)
    clear l0 l1' l2' hb14
    go_wp2_with fail
    go_at_call 17
    refine (toPlan_any w.heap.size A1 A2 c1 c2 p w14 l1 l2 (by omega) (H.out.below HB814.out)).mono ?_
    rintro e w15' ⟨D3, D4, f3, f4, rfl, hown15', hb15'⟩
    clear p0 p1 p2
    obtain ⟨w15, hw15, hb15, hown15⟩ : ∃ w15, w15 = w15' ∧ Below w14.heap.size w14 w15 ∧ OwP w15 w14.heap.size D3 D4 f3 f4 p := ⟨_, rfl, hb15', hown15'⟩
    subst hw15
    go_wp2_with fail
    go_at_call 27
    refine (HIMPL.out w15 D3 D4 f3 f4 hown15.rd).mono ?_
    rintro e w16' ⟨E1, E2, h1', h2', rfl, hres16, hb16⟩
    have hb1416' : Below w14.heap.size w14 w16' := hb15.trans (hb16.mono hb15.size)
    have hs16 := hb1416'.size
    have s0 := cell_kept (((HB414.out.trans (hb1416'.mono (by omega))).cell (p := ⟨w4'.heap.size, 0, none⟩) (by simp only []; omega)).trans b0)
    have s1 := cell_kept (((HB414.out.trans (hb1416'.mono (by omega))).cell (p := ⟨w4'.heap.size, 1, none⟩) (by simp only []; omega)).trans b1)
    have s2 := cell_kept (((HB414.out.trans (hb1416'.mono (by omega))).cell (p := ⟨w4'.heap.size, 2, none⟩) (by simp only []; omega)).trans b2)
    go_wp2_with fail
    go_at_call 20
    generalize hw16 : World.alloc w16' _ = w16
    obtain ⟨_, _, _, gs16, gb16⟩ := box3 hw16
    clear hw16 s0 s1 s2
    have hb1416 : Below w14.heap.size w14 w16 := hb1416'.trans (gb16.mono hs16)
    have hE := eqPlan_any w16.heap.size w16.heap.size E1 E2 R1 R2 h1' h2' v1 v2 r r w16 (by omega) (by omega) (by omega) (by omega) (Nat.le_refl _) (Nat.le_refl _) (hres16.below gb16).rd (RES.out.below (HB414.out.trans (hb1416.mono (by omega)))).rd
    rw [eqP_refl] at hE
    refine hE.mono ?_
    rintro e w17 ⟨rfl, hb17⟩
    clear hE
    have hb1417 : Below w14.heap.size w14 w17 := hb1416.trans (hb17.mono (by omega))
    have t0 := (hb1417.cell (p := ⟨w7'.heap.size, 0, none⟩) (by simp only []; omega)).trans o0
    have t1 := (hb1417.cell (p := ⟨w7'.heap.size, 1, none⟩) (by simp only []; omega)).trans o1
    have t2 := (hb1417.cell (p := ⟨w7'.heap.size, 2, none⟩) (by simp only []; omega)).trans o2
    have hs17 := hb1417.size
    have HB1417 := Lib.hid hb1417
    clear hb1417 hb1416 hb1416' hb17 o0 o1 o2 gb16 hres16 hb16
    go_wp2_with fail
    go_at_call 28
    refine (heldPlan_any w14.heap.size G1 G2 u1 u2 r.s.length r.o.length r.n 1 w17 (by omega) (by omega) (by omega) (by omega) (by omega) ((M114.out.more (by omega)).below HB1417.out) ((M214.out.more (by omega)).below HB1417.out)).mono ?_
    rintro e w18 ⟨rfl, hb18⟩
    have HB18 := Lib.hid (HB814.out.trans ((HB1417.out.mono (by omega)).trans (hb18.mono (by omega))))
    clear hb18 t0 t1 t2
    go_wp2
    go_ret
    exact ⟨rfl, HB18.out⟩

set_option maxRecDepth 100000 in
theorem turnPlan_lifted (os : Os) (started : os.Started) (H : Type) (enc : TypeId × Value → H) :
    ReturnsInHanded {} Try.checked os 5 .any (Rows.fnExactTurnPlanSpec.pre6 enc Try.prog Try.f5 Rows.fnExactTurnPlanRow.domain false) (Rows.fnExactTurnPlanSpec.post enc Try.prog Try.f5 false true false false) := by
  refine returnsInHanded_of_change (C := Try.checked) own started (by kernel_rfl) Try.func5
    (ChangeSpec.witness6 (enc := enc) (C := Try.checked) false ⟨#[], #[.agg #[.int .i64 0, .slice none 0 0, .slice none 0 0]], []⟩ 8 (by kernel_rfl) (by kernel_rfl) (by kernel_rfl) (by kernel_rfl)) ?_
  intro W base args ds gs before hval0 hW _ _
  have hval : ∀ (j : Nat) t v, Try.f5.params[j]? = some t → args[j]? = some v → Value.okWide Try.prog W .any base t v := hval0
  have hW' := hW
  obtain ⟨p, q, hA0, hV, rfl, hfz, hnd⟩ := hW
  have hA : DataW.TrodAll enc Try.prog W 0 (fun _ => true) true Try.f5.params.toList args.toList ds p := hA0
  rw [Try.params5] at hA hval
  obtain ⟨v0, d0, rfl, rfl, h0⟩ := trodAll_one hA
  obtain ⟨rfl, rfl⟩ := trodVars_none hV
  have hv0 := hval 0 25 v0 rfl rfl
  obtain ⟨A1, A2, c1, c2, pl, hv, l1, l2, hrd⟩ := open_plan hv0 h0
  have h0k := h0
  subst hv
  clear hA0 hval0
  simp only [List.append_nil] at hW'
  refine (lawTurnPlan A1 A2 c1 c2 pl W l1 l2 hrd).mono fun e W' ⟨he, hb⟩ => ?_
  subst he
  have hlt : ∀ x ∈ p, x.block < W.heap.size := fun x hx => by simpa using hW'.lt x hx
  refine ⟨_, rfl, _, _, _, [], p, [], hW', trodAll_mk1 (shut_bool Try.underlying4 _), ?_, rfl, hb.frame _, fun h => by cases h⟩
  exact trodAll_mk1 (Below.trod laidOut (by kernel_rfl) (of_decide_eq_true (by kernel_rfl)) h0k hb hlt)

theorem turnPlan_holds : Rows.FnExactTurnPlanSaid :=
  OpenClaim.holds_of_wide 5 Try.f5 rfl rfl rfl rfl rfl rfl rfl ⟨rfl, rfl, rfl, rfl, rfl⟩ rfl rfl rfl rfl rfl (by kernel_rfl) Try.func5 (by kernel_rfl)
    (of_decide_eq_true (by kernel_rfl)) (by unfold Func.isWrapper; rw [if_neg (of_decide_eq_false (by kernel_rfl))]; exact ⟨rfl, rfl⟩)
    (fun os started H enc _ => turnPlan_lifted os started H enc)
end Go.Proofs.Ytlkieebmfmiafaa
