/- The law FnExactChainPlan holds: for every argument, valid or not, ChainPlan of the program answers as ChainPlan of the model, writes into no argument, and its answer owns its memory. No condition. -/
import Derived.Test.YtbbjgcagkmlngacQl
import Derived.Test.YtbbjgcagkmlngacQx
namespace Go.Proofs.Ytbbjgcagkmlngac
open Go.ChangeShapes Go.WideShapes Go.ChangeAt Go.RowKit Go.Deep Go.Joins

set_option maxRecDepth 100000 in
set_option maxHeartbeats 4000000 in
theorem lawChainPlan (A0 : Option Addr) (c0 : Nat) (l : List Int) (w : World) (hn0 : l.length ≤ 9223372036854775807) (hr0 : Rd w w.heap.size 1 A0 l.length (l.map I)) :
    Calls Try.prog 8 #[.slice A0 l.length c0] w fun e w' => e = .returned (.bool true) ∧ Below w.heap.size w w' := by
  have H0 := Lib.hid hr0
  clear hr0
  by_cases hbig0 : 1048576 < l.length
  · have ibig : (1048576 : Int) < (l.length : Int) := by omega
    go_enter Try.func8, Try.ntmps8
    go_wp2
    go_ret
    exact ⟨rfl, Below.refl _ _⟩
  have hl0 : l.length ≤ 1048576 := by omega
  have il0 : ¬ (1048576 : Int) < (l.length : Int) := by omega
  obtain ⟨r, hrr⟩ : ∃ r, chP l = r := ⟨_, rfl⟩
  have hrs : r.s.length ≤ 1000 := by rw [← hrr]; exact chP_s l
  have hro : r.o.length ≤ 1000 := by rw [← hrr]; exact chP_o l
  obtain ⟨gd, hgd⟩ : ∃ gx, chG l = gx := ⟨_, rfl⟩
  have hspec := fun W A0' c0' => specChainPlan_any (World.heap W).size A0' c0' l W (Nat.le_refl _) hl0
  have himpl := fun W A0' c0' => implChainPlan_any (World.heap W).size A0' c0' l W (Nat.le_refl _) hl0
  rw [hrr, hgd] at hspec himpl
  have HSPEC := Lib.hid hspec
  have HIMPL := Lib.hid himpl
  clear hrr hgd hspec himpl
  go_enter Try.func8, Try.ntmps8
  go_wp2_with fail
  go_at_call 16
  refine (toIntS_any w.heap.size A0 c0 l w hl0 (by omega) H0.out).mono ?_
  rintro e w1 ⟨sA0, sc0, rfl, hown, hbel⟩
  have Os0 := Lib.hid hown
  have Dw1 := Lib.hid (show Below w.heap.size w w1 from hbel)
  have hsw1 : w.heap.size ≤ w1.heap.size := Dw1.out.size
  have HBw1 := Lib.hid Dw1.out
  clear hown hbel
  go_wp2_with fail
  go_at_call 32
  refine (HSPEC.out w1 sA0 sc0 Os0.out.cap Os0.out.rd).mono ?_
  rintro e w2 ⟨R1, R2, v1, v2, rfl, hres, hbel⟩
  have Dw2 := Lib.hid (show Below w1.heap.size w1 w2 from hbel)
  have hsw2 : w1.heap.size ≤ w2.heap.size := Dw2.out.size
  have HBw2 := Lib.hid (HBw1.out.trans (Dw2.out.mono (by omega)))
  clear hbel
  go_wp2_with fail
  go_at_call 16
  generalize hww : World.alloc w2 _ = w3
  obtain ⟨b0, b1, b2, bs, bb⟩ := box3 hww
  clear hww
  have RES := Lib.hid (hres.below bb)
  have B0 := Lib.hid b0
  have B1 := Lib.hid b1
  have B2 := Lib.hid b2
  have Dw3 := Lib.hid (show Below w2.heap.size w2 w3 from bb)
  have hsw3 : w2.heap.size ≤ w3.heap.size := Dw3.out.size
  have HBw3 := Lib.hid (HBw2.out.trans (Dw3.out.mono (by omega)))
  clear hres bb b0 b1 b2
  refine (toIntS_any w.heap.size A0 c0 l w3 hl0 (by omega) (H0.out.below HBw3.out)).mono ?_
  rintro e w4 ⟨xA0, xc0, rfl, hown, hbel⟩
  have Ox0 := Lib.hid hown
  have Dw4 := Lib.hid (show Below w3.heap.size w3 w4 from hbel)
  have hsw4 : w3.heap.size ≤ w4.heap.size := Dw4.out.size
  have HBw4 := Lib.hid (HBw3.out.trans (Dw4.out.mono (by omega)))
  have HBS := Lib.hid Dw4.out
  clear hown hbel
  go_wp2_with fail
  go_at_call 33
  refine (HIMPL.out w4 xA0 xc0 Ox0.out.cap Ox0.out.rd).mono ?_
  rintro e w5 ⟨G1, G2, u1, u2, rfl, hres, hbel⟩
  have Dw5 := Lib.hid (show Below w4.heap.size w4 w5 from hbel)
  have hsw5 : w4.heap.size ≤ w5.heap.size := Dw5.out.size
  have HBw5 := Lib.hid (HBw4.out.trans (Dw5.out.mono (by omega)))
  have HBS := Lib.hid (HBS.out.trans (Dw5.out.mono (by omega)))
  clear hbel
  have OX0 := Lib.hid (Ox0.out.below Dw5.out)
  have zb0 := cell_kept ((HBS.out.cell (p := ⟨w2.heap.size, 0, none⟩) (by simp only []; omega)).trans B0.out)
  have zb1 := cell_kept ((HBS.out.cell (p := ⟨w2.heap.size, 1, none⟩) (by simp only []; omega)).trans B1.out)
  have zb2 := cell_kept ((HBS.out.cell (p := ⟨w2.heap.size, 2, none⟩) (by simp only []; omega)).trans B2.out)
  go_wp2_with fail
  go_at_call 34
  generalize hww : World.alloc w5 _ = w6
  obtain ⟨g0, g1, g2, gs, gb⟩ := box3 hww
  clear hww zb0 zb1 zb2
  have HGO := Lib.hid hres
  have HG := Lib.hid (hres.below gb)
  have Dw6 := Lib.hid (show Below w5.heap.size w5 w6 from gb)
  have hsw6 : w5.heap.size ≤ w6.heap.size := Dw6.out.size
  have HBw6 := Lib.hid (HBw5.out.trans (Dw6.out.mono (by omega)))
  have HBS := Lib.hid (HBS.out.trans (Dw6.out.mono (by omega)))
  clear hres gb
  have OX0 := Lib.hid (OX0.out.below Dw6.out)
  have hE := eqPlan_any w6.heap.size w6.heap.size G1 G2 R1 R2 u1 u2 v1 v2 r r w6 (by omega) (by omega) (by omega) (by omega) (Nat.le_refl _) (Nat.le_refl _) HG.out.rd (RES.out.below HBS.out).rd
  rw [show eqP r r = true by simp [eqP]] at hE
  refine hE.mono ?_
  rintro e w7 ⟨rfl, hbe⟩
  clear hE
  have Dw7 := Lib.hid (show Below w6.heap.size w6 w7 from hbe)
  have hsw7 : w6.heap.size ≤ w7.heap.size := Dw7.out.size
  have HBw7 := Lib.hid (HBw6.out.trans (Dw7.out.mono (by omega)))
  have HBS := Lib.hid (HBS.out.trans (Dw7.out.mono (by omega)))
  have g0 := (Dw7.out.cell (p := ⟨w5.heap.size, 0, none⟩) (by simp only []; omega)).trans g0
  have g1 := (Dw7.out.cell (p := ⟨w5.heap.size, 1, none⟩) (by simp only []; omega)).trans g1
  have g2 := (Dw7.out.cell (p := ⟨w5.heap.size, 2, none⟩) (by simp only []; omega)).trans g2
  clear hbe
  have OX0 := Lib.hid (OX0.out.below Dw7.out)
  have HG := Lib.hid (HG.out.below Dw7.out)
  go_wp2_with fail
  go_at_call 16
  refine (toIntS_any w.heap.size A0 c0 l w7 hl0 (by omega) (H0.out.below HBw7.out)).mono ?_
  rintro e w8 ⟨yA0, yc0, rfl, hown, hbel⟩
  have OY := Lib.hid hown
  have Dw8 := Lib.hid (show Below w7.heap.size w7 w8 from hbel)
  have hsw8 : w7.heap.size ≤ w8.heap.size := Dw8.out.size
  have HBw8 := Lib.hid (HBw7.out.trans (Dw8.out.mono (by omega)))
  have HBS := Lib.hid (HBS.out.trans (Dw8.out.mono (by omega)))
  have g0 := (Dw8.out.cell (p := ⟨w5.heap.size, 0, none⟩) (by simp only []; omega)).trans g0
  have g1 := (Dw8.out.cell (p := ⟨w5.heap.size, 1, none⟩) (by simp only []; omega)).trans g1
  have g2 := (Dw8.out.cell (p := ⟨w5.heap.size, 2, none⟩) (by simp only []; omega)).trans g2
  clear hown hbel
  have OX0 := Lib.hid (OX0.out.below Dw8.out)
  have HG := Lib.hid (HG.out.below Dw8.out)
  go_wp2_with fail
  go_at_call 18
  have hE := eqIntS_any w8.heap.size w8.heap.size xA0 yA0 xc0 yc0 l l w8 (by omega) (by omega) OX0.out.rd OY.out.rd
  rw [eqI_refl] at hE
  refine hE.mono ?_
  rintro e w9 ⟨rfl, ⟨ny0, rfl⟩⟩
  clear hE OY
  have hbd := bDrewN (Below.refl w8.heap.size w8) ny0
  generalize hww : w8.drewN ny0 = w9 at hbd ⊢
  clear hww
  have Dw9 := Lib.hid (show Below w8.heap.size w8 w9 from hbd)
  have hsw9 : w8.heap.size ≤ w9.heap.size := Dw9.out.size
  have HBw9 := Lib.hid (HBw8.out.trans (Dw9.out.mono (by omega)))
  have HBS := Lib.hid (HBS.out.trans (Dw9.out.mono (by omega)))
  have g0 := (Dw9.out.cell (p := ⟨w5.heap.size, 0, none⟩) (by simp only []; omega)).trans g0
  have g1 := (Dw9.out.cell (p := ⟨w5.heap.size, 1, none⟩) (by simp only []; omega)).trans g1
  have g2 := (Dw9.out.cell (p := ⟨w5.heap.size, 2, none⟩) (by simp only []; omega)).trans g2
  clear hbd
  have OX0 := Lib.hid (OX0.out.below Dw9.out)
  have HG := Lib.hid (HG.out.below Dw9.out)
  go_wp2_with fail
  go_at_call 22
  refine (markIntS_any w3.heap.size xA0 xc0 l (1) w9 (by omega) (by omega) (by omega) (own_base OX0.out (by omega))).mono ?_
  rintro e w10 ⟨rfl, _, hg⟩
  have hwn : Win w3.heap.size w4.heap.size w9 w10 := Win.of_grown hg (by omega) (fun k hk => ⟨Nat.le_trans (by omega) (own_block Ox0.out k hk).1, Nat.lt_of_lt_of_le (own_block Ox0.out k hk).2 (by omega)⟩)
  have hsw10 : w9.heap.size ≤ w10.heap.size := hwn.1.size
  have HBw10 := Lib.hid (HBw9.out.trans (hwn.1.mono (by omega)))
  have HBS := Lib.hid (HBS.out.trans hwn.1)
  have HG := Lib.hid (show OwP w10 w4.heap.size G1 G2 u1 u2 r from ⟨hwn.own HG.out.1 (Nat.le_refl _), hwn.own HG.out.2 (Nat.le_refl _)⟩)
  have g0 := (World.cell?_of_block (a := ⟨w5.heap.size, 0, none⟩) (hwn.2 w5.heap.size (by omega) (by omega))).trans g0
  have g1 := (World.cell?_of_block (a := ⟨w5.heap.size, 1, none⟩) (hwn.2 w5.heap.size (by omega) (by omega))).trans g1
  have g2 := (World.cell?_of_block (a := ⟨w5.heap.size, 2, none⟩) (hwn.2 w5.heap.size (by omega) (by omega))).trans g2
  clear hg hwn
  have hk0 : ¬ (1 + (l.length : Int) < 0) := by omega
  have b0 := (HBS.out.cell (p := ⟨w2.heap.size, 0, none⟩) (by simp only []; omega)).trans B0.out
  have b1 := (HBS.out.cell (p := ⟨w2.heap.size, 1, none⟩) (by simp only []; omega)).trans B1.out
  have b2 := (HBS.out.cell (p := ⟨w2.heap.size, 2, none⟩) (by simp only []; omega)).trans B2.out
  go_wp2_with fail
  go_at_call 34
  clear b0 b1 b2
  have hE := eqPlan_any w10.heap.size w10.heap.size G1 G2 R1 R2 u1 u2 v1 v2 r r w10 (by omega) (by omega) (by omega) (by omega) (Nat.le_refl _) (Nat.le_refl _) HG.out.rd (RES.out.below HBS.out).rd
  rw [show eqP r r = true by simp [eqP]] at hE
  refine hE.mono ?_
  rintro e w11 ⟨rfl, hbe⟩
  clear hE
  have Dw11 := Lib.hid (show Below w10.heap.size w10 w11 from hbe)
  have hsw11 : w10.heap.size ≤ w11.heap.size := Dw11.out.size
  have HBw11 := Lib.hid (HBw10.out.trans (Dw11.out.mono (by omega)))
  have HBS := Lib.hid (HBS.out.trans (Dw11.out.mono (by omega)))
  have g0 := (Dw11.out.cell (p := ⟨w5.heap.size, 0, none⟩) (by simp only []; omega)).trans g0
  have g1 := (Dw11.out.cell (p := ⟨w5.heap.size, 1, none⟩) (by simp only []; omega)).trans g1
  have g2 := (Dw11.out.cell (p := ⟨w5.heap.size, 2, none⟩) (by simp only []; omega)).trans g2
  clear hbe
  have HG := Lib.hid (HG.out.below Dw11.out)
  go_wp2_with fail
  go_at_call 35
  have hwin := markPlan_any w4.heap.size w5.heap.size G1 G2 u1 u2 r 1 w11 (by omega) (by omega) (by omega) (by omega) (by omega) (by omega) HG.out (fun k hk => (own_block HGO.out.1 k hk).2) (fun k hk => (own_block HGO.out.2 k hk).2)
  refine hwin.mono ?_
  rintro e w12 ⟨rfl, hm1, hm2, hwn⟩
  clear hwin
  have hsw12 : w11.heap.size ≤ w12.heap.size := hwn.1.size
  have hk1 : ¬ (1 + 2 * (r.s.length : Int) + (r.o.length : Int) < 0) := by omega
  have g0 := (World.cell?_of_block (a := ⟨w5.heap.size, 0, none⟩) (hwn.2 w5.heap.size (Nat.le_refl _) (by omega))).trans g0
  have g1 := (World.cell?_of_block (a := ⟨w5.heap.size, 1, none⟩) (hwn.2 w5.heap.size (Nat.le_refl _) (by omega))).trans g1
  have g2 := (World.cell?_of_block (a := ⟨w5.heap.size, 2, none⟩) (hwn.2 w5.heap.size (Nat.le_refl _) (by omega))).trans g2
  have M1 := Lib.hid (own_rd_marksS hm1)
  have M2 := Lib.hid (own_rd_marks hm2)
  have HBw12 := Lib.hid (HBw11.out.trans (hwn.1.mono (by omega)))
  have HBS := Lib.hid (HBS.out.trans (hwn.1.mono (by omega)))
  clear hwn hm1 hm2
  go_wp2_with fail
  go_at_call 36
  refine (heldPlan_any w12.heap.size G1 G2 u1 u2 r.s.length r.o.length r.n 1 w12 (by omega) (by omega) (by omega) (by omega) (Nat.le_refl _) M1.out M2.out).mono ?_
  rintro e w13 ⟨rfl, hbh⟩
  have Dw13 := Lib.hid (show Below w12.heap.size w12 w13 from hbh)
  have hsw13 : w12.heap.size ≤ w13.heap.size := Dw13.out.size
  have HBw13 := Lib.hid (HBw12.out.trans (Dw13.out.mono (by omega)))
  have HBS := Lib.hid (HBS.out.trans (Dw13.out.mono (by omega)))
  have g0 := (Dw13.out.cell (p := ⟨w5.heap.size, 0, none⟩) (by simp only []; omega)).trans g0
  have g1 := (Dw13.out.cell (p := ⟨w5.heap.size, 1, none⟩) (by simp only []; omega)).trans g1
  have g2 := (Dw13.out.cell (p := ⟨w5.heap.size, 2, none⟩) (by simp only []; omega)).trans g2
  clear hbh
  have M1 := Lib.hid ((M1.out.below Dw13.out).more (by omega))
  have M2 := Lib.hid ((M2.out.below Dw13.out).more (by omega))
  go_wp2_with fail
  go_at_call 16
  refine (toIntS_any w.heap.size A0 c0 l w13 hl0 (by omega) (H0.out.below HBw13.out)).mono ?_
  rintro e w14 ⟨zA0, zc0, rfl, hown, hbel⟩
  have Oz0 := Lib.hid hown
  have Dw14 := Lib.hid (show Below w13.heap.size w13 w14 from hbel)
  have hsw14 : w13.heap.size ≤ w14.heap.size := Dw14.out.size
  have HBw14 := Lib.hid (HBw13.out.trans (Dw14.out.mono (by omega)))
  have HBS := Lib.hid (HBS.out.trans (Dw14.out.mono (by omega)))
  have g0 := (Dw14.out.cell (p := ⟨w5.heap.size, 0, none⟩) (by simp only []; omega)).trans g0
  have g1 := (Dw14.out.cell (p := ⟨w5.heap.size, 1, none⟩) (by simp only []; omega)).trans g1
  have g2 := (Dw14.out.cell (p := ⟨w5.heap.size, 2, none⟩) (by simp only []; omega)).trans g2
  clear hown hbel
  have M1 := Lib.hid ((M1.out.below Dw14.out).more (by omega))
  have M2 := Lib.hid ((M2.out.below Dw14.out).more (by omega))
  go_wp2_with fail
  go_at_call 33
  refine (HIMPL.out w14 zA0 zc0 Oz0.out.cap Oz0.out.rd).mono ?_
  rintro e w15 ⟨E1, E2, h1', h2', rfl, hres, hbel⟩
  have Dw15 := Lib.hid (show Below w14.heap.size w14 w15 from hbel)
  have hsw15 : w14.heap.size ≤ w15.heap.size := Dw15.out.size
  have HBw15 := Lib.hid (HBw14.out.trans (Dw15.out.mono (by omega)))
  have HBS := Lib.hid (HBS.out.trans (Dw15.out.mono (by omega)))
  have g0 := (Dw15.out.cell (p := ⟨w5.heap.size, 0, none⟩) (by simp only []; omega)).trans g0
  have g1 := (Dw15.out.cell (p := ⟨w5.heap.size, 1, none⟩) (by simp only []; omega)).trans g1
  have g2 := (Dw15.out.cell (p := ⟨w5.heap.size, 2, none⟩) (by simp only []; omega)).trans g2
  clear hbel
  have M1 := Lib.hid ((M1.out.below Dw15.out).more (by omega))
  have M2 := Lib.hid ((M2.out.below Dw15.out).more (by omega))
  have zb0 := cell_kept ((HBS.out.cell (p := ⟨w2.heap.size, 0, none⟩) (by simp only []; omega)).trans B0.out)
  have zb1 := cell_kept ((HBS.out.cell (p := ⟨w2.heap.size, 1, none⟩) (by simp only []; omega)).trans B1.out)
  have zb2 := cell_kept ((HBS.out.cell (p := ⟨w2.heap.size, 2, none⟩) (by simp only []; omega)).trans B2.out)
  go_wp2_with fail
  go_at_call 34
  generalize hww : World.alloc w15 _ = w16
  obtain ⟨_, _, _, hs16, hb16⟩ := box3 hww
  clear hww zb0 zb1 zb2
  have HH := Lib.hid (hres.below hb16)
  have Dw16 := Lib.hid (show Below w15.heap.size w15 w16 from hb16)
  have hsw16 : w15.heap.size ≤ w16.heap.size := Dw16.out.size
  have HBw16 := Lib.hid (HBw15.out.trans (Dw16.out.mono (by omega)))
  have HBS := Lib.hid (HBS.out.trans (Dw16.out.mono (by omega)))
  have g0 := (Dw16.out.cell (p := ⟨w5.heap.size, 0, none⟩) (by simp only []; omega)).trans g0
  have g1 := (Dw16.out.cell (p := ⟨w5.heap.size, 1, none⟩) (by simp only []; omega)).trans g1
  have g2 := (Dw16.out.cell (p := ⟨w5.heap.size, 2, none⟩) (by simp only []; omega)).trans g2
  clear hres hb16
  have M1 := Lib.hid ((M1.out.below Dw16.out).more (by omega))
  have M2 := Lib.hid ((M2.out.below Dw16.out).more (by omega))
  have hE := eqPlan_any w16.heap.size w16.heap.size E1 E2 R1 R2 h1' h2' v1 v2 r r w16 (by omega) (by omega) (by omega) (by omega) (Nat.le_refl _) (Nat.le_refl _) HH.out.rd (RES.out.below HBS.out).rd
  rw [show eqP r r = true by simp [eqP]] at hE
  refine hE.mono ?_
  rintro e w17 ⟨rfl, hbe⟩
  clear hE
  have Dw17 := Lib.hid (show Below w16.heap.size w16 w17 from hbe)
  have hsw17 : w16.heap.size ≤ w17.heap.size := Dw17.out.size
  have HBw17 := Lib.hid (HBw16.out.trans (Dw17.out.mono (by omega)))
  have HBS := Lib.hid (HBS.out.trans (Dw17.out.mono (by omega)))
  have g0 := (Dw17.out.cell (p := ⟨w5.heap.size, 0, none⟩) (by simp only []; omega)).trans g0
  have g1 := (Dw17.out.cell (p := ⟨w5.heap.size, 1, none⟩) (by simp only []; omega)).trans g1
  have g2 := (Dw17.out.cell (p := ⟨w5.heap.size, 2, none⟩) (by simp only []; omega)).trans g2
  clear hbe
  have M1 := Lib.hid ((M1.out.below Dw17.out).more (by omega))
  have M2 := Lib.hid ((M2.out.below Dw17.out).more (by omega))
  go_wp2_with fail
  go_at_call 36
  refine (heldPlan_any w17.heap.size G1 G2 u1 u2 r.s.length r.o.length r.n 1 w17 (by omega) (by omega) (by omega) (by omega) (Nat.le_refl _) M1.out M2.out).mono ?_
  rintro e w18 ⟨rfl, hbh⟩
  have Dw18 := Lib.hid (show Below w17.heap.size w17 w18 from hbh)
  have hsw18 : w17.heap.size ≤ w18.heap.size := Dw18.out.size
  have HBw18 := Lib.hid (HBw17.out.trans (Dw18.out.mono (by omega)))
  have HBS := Lib.hid (HBS.out.trans (Dw18.out.mono (by omega)))
  have g0 := (Dw18.out.cell (p := ⟨w5.heap.size, 0, none⟩) (by simp only []; omega)).trans g0
  have g1 := (Dw18.out.cell (p := ⟨w5.heap.size, 1, none⟩) (by simp only []; omega)).trans g1
  have g2 := (Dw18.out.cell (p := ⟨w5.heap.size, 2, none⟩) (by simp only []; omega)).trans g2
  clear hbh
  have M1 := Lib.hid ((M1.out.below Dw18.out).more (by omega))
  have M2 := Lib.hid ((M2.out.below Dw18.out).more (by omega))
  go_wp2
  go_ret
  exact ⟨rfl, HBw18.out⟩

set_option maxRecDepth 100000 in
theorem chainPlan_lifted (os : Os) (started : os.Started) (H : Type) (enc : TypeId × Value → H) :
    ReturnsInHanded {} Try.checked os 8 .any (Rows.fnExactChainPlanSpec.pre6 enc Try.prog Try.f8 Rows.fnExactChainPlanRow.domain false) (Rows.fnExactChainPlanSpec.post enc Try.prog Try.f8 false true false false) := by
  refine returnsInHanded_of_change (C := Try.checked) own started (by kernel_rfl) Try.func8
    (ChangeSpec.witness6 (enc := enc) (C := Try.checked) false ⟨#[], #[.slice none 0 0], []⟩ 8 (by kernel_rfl) (by kernel_rfl) (by kernel_rfl) (by kernel_rfl)) ?_
  intro W base args ds gs before hval0 hW _ _
  have hval : ∀ (j : Nat) t v, Try.f8.params[j]? = some t → args[j]? = some v → Value.okWide Try.prog W .any base t v := hval0
  have hW' := hW
  obtain ⟨p, q, hA0, hV, rfl, hfz, hnd⟩ := hW
  have hA : DataW.TrodAll enc Try.prog W 0 (fun _ => true) true Try.f8.params.toList args.toList ds p := hA0
  rw [Try.params8] at hA hval
  obtain ⟨v0, d0, rfl, rfl, h0⟩ := trodAll_one hA
  obtain ⟨rfl, rfl⟩ := trodVars_none hV
  have h0k := h0
  obtain ⟨A0, c0, l, hx0, ln0, hrd0⟩ := open_list (hval 0 22 v0 rfl rfl) h0
  subst hx0
  clear hA0 hval0
  simp only [List.append_nil] at hW'
  refine (lawChainPlan A0 c0 l W ln0 hrd0).mono fun e W' ⟨he, hb⟩ => ?_
  subst he
  have hlt : ∀ x ∈ p, x.block < W.heap.size := fun x hx => by simpa using hW'.lt x hx
  refine ⟨_, rfl, _, _, _, [], p, [], hW', trodAll_mk1 (shut_bool Try.underlying4 _), ?_, rfl, hb.frame _, fun h => by cases h⟩
  exact trodAll_mk1 (Below.trod laidOut (by kernel_rfl) (of_decide_eq_true (by kernel_rfl)) h0k hb hlt)

theorem chainPlan_holds : Rows.FnExactChainPlanSaid :=
  OpenClaim.holds_of_wide 8 Try.f8 rfl rfl rfl rfl rfl rfl rfl ⟨rfl, rfl, rfl, rfl, rfl⟩ rfl rfl rfl rfl rfl (by kernel_rfl) Try.func8 (by kernel_rfl)
    (of_decide_eq_true (by kernel_rfl)) (by unfold Func.isWrapper; rw [if_neg (of_decide_eq_false (by kernel_rfl))]; exact ⟨rfl, rfl⟩)
    (fun os started H enc _ => chainPlan_lifted os started H enc)
end Go.Proofs.Ytbbjgcagkmlngac
