/- The law FnExactSequencePlan holds: for every argument, valid or not, SequencePlan of the program answers as SequencePlan of the model, writes into no argument, and its answer owns its memory. No condition. -/
import Derived.Test.YtbbjgcagkmlngacQl
import Derived.Test.YtbbjgcagkmlngacRe
import Derived.Test.YtbbjgcagkmlngacRf
namespace Go.Proofs.Ytbbjgcagkmlngac
open Go.ChangeShapes Go.WideShapes Go.ChangeAt Go.RowKit Go.Deep Go.Joins

set_option maxRecDepth 100000 in
set_option maxHeartbeats 4000000 in
theorem lawSequencePlan (A0 : Option Addr) (c0 : Nat) (l : List Int) (A1 : Option Addr) (c1 : Nat) (m : List Int) (w : World) (hn0 : l.length ≤ 9223372036854775807) (hn1 : m.length ≤ 9223372036854775807) (hr0 : Rd w w.heap.size 1 A0 l.length (l.map I)) (hr1 : Rd w w.heap.size 1 A1 m.length (m.map I)) :
    Calls Try.prog 14 #[.slice A0 l.length c0, .slice A1 m.length c1] w fun e w' => e = .returned (.bool true) ∧ Below w.heap.size w w' := by
  have H0 := Lib.hid hr0
  clear hr0
  have H1 := Lib.hid hr1
  clear hr1
  by_cases hbig0 : 1048576 < l.length
  · have ibig : (1048576 : Int) < (l.length : Int) := by omega
    go_enter Try.func14, Try.ntmps14
    go_wp2
    go_ret
    exact ⟨rfl, Below.refl _ _⟩
  have hl0 : l.length ≤ 1048576 := by omega
  have il0 : ¬ (1048576 : Int) < (l.length : Int) := by omega
  by_cases hbig1 : 1048576 < m.length
  · have ibig : (1048576 : Int) < (m.length : Int) := by omega
    go_enter Try.func14, Try.ntmps14
    go_wp2
    go_ret
    exact ⟨rfl, Below.refl _ _⟩
  have hl1 : m.length ≤ 1048576 := by omega
  have il1 : ¬ (1048576 : Int) < (m.length : Int) := by omega
  obtain ⟨r, hrr⟩ : ∃ r, sqR l m = r := ⟨_, rfl⟩
  have hrs : r.s.length ≤ 1000 := by rw [← hrr]; exact (sqR_len l m).1
  have hro : r.o.length ≤ 1000 := by rw [← hrr]; exact (sqR_len l m).2
  obtain ⟨gd, hgd⟩ : ∃ gx, sqB l m = gx := ⟨_, rfl⟩
  have hspec := fun W A0' c0' A1' c1' => specSeq_any (World.heap W).size A0' c0' l A1' c1' m W (Nat.le_refl _) hl0 hl1
  have himpl := fun W A0' c0' A1' c1' => implSeq_any (World.heap W).size A0' c0' l A1' c1' m W (Nat.le_refl _) hl0 hl1
  rw [hrr, hgd] at hspec himpl
  have HSPEC := Lib.hid hspec
  have HIMPL := Lib.hid himpl
  clear hrr hgd hspec himpl
  go_enter Try.func14, Try.ntmps14
  go_wp2_with fail
  go_at_call 16
  refine (toIntS_any w.heap.size A0 c0 l w hl0 (by omega) H0.out).mono ?_
  rintro e w1 ⟨sA0, sc0, rfl, hown, hbel⟩
  have Os0 := Lib.hid hown
  have Dw1 := Lib.hid (show Below w.heap.size w w1 from hbel)
  have hsw1 : w.heap.size ≤ w1.heap.size := Dw1.out.size
  have HBw1 := Lib.hid Dw1.out
  clear hown hbel
  have Ps0 := Lib.hid Os0.out
  go_wp2_with fail
  go_at_call 16
  refine (toIntS_any w.heap.size A1 c1 m w1 hl1 (by omega) (H1.out.below HBw1.out)).mono ?_
  rintro e w2 ⟨sA1, sc1, rfl, hown, hbel⟩
  have Os1 := Lib.hid hown
  have Dw2 := Lib.hid (show Below w1.heap.size w1 w2 from hbel)
  have hsw2 : w1.heap.size ≤ w2.heap.size := Dw2.out.size
  have HBw2 := Lib.hid (HBw1.out.trans (Dw2.out.mono (by omega)))
  clear hown hbel
  have Os0 := Lib.hid (Os0.out.below Dw2.out)
  go_wp2_with fail
  go_at_call 47
  refine (HSPEC.out w2 sA0 sc0 sA1 sc1 Os0.out.cap Os1.out.cap Os0.out.rd Os1.out.rd).mono ?_
  rintro e w3 ⟨R1, R2, v1, v2, rfl, hres, hbel⟩
  have Dw3 := Lib.hid (show Below w2.heap.size w2 w3 from hbel)
  have hsw3 : w2.heap.size ≤ w3.heap.size := Dw3.out.size
  have HBw3 := Lib.hid (HBw2.out.trans (Dw3.out.mono (by omega)))
  clear hbel
  go_wp2_with fail
  go_at_call 16
  generalize hww : World.alloc w3 _ = w4
  obtain ⟨b0, b1, b2, bs, bb⟩ := box3 hww
  clear hww
  have RES := Lib.hid (hres.below bb)
  have B0 := Lib.hid b0
  have B1 := Lib.hid b1
  have B2 := Lib.hid b2
  have Dw4 := Lib.hid (show Below w3.heap.size w3 w4 from bb)
  have hsw4 : w3.heap.size ≤ w4.heap.size := Dw4.out.size
  have HBw4 := Lib.hid (HBw3.out.trans (Dw4.out.mono (by omega)))
  clear hres bb b0 b1 b2
  refine (toIntS_any w.heap.size A0 c0 l w4 hl0 (by omega) (H0.out.below HBw4.out)).mono ?_
  rintro e w5 ⟨xA0, xc0, rfl, hown, hbel⟩
  have Ox0 := Lib.hid hown
  have Dw5 := Lib.hid (show Below w4.heap.size w4 w5 from hbel)
  have hsw5 : w4.heap.size ≤ w5.heap.size := Dw5.out.size
  have HBw5 := Lib.hid (HBw4.out.trans (Dw5.out.mono (by omega)))
  have HBS := Lib.hid Dw5.out
  clear hown hbel
  have Px0 := Lib.hid Ox0.out
  go_wp2_with fail
  go_at_call 16
  refine (toIntS_any w.heap.size A1 c1 m w5 hl1 (by omega) (H1.out.below HBw5.out)).mono ?_
  rintro e w6 ⟨xA1, xc1, rfl, hown, hbel⟩
  have Ox1 := Lib.hid hown
  have Dw6 := Lib.hid (show Below w5.heap.size w5 w6 from hbel)
  have hsw6 : w5.heap.size ≤ w6.heap.size := Dw6.out.size
  have HBw6 := Lib.hid (HBw5.out.trans (Dw6.out.mono (by omega)))
  have HBS := Lib.hid (HBS.out.trans (Dw6.out.mono (by omega)))
  clear hown hbel
  have Ox0 := Lib.hid (Ox0.out.below Dw6.out)
  go_wp2_with fail
  go_at_call 48
  refine (HIMPL.out w6 xA0 xc0 xA1 xc1 Ox0.out.cap Ox1.out.cap Ox0.out.rd Ox1.out.rd).mono ?_
  rintro e w7 ⟨G1, G2, u1, u2, rfl, hres, hbel⟩
  have Dw7 := Lib.hid (show Below w6.heap.size w6 w7 from hbel)
  have hsw7 : w6.heap.size ≤ w7.heap.size := Dw7.out.size
  have HBw7 := Lib.hid (HBw6.out.trans (Dw7.out.mono (by omega)))
  have HBS := Lib.hid (HBS.out.trans (Dw7.out.mono (by omega)))
  clear hbel
  have OX0 := Lib.hid (Ox0.out.below Dw7.out)
  have OX1 := Lib.hid (Ox1.out.below Dw7.out)
  have zb0 := cell_kept ((HBS.out.cell (p := ⟨w3.heap.size, 0, none⟩) (by simp only []; omega)).trans B0.out)
  have zb1 := cell_kept ((HBS.out.cell (p := ⟨w3.heap.size, 1, none⟩) (by simp only []; omega)).trans B1.out)
  have zb2 := cell_kept ((HBS.out.cell (p := ⟨w3.heap.size, 2, none⟩) (by simp only []; omega)).trans B2.out)
  go_wp2_with fail
  go_at_call 34
  generalize hww : World.alloc w7 _ = w8
  obtain ⟨g0, g1, g2, gs, gb⟩ := box3 hww
  clear hww zb0 zb1 zb2
  have HGO := Lib.hid hres
  have HG := Lib.hid (hres.below gb)
  have Dw8 := Lib.hid (show Below w7.heap.size w7 w8 from gb)
  have hsw8 : w7.heap.size ≤ w8.heap.size := Dw8.out.size
  have HBw8 := Lib.hid (HBw7.out.trans (Dw8.out.mono (by omega)))
  have HBS := Lib.hid (HBS.out.trans (Dw8.out.mono (by omega)))
  clear hres gb
  have OX0 := Lib.hid (OX0.out.below Dw8.out)
  have OX1 := Lib.hid (OX1.out.below Dw8.out)
  have hE := eqPlan_any w8.heap.size w8.heap.size G1 G2 R1 R2 u1 u2 v1 v2 r r w8 (by omega) (by omega) (by omega) (by omega) (Nat.le_refl _) (Nat.le_refl _) HG.out.rd (RES.out.below HBS.out).rd
  rw [show eqP r r = true by simp [eqP]] at hE
  refine hE.mono ?_
  rintro e w9 ⟨rfl, hbe⟩
  clear hE
  have Dw9 := Lib.hid (show Below w8.heap.size w8 w9 from hbe)
  have hsw9 : w8.heap.size ≤ w9.heap.size := Dw9.out.size
  have HBw9 := Lib.hid (HBw8.out.trans (Dw9.out.mono (by omega)))
  have HBS := Lib.hid (HBS.out.trans (Dw9.out.mono (by omega)))
  have g0 := (Dw9.out.cell (p := ⟨w7.heap.size, 0, none⟩) (by simp only []; omega)).trans g0
  have g1 := (Dw9.out.cell (p := ⟨w7.heap.size, 1, none⟩) (by simp only []; omega)).trans g1
  have g2 := (Dw9.out.cell (p := ⟨w7.heap.size, 2, none⟩) (by simp only []; omega)).trans g2
  clear hbe
  have OX0 := Lib.hid (OX0.out.below Dw9.out)
  have OX1 := Lib.hid (OX1.out.below Dw9.out)
  have HG := Lib.hid (HG.out.below Dw9.out)
  go_wp2_with fail
  go_at_call 16
  refine (toIntS_any w.heap.size A0 c0 l w9 hl0 (by omega) (H0.out.below HBw9.out)).mono ?_
  rintro e w10 ⟨yA0, yc0, rfl, hown, hbel⟩
  have OY := Lib.hid hown
  have Dw10 := Lib.hid (show Below w9.heap.size w9 w10 from hbel)
  have hsw10 : w9.heap.size ≤ w10.heap.size := Dw10.out.size
  have HBw10 := Lib.hid (HBw9.out.trans (Dw10.out.mono (by omega)))
  have HBS := Lib.hid (HBS.out.trans (Dw10.out.mono (by omega)))
  have g0 := (Dw10.out.cell (p := ⟨w7.heap.size, 0, none⟩) (by simp only []; omega)).trans g0
  have g1 := (Dw10.out.cell (p := ⟨w7.heap.size, 1, none⟩) (by simp only []; omega)).trans g1
  have g2 := (Dw10.out.cell (p := ⟨w7.heap.size, 2, none⟩) (by simp only []; omega)).trans g2
  clear hown hbel
  have OX0 := Lib.hid (OX0.out.below Dw10.out)
  have OX1 := Lib.hid (OX1.out.below Dw10.out)
  have HG := Lib.hid (HG.out.below Dw10.out)
  go_wp2_with fail
  go_at_call 18
  have hE := eqIntS_any w10.heap.size w10.heap.size xA0 yA0 xc0 yc0 l l w10 (by omega) (by omega) OX0.out.rd OY.out.rd
  rw [eqI_refl] at hE
  refine hE.mono ?_
  rintro e w11 ⟨rfl, ⟨ny0, rfl⟩⟩
  clear hE OY
  have hbd := bDrewN (Below.refl w10.heap.size w10) ny0
  generalize hww : w10.drewN ny0 = w11 at hbd ⊢
  clear hww
  have Dw11 := Lib.hid (show Below w10.heap.size w10 w11 from hbd)
  have hsw11 : w10.heap.size ≤ w11.heap.size := Dw11.out.size
  have HBw11 := Lib.hid (HBw10.out.trans (Dw11.out.mono (by omega)))
  have HBS := Lib.hid (HBS.out.trans (Dw11.out.mono (by omega)))
  have g0 := (Dw11.out.cell (p := ⟨w7.heap.size, 0, none⟩) (by simp only []; omega)).trans g0
  have g1 := (Dw11.out.cell (p := ⟨w7.heap.size, 1, none⟩) (by simp only []; omega)).trans g1
  have g2 := (Dw11.out.cell (p := ⟨w7.heap.size, 2, none⟩) (by simp only []; omega)).trans g2
  clear hbd
  have OX0 := Lib.hid (OX0.out.below Dw11.out)
  have OX1 := Lib.hid (OX1.out.below Dw11.out)
  have HG := Lib.hid (HG.out.below Dw11.out)
  go_wp2_with fail
  go_at_call 16
  refine (toIntS_any w.heap.size A1 c1 m w11 hl1 (by omega) (H1.out.below HBw11.out)).mono ?_
  rintro e w12 ⟨yA1, yc1, rfl, hown, hbel⟩
  have OY := Lib.hid hown
  have Dw12 := Lib.hid (show Below w11.heap.size w11 w12 from hbel)
  have hsw12 : w11.heap.size ≤ w12.heap.size := Dw12.out.size
  have HBw12 := Lib.hid (HBw11.out.trans (Dw12.out.mono (by omega)))
  have HBS := Lib.hid (HBS.out.trans (Dw12.out.mono (by omega)))
  have g0 := (Dw12.out.cell (p := ⟨w7.heap.size, 0, none⟩) (by simp only []; omega)).trans g0
  have g1 := (Dw12.out.cell (p := ⟨w7.heap.size, 1, none⟩) (by simp only []; omega)).trans g1
  have g2 := (Dw12.out.cell (p := ⟨w7.heap.size, 2, none⟩) (by simp only []; omega)).trans g2
  clear hown hbel
  have OX0 := Lib.hid (OX0.out.below Dw12.out)
  have OX1 := Lib.hid (OX1.out.below Dw12.out)
  have HG := Lib.hid (HG.out.below Dw12.out)
  go_wp2_with fail
  go_at_call 18
  have hE := eqIntS_any w12.heap.size w12.heap.size xA1 yA1 xc1 yc1 m m w12 (by omega) (by omega) OX1.out.rd OY.out.rd
  rw [eqI_refl] at hE
  refine hE.mono ?_
  rintro e w13 ⟨rfl, ⟨ny1, rfl⟩⟩
  clear hE OY
  have hbd := bDrewN (Below.refl w12.heap.size w12) ny1
  generalize hww : w12.drewN ny1 = w13 at hbd ⊢
  clear hww
  have Dw13 := Lib.hid (show Below w12.heap.size w12 w13 from hbd)
  have hsw13 : w12.heap.size ≤ w13.heap.size := Dw13.out.size
  have HBw13 := Lib.hid (HBw12.out.trans (Dw13.out.mono (by omega)))
  have HBS := Lib.hid (HBS.out.trans (Dw13.out.mono (by omega)))
  have g0 := (Dw13.out.cell (p := ⟨w7.heap.size, 0, none⟩) (by simp only []; omega)).trans g0
  have g1 := (Dw13.out.cell (p := ⟨w7.heap.size, 1, none⟩) (by simp only []; omega)).trans g1
  have g2 := (Dw13.out.cell (p := ⟨w7.heap.size, 2, none⟩) (by simp only []; omega)).trans g2
  clear hbd
  have OX0 := Lib.hid (OX0.out.below Dw13.out)
  have OX1 := Lib.hid (OX1.out.below Dw13.out)
  have HG := Lib.hid (HG.out.below Dw13.out)
  go_wp2_with fail
  go_at_call 22
  refine (markIntS_any w4.heap.size xA0 xc0 l (1) w13 (by omega) (by omega) (by omega) (own_base OX0.out (by omega))).mono ?_
  rintro e w14 ⟨rfl, _, hg⟩
  have hwn : Win w4.heap.size w6.heap.size w13 w14 := Win.of_grown hg (by omega) (fun k hk => ⟨Nat.le_trans (by omega) (own_block Ox0.out k hk).1, Nat.lt_of_lt_of_le (own_block Ox0.out k hk).2 (by omega)⟩)
  have hsw14 : w13.heap.size ≤ w14.heap.size := hwn.1.size
  have HBw14 := Lib.hid (HBw13.out.trans (hwn.1.mono (by omega)))
  have HBS := Lib.hid (HBS.out.trans hwn.1)
  have HG := Lib.hid (show OwP w14 w6.heap.size G1 G2 u1 u2 r from ⟨hwn.own HG.out.1 (Nat.le_refl _), hwn.own HG.out.2 (Nat.le_refl _)⟩)
  have g0 := (World.cell?_of_block (a := ⟨w7.heap.size, 0, none⟩) (hwn.2 w7.heap.size (by omega) (by omega))).trans g0
  have g1 := (World.cell?_of_block (a := ⟨w7.heap.size, 1, none⟩) (hwn.2 w7.heap.size (by omega) (by omega))).trans g1
  have g2 := (World.cell?_of_block (a := ⟨w7.heap.size, 2, none⟩) (hwn.2 w7.heap.size (by omega) (by omega))).trans g2
  have OX1 := Lib.hid (World.ownsRow.kept OX1.out hg (own_apart Px0.out Ox1.out (Nat.le_refl _)))
  clear hg hwn
  go_wp2_with fail
  go_at_call 22
  refine (markIntS_any w4.heap.size xA1 xc1 m (1 + (l.length : Int)) w14 (by omega) (by omega) (by omega) (own_base OX1.out (by omega))).mono ?_
  rintro e w15 ⟨rfl, _, hg⟩
  have hwn : Win w4.heap.size w6.heap.size w14 w15 := Win.of_grown hg (by omega) (fun k hk => ⟨Nat.le_trans (by omega) (own_block Ox1.out k hk).1, Nat.lt_of_lt_of_le (own_block Ox1.out k hk).2 (by omega)⟩)
  have hsw15 : w14.heap.size ≤ w15.heap.size := hwn.1.size
  have HBw15 := Lib.hid (HBw14.out.trans (hwn.1.mono (by omega)))
  have HBS := Lib.hid (HBS.out.trans hwn.1)
  have HG := Lib.hid (show OwP w15 w6.heap.size G1 G2 u1 u2 r from ⟨hwn.own HG.out.1 (Nat.le_refl _), hwn.own HG.out.2 (Nat.le_refl _)⟩)
  have g0 := (World.cell?_of_block (a := ⟨w7.heap.size, 0, none⟩) (hwn.2 w7.heap.size (by omega) (by omega))).trans g0
  have g1 := (World.cell?_of_block (a := ⟨w7.heap.size, 1, none⟩) (hwn.2 w7.heap.size (by omega) (by omega))).trans g1
  have g2 := (World.cell?_of_block (a := ⟨w7.heap.size, 2, none⟩) (hwn.2 w7.heap.size (by omega) (by omega))).trans g2
  clear hg hwn
  have hk0 : ¬ (1 + (l.length : Int) + (m.length : Int) < 0) := by omega
  have b0 := (HBS.out.cell (p := ⟨w3.heap.size, 0, none⟩) (by simp only []; omega)).trans B0.out
  have b1 := (HBS.out.cell (p := ⟨w3.heap.size, 1, none⟩) (by simp only []; omega)).trans B1.out
  have b2 := (HBS.out.cell (p := ⟨w3.heap.size, 2, none⟩) (by simp only []; omega)).trans B2.out
  go_wp2_with fail
  go_at_call 34
  clear b0 b1 b2
  have hE := eqPlan_any w15.heap.size w15.heap.size G1 G2 R1 R2 u1 u2 v1 v2 r r w15 (by omega) (by omega) (by omega) (by omega) (Nat.le_refl _) (Nat.le_refl _) HG.out.rd (RES.out.below HBS.out).rd
  rw [show eqP r r = true by simp [eqP]] at hE
  refine hE.mono ?_
  rintro e w16 ⟨rfl, hbe⟩
  clear hE
  have Dw16 := Lib.hid (show Below w15.heap.size w15 w16 from hbe)
  have hsw16 : w15.heap.size ≤ w16.heap.size := Dw16.out.size
  have HBw16 := Lib.hid (HBw15.out.trans (Dw16.out.mono (by omega)))
  have HBS := Lib.hid (HBS.out.trans (Dw16.out.mono (by omega)))
  have g0 := (Dw16.out.cell (p := ⟨w7.heap.size, 0, none⟩) (by simp only []; omega)).trans g0
  have g1 := (Dw16.out.cell (p := ⟨w7.heap.size, 1, none⟩) (by simp only []; omega)).trans g1
  have g2 := (Dw16.out.cell (p := ⟨w7.heap.size, 2, none⟩) (by simp only []; omega)).trans g2
  clear hbe
  have HG := Lib.hid (HG.out.below Dw16.out)
  go_wp2_with fail
  go_at_call 35
  have hwin := markPlan_any w6.heap.size w7.heap.size G1 G2 u1 u2 r 1 w16 (by omega) (by omega) (by omega) (by omega) (by omega) (by omega) HG.out (fun k hk => (own_block HGO.out.1 k hk).2) (fun k hk => (own_block HGO.out.2 k hk).2)
  refine hwin.mono ?_
  rintro e w17 ⟨rfl, hm1, hm2, hwn⟩
  clear hwin
  have hsw17 : w16.heap.size ≤ w17.heap.size := hwn.1.size
  have hk1 : ¬ (1 + 2 * (r.s.length : Int) + (r.o.length : Int) < 0) := by omega
  have g0 := (World.cell?_of_block (a := ⟨w7.heap.size, 0, none⟩) (hwn.2 w7.heap.size (Nat.le_refl _) (by omega))).trans g0
  have g1 := (World.cell?_of_block (a := ⟨w7.heap.size, 1, none⟩) (hwn.2 w7.heap.size (Nat.le_refl _) (by omega))).trans g1
  have g2 := (World.cell?_of_block (a := ⟨w7.heap.size, 2, none⟩) (hwn.2 w7.heap.size (Nat.le_refl _) (by omega))).trans g2
  have M1 := Lib.hid (own_rd_marksS hm1)
  have M2 := Lib.hid (own_rd_marks hm2)
  have HBw17 := Lib.hid (HBw16.out.trans (hwn.1.mono (by omega)))
  have HBS := Lib.hid (HBS.out.trans (hwn.1.mono (by omega)))
  clear hwn hm1 hm2
  go_wp2_with fail
  go_at_call 36
  refine (heldPlan_any w17.heap.size G1 G2 u1 u2 r.s.length r.o.length r.n 1 w17 (by omega) (by omega) (by omega) (by omega) (Nat.le_refl _) M1.out M2.out).mono ?_
  rintro e w18 ⟨rfl, hbh⟩
  have Dw18 := Lib.hid (show Below w17.heap.size w17 w18 from hbh)
  have hsw18 : w17.heap.size ≤ w18.heap.size := Dw18.out.size
  have HBw18 := Lib.hid (HBw17.out.trans (Dw18.out.mono (by omega)))
  have HBS := Lib.hid (HBS.out.trans (Dw18.out.mono (by omega)))
  have g0 := (Dw18.out.cell (p := ⟨w7.heap.size, 0, none⟩) (by simp only []; omega)).trans g0
  have g1 := (Dw18.out.cell (p := ⟨w7.heap.size, 1, none⟩) (by simp only []; omega)).trans g1
  have g2 := (Dw18.out.cell (p := ⟨w7.heap.size, 2, none⟩) (by simp only []; omega)).trans g2
  clear hbh
  have M1 := Lib.hid ((M1.out.below Dw18.out).more (by omega))
  have M2 := Lib.hid ((M2.out.below Dw18.out).more (by omega))
  go_wp2_with fail
  go_at_call 16
  refine (toIntS_any w.heap.size A0 c0 l w18 hl0 (by omega) (H0.out.below HBw18.out)).mono ?_
  rintro e w19 ⟨zA0, zc0, rfl, hown, hbel⟩
  have Oz0 := Lib.hid hown
  have Dw19 := Lib.hid (show Below w18.heap.size w18 w19 from hbel)
  have hsw19 : w18.heap.size ≤ w19.heap.size := Dw19.out.size
  have HBw19 := Lib.hid (HBw18.out.trans (Dw19.out.mono (by omega)))
  have HBS := Lib.hid (HBS.out.trans (Dw19.out.mono (by omega)))
  have g0 := (Dw19.out.cell (p := ⟨w7.heap.size, 0, none⟩) (by simp only []; omega)).trans g0
  have g1 := (Dw19.out.cell (p := ⟨w7.heap.size, 1, none⟩) (by simp only []; omega)).trans g1
  have g2 := (Dw19.out.cell (p := ⟨w7.heap.size, 2, none⟩) (by simp only []; omega)).trans g2
  clear hown hbel
  have M1 := Lib.hid ((M1.out.below Dw19.out).more (by omega))
  have M2 := Lib.hid ((M2.out.below Dw19.out).more (by omega))
  go_wp2_with fail
  go_at_call 16
  refine (toIntS_any w.heap.size A1 c1 m w19 hl1 (by omega) (H1.out.below HBw19.out)).mono ?_
  rintro e w20 ⟨zA1, zc1, rfl, hown, hbel⟩
  have Oz1 := Lib.hid hown
  have Dw20 := Lib.hid (show Below w19.heap.size w19 w20 from hbel)
  have hsw20 : w19.heap.size ≤ w20.heap.size := Dw20.out.size
  have HBw20 := Lib.hid (HBw19.out.trans (Dw20.out.mono (by omega)))
  have HBS := Lib.hid (HBS.out.trans (Dw20.out.mono (by omega)))
  have g0 := (Dw20.out.cell (p := ⟨w7.heap.size, 0, none⟩) (by simp only []; omega)).trans g0
  have g1 := (Dw20.out.cell (p := ⟨w7.heap.size, 1, none⟩) (by simp only []; omega)).trans g1
  have g2 := (Dw20.out.cell (p := ⟨w7.heap.size, 2, none⟩) (by simp only []; omega)).trans g2
  clear hown hbel
  have M1 := Lib.hid ((M1.out.below Dw20.out).more (by omega))
  have M2 := Lib.hid ((M2.out.below Dw20.out).more (by omega))
  have Oz0 := Lib.hid (Oz0.out.below Dw20.out)
  go_wp2_with fail
  go_at_call 48
  refine (HIMPL.out w20 zA0 zc0 zA1 zc1 Oz0.out.cap Oz1.out.cap Oz0.out.rd Oz1.out.rd).mono ?_
  rintro e w21 ⟨E1, E2, h1', h2', rfl, hres, hbel⟩
  have Dw21 := Lib.hid (show Below w20.heap.size w20 w21 from hbel)
  have hsw21 : w20.heap.size ≤ w21.heap.size := Dw21.out.size
  have HBw21 := Lib.hid (HBw20.out.trans (Dw21.out.mono (by omega)))
  have HBS := Lib.hid (HBS.out.trans (Dw21.out.mono (by omega)))
  have g0 := (Dw21.out.cell (p := ⟨w7.heap.size, 0, none⟩) (by simp only []; omega)).trans g0
  have g1 := (Dw21.out.cell (p := ⟨w7.heap.size, 1, none⟩) (by simp only []; omega)).trans g1
  have g2 := (Dw21.out.cell (p := ⟨w7.heap.size, 2, none⟩) (by simp only []; omega)).trans g2
  clear hbel
  have M1 := Lib.hid ((M1.out.below Dw21.out).more (by omega))
  have M2 := Lib.hid ((M2.out.below Dw21.out).more (by omega))
  have zb0 := cell_kept ((HBS.out.cell (p := ⟨w3.heap.size, 0, none⟩) (by simp only []; omega)).trans B0.out)
  have zb1 := cell_kept ((HBS.out.cell (p := ⟨w3.heap.size, 1, none⟩) (by simp only []; omega)).trans B1.out)
  have zb2 := cell_kept ((HBS.out.cell (p := ⟨w3.heap.size, 2, none⟩) (by simp only []; omega)).trans B2.out)
  go_wp2_with fail
  go_at_call 34
  generalize hww : World.alloc w21 _ = w22
  obtain ⟨_, _, _, hs16, hb16⟩ := box3 hww
  clear hww zb0 zb1 zb2
  have HH := Lib.hid (hres.below hb16)
  have Dw22 := Lib.hid (show Below w21.heap.size w21 w22 from hb16)
  have hsw22 : w21.heap.size ≤ w22.heap.size := Dw22.out.size
  have HBw22 := Lib.hid (HBw21.out.trans (Dw22.out.mono (by omega)))
  have HBS := Lib.hid (HBS.out.trans (Dw22.out.mono (by omega)))
  have g0 := (Dw22.out.cell (p := ⟨w7.heap.size, 0, none⟩) (by simp only []; omega)).trans g0
  have g1 := (Dw22.out.cell (p := ⟨w7.heap.size, 1, none⟩) (by simp only []; omega)).trans g1
  have g2 := (Dw22.out.cell (p := ⟨w7.heap.size, 2, none⟩) (by simp only []; omega)).trans g2
  clear hres hb16
  have M1 := Lib.hid ((M1.out.below Dw22.out).more (by omega))
  have M2 := Lib.hid ((M2.out.below Dw22.out).more (by omega))
  have hE := eqPlan_any w22.heap.size w22.heap.size E1 E2 R1 R2 h1' h2' v1 v2 r r w22 (by omega) (by omega) (by omega) (by omega) (Nat.le_refl _) (Nat.le_refl _) HH.out.rd (RES.out.below HBS.out).rd
  rw [show eqP r r = true by simp [eqP]] at hE
  refine hE.mono ?_
  rintro e w23 ⟨rfl, hbe⟩
  clear hE
  have Dw23 := Lib.hid (show Below w22.heap.size w22 w23 from hbe)
  have hsw23 : w22.heap.size ≤ w23.heap.size := Dw23.out.size
  have HBw23 := Lib.hid (HBw22.out.trans (Dw23.out.mono (by omega)))
  have HBS := Lib.hid (HBS.out.trans (Dw23.out.mono (by omega)))
  have g0 := (Dw23.out.cell (p := ⟨w7.heap.size, 0, none⟩) (by simp only []; omega)).trans g0
  have g1 := (Dw23.out.cell (p := ⟨w7.heap.size, 1, none⟩) (by simp only []; omega)).trans g1
  have g2 := (Dw23.out.cell (p := ⟨w7.heap.size, 2, none⟩) (by simp only []; omega)).trans g2
  clear hbe
  have M1 := Lib.hid ((M1.out.below Dw23.out).more (by omega))
  have M2 := Lib.hid ((M2.out.below Dw23.out).more (by omega))
  go_wp2_with fail
  go_at_call 36
  refine (heldPlan_any w23.heap.size G1 G2 u1 u2 r.s.length r.o.length r.n 1 w23 (by omega) (by omega) (by omega) (by omega) (Nat.le_refl _) M1.out M2.out).mono ?_
  rintro e w24 ⟨rfl, hbh⟩
  have Dw24 := Lib.hid (show Below w23.heap.size w23 w24 from hbh)
  have hsw24 : w23.heap.size ≤ w24.heap.size := Dw24.out.size
  have HBw24 := Lib.hid (HBw23.out.trans (Dw24.out.mono (by omega)))
  have HBS := Lib.hid (HBS.out.trans (Dw24.out.mono (by omega)))
  have g0 := (Dw24.out.cell (p := ⟨w7.heap.size, 0, none⟩) (by simp only []; omega)).trans g0
  have g1 := (Dw24.out.cell (p := ⟨w7.heap.size, 1, none⟩) (by simp only []; omega)).trans g1
  have g2 := (Dw24.out.cell (p := ⟨w7.heap.size, 2, none⟩) (by simp only []; omega)).trans g2
  clear hbh
  have M1 := Lib.hid ((M1.out.below Dw24.out).more (by omega))
  have M2 := Lib.hid ((M2.out.below Dw24.out).more (by omega))
  go_wp2
  go_ret
  exact ⟨rfl, HBw24.out⟩

set_option maxRecDepth 100000 in
theorem sequencePlan_lifted (os : Os) (started : os.Started) (H : Type) (enc : TypeId × Value → H) :
    ReturnsInHanded {} Try.checked os 14 .any (Rows.fnExactSequencePlanSpec.pre6 enc Try.prog Try.f14 Rows.fnExactSequencePlanRow.domain false) (Rows.fnExactSequencePlanSpec.post enc Try.prog Try.f14 false true false false) := by
  refine returnsInHanded_of_change (C := Try.checked) own started (by kernel_rfl) Try.func14
    (ChangeSpec.witness6 (enc := enc) (C := Try.checked) false ⟨#[], #[.slice none 0 0, .slice none 0 0], []⟩ 8 (by kernel_rfl) (by kernel_rfl) (by kernel_rfl) (by kernel_rfl)) ?_
  intro W base args ds gs before hval0 hW _ _
  have hval : ∀ (j : Nat) t v, Try.f14.params[j]? = some t → args[j]? = some v → Value.okWide Try.prog W .any base t v := hval0
  have hW' := hW
  obtain ⟨p, q, hA0, hV, rfl, hfz, hnd⟩ := hW
  have hA : DataW.TrodAll enc Try.prog W 0 (fun _ => true) true Try.f14.params.toList args.toList ds p := hA0
  rw [Try.params14] at hA hval
  obtain ⟨v0, v1, d0, d1, p0, p1, rfl, rfl, rfl, h0, h1⟩ := trodAll_two hA
  obtain ⟨rfl, rfl⟩ := trodVars_none hV
  have h0k := h0
  have h1k := h1
  obtain ⟨A0, c0, l, hx0, ln0, hrd0⟩ := open_list (hval 0 22 v0 rfl rfl) h0
  obtain ⟨A1, c1, m, hx1, ln1, hrd1⟩ := open_list (hval 1 22 v1 rfl rfl) h1
  subst hx0
  subst hx1
  clear hA0 hval0
  simp only [List.append_nil] at hW'
  refine (lawSequencePlan A0 c0 l A1 c1 m W ln0 ln1 hrd0 hrd1).mono fun e W' ⟨he, hb⟩ => ?_
  subst he
  have hlt : ∀ x ∈ p0 ++ p1, x.block < W.heap.size := fun x hx => by simpa using hW'.lt x hx
  refine ⟨_, rfl, _, _, _, [], p0 ++ p1, [], hW', trodAll_mk1 (shut_bool Try.underlying4 _), ?_, rfl, hb.frame _, fun h => by cases h⟩
  exact trodAll_mk2 (Below.trod laidOut (by kernel_rfl) (of_decide_eq_true (by kernel_rfl)) h0k hb fun x hx => hlt x (List.mem_append_left _ hx)) (Below.trod laidOut (by kernel_rfl) (of_decide_eq_true (by kernel_rfl)) h1k hb fun x hx => hlt x (List.mem_append_right _ hx))

theorem sequencePlan_holds : Rows.FnExactSequencePlanSaid :=
  OpenClaim.holds_of_wide 14 Try.f14 rfl rfl rfl rfl rfl rfl rfl ⟨rfl, rfl, rfl, rfl, rfl⟩ rfl rfl rfl rfl rfl (by kernel_rfl) Try.func14 (by kernel_rfl)
    (of_decide_eq_true (by kernel_rfl)) (by unfold Func.isWrapper; rw [if_neg (of_decide_eq_false (by kernel_rfl))]; exact ⟨rfl, rfl⟩)
    (fun os started H enc _ => sequencePlan_lifted os started H enc)
end Go.Proofs.Ytbbjgcagkmlngac
