/- The law FnExactFactorPlan holds: for every argument, valid or not, FactorPlan of the program answers as FactorPlan of the model, writes into no argument, and its answer owns its memory. No condition. -/
import Derived.Test.YtodjnafalbbmjaaP2
import Derived.Test.YtodjnafalbbmjaaP1
import Derived.Test.YtodjnafalbbmjaaP9
namespace Go.Proofs.Ytodjnafalbbmjaa
open Go.ChangeShapes Go.WideShapes Go.ChangeAt Go.RowKit Go.Deep Go.Joins

set_option maxRecDepth 100000 in
set_option maxHeartbeats 4000000 in
theorem lawFactorPlan  (x : Int) (w : World)   :
    Calls Try.prog 10 #[.int .i64 x] w fun e w' => e = .returned (.bool true) ∧ Below w.heap.size w w' := by
  obtain ⟨r, hrr⟩ : ∃ r, facR x = r := ⟨_, rfl⟩
  have hrs : r.s.length ≤ 1000 := by rw [← hrr]; exact (facR_len x).1
  have hro : r.o.length ≤ 1000 := by rw [← hrr]; exact (facR_len x).2
  obtain ⟨gd, hgd⟩ : ∃ gx, facG x = gx := ⟨_, rfl⟩
  have hspec := fun W  => specFactorPlan_any  x W
  have himpl := fun W  => implFactorPlan_any  x W
  rw [hrr, hgd] at hspec himpl
  have HSPEC := Lib.hid hspec
  have HIMPL := Lib.hid himpl
  clear hrr hgd hspec himpl
  go_enter Try.func10, Try.ntmps10
  go_wp2_with fail
  go_at_call 33
  refine (HSPEC.out w   ).mono ?_
  rintro e w1 ⟨R1, R2, v1, v2, rfl, hres, hbel⟩
  have Dw1 := Lib.hid (show Below w.heap.size w w1 from hbel)
  have hsw1 : w.heap.size ≤ w1.heap.size := Dw1.out.size
  have HBw1 := Lib.hid Dw1.out
  clear hbel
  go_wp2_with fail
  go_at_call 34
  generalize hww : World.alloc w1 _ = w2
  obtain ⟨b0, b1, b2, bs, bb⟩ := box3 hww
  clear hww
  have RES := Lib.hid (hres.below bb)
  have B0 := Lib.hid b0
  have B1 := Lib.hid b1
  have B2 := Lib.hid b2
  have Dw2 := Lib.hid (show Below w1.heap.size w1 w2 from bb)
  have hsw2 : w1.heap.size ≤ w2.heap.size := Dw2.out.size
  have HBw2 := Lib.hid (HBw1.out.trans (Dw2.out.mono (by omega)))
  clear hres bb b0 b1 b2
  refine (HIMPL.out w2   ).mono ?_
  rintro e w3 ⟨G1, G2, u1, u2, rfl, hres, hbel⟩
  have Dw3 := Lib.hid (show Below w2.heap.size w2 w3 from hbel)
  have hsw3 : w2.heap.size ≤ w3.heap.size := Dw3.out.size
  have HBw3 := Lib.hid (HBw2.out.trans (Dw3.out.mono (by omega)))
  have HBS := Lib.hid Dw3.out
  clear hbel
  have zb0 := cell_kept ((HBS.out.cell (p := ⟨w1.heap.size, 0, none⟩) (by simp only []; omega)).trans B0.out)
  have zb1 := cell_kept ((HBS.out.cell (p := ⟨w1.heap.size, 1, none⟩) (by simp only []; omega)).trans B1.out)
  have zb2 := cell_kept ((HBS.out.cell (p := ⟨w1.heap.size, 2, none⟩) (by simp only []; omega)).trans B2.out)
  go_wp2_with fail
  go_at_call 22
  generalize hww : World.alloc w3 _ = w4
  obtain ⟨g0, g1, g2, gs, gb⟩ := box3 hww
  clear hww zb0 zb1 zb2
  have HGO := Lib.hid hres
  have HG := Lib.hid (hres.below gb)
  have Dw4 := Lib.hid (show Below w3.heap.size w3 w4 from gb)
  have hsw4 : w3.heap.size ≤ w4.heap.size := Dw4.out.size
  have HBw4 := Lib.hid (HBw3.out.trans (Dw4.out.mono (by omega)))
  have HBS := Lib.hid (HBS.out.trans (Dw4.out.mono (by omega)))
  clear hres gb
  have hE := eqPlan_any w4.heap.size w4.heap.size G1 G2 R1 R2 u1 u2 v1 v2 r r w4 (by omega) (by omega) (by omega) (by omega) (Nat.le_refl _) (Nat.le_refl _) HG.out.rd (RES.out.below HBS.out).rd
  rw [show eqP r r = true by simp [eqP]] at hE
  refine hE.mono ?_
  rintro e w5 ⟨rfl, hbe⟩
  clear hE
  have Dw5 := Lib.hid (show Below w4.heap.size w4 w5 from hbe)
  have hsw5 : w4.heap.size ≤ w5.heap.size := Dw5.out.size
  have HBw5 := Lib.hid (HBw4.out.trans (Dw5.out.mono (by omega)))
  have HBS := Lib.hid (HBS.out.trans (Dw5.out.mono (by omega)))
  have g0 := (Dw5.out.cell (p := ⟨w3.heap.size, 0, none⟩) (by simp only []; omega)).trans g0
  have g1 := (Dw5.out.cell (p := ⟨w3.heap.size, 1, none⟩) (by simp only []; omega)).trans g1
  have g2 := (Dw5.out.cell (p := ⟨w3.heap.size, 2, none⟩) (by simp only []; omega)).trans g2
  clear hbe
  have HG := Lib.hid (HG.out.below Dw5.out)
  go_wp2_with fail
  go_at_call 23
  have hwin := markPlan_any w2.heap.size w3.heap.size G1 G2 u1 u2 r 1 w5 (by omega) (by omega) (by omega) (by omega) (by omega) (by omega) HG.out (fun k hk => (own_block HGO.out.1 k hk).2) (fun k hk => (own_block HGO.out.2 k hk).2)
  refine hwin.mono ?_
  rintro e w6 ⟨rfl, hm1, hm2, hwn⟩
  clear hwin
  have hsw6 : w5.heap.size ≤ w6.heap.size := hwn.1.size
  have hk1 : ¬ (1 + 2 * (r.s.length : Int) + (r.o.length : Int) < 0) := by omega
  have g0 := (World.cell?_of_block (a := ⟨w3.heap.size, 0, none⟩) (hwn.2 w3.heap.size (Nat.le_refl _) (by omega))).trans g0
  have g1 := (World.cell?_of_block (a := ⟨w3.heap.size, 1, none⟩) (hwn.2 w3.heap.size (Nat.le_refl _) (by omega))).trans g1
  have g2 := (World.cell?_of_block (a := ⟨w3.heap.size, 2, none⟩) (hwn.2 w3.heap.size (Nat.le_refl _) (by omega))).trans g2
  have M1 := Lib.hid (own_rd_marksS hm1)
  have M2 := Lib.hid (own_rd_marks hm2)
  have HBw6 := Lib.hid (HBw5.out.trans (hwn.1.mono (by omega)))
  have HBS := Lib.hid (HBS.out.trans (hwn.1.mono (by omega)))
  clear hwn hm1 hm2
  go_wp2_with fail
  go_at_call 24
  refine (heldPlan_any w6.heap.size G1 G2 u1 u2 r.s.length r.o.length r.n 1 w6 (by omega) (by omega) (by omega) (by omega) (Nat.le_refl _) M1.out M2.out).mono ?_
  rintro e w7 ⟨rfl, hbh⟩
  have Dw7 := Lib.hid (show Below w6.heap.size w6 w7 from hbh)
  have hsw7 : w6.heap.size ≤ w7.heap.size := Dw7.out.size
  have HBw7 := Lib.hid (HBw6.out.trans (Dw7.out.mono (by omega)))
  have HBS := Lib.hid (HBS.out.trans (Dw7.out.mono (by omega)))
  have g0 := (Dw7.out.cell (p := ⟨w3.heap.size, 0, none⟩) (by simp only []; omega)).trans g0
  have g1 := (Dw7.out.cell (p := ⟨w3.heap.size, 1, none⟩) (by simp only []; omega)).trans g1
  have g2 := (Dw7.out.cell (p := ⟨w3.heap.size, 2, none⟩) (by simp only []; omega)).trans g2
  clear hbh
  have M1 := Lib.hid ((M1.out.below Dw7.out).more (by omega))
  have M2 := Lib.hid ((M2.out.below Dw7.out).more (by omega))
  go_wp2_with fail
  go_at_call 34
  refine (HIMPL.out w7   ).mono ?_
  rintro e w8 ⟨E1, E2, h1', h2', rfl, hres, hbel⟩
  have Dw8 := Lib.hid (show Below w7.heap.size w7 w8 from hbel)
  have hsw8 : w7.heap.size ≤ w8.heap.size := Dw8.out.size
  have HBw8 := Lib.hid (HBw7.out.trans (Dw8.out.mono (by omega)))
  have HBS := Lib.hid (HBS.out.trans (Dw8.out.mono (by omega)))
  have g0 := (Dw8.out.cell (p := ⟨w3.heap.size, 0, none⟩) (by simp only []; omega)).trans g0
  have g1 := (Dw8.out.cell (p := ⟨w3.heap.size, 1, none⟩) (by simp only []; omega)).trans g1
  have g2 := (Dw8.out.cell (p := ⟨w3.heap.size, 2, none⟩) (by simp only []; omega)).trans g2
  clear hbel
  have M1 := Lib.hid ((M1.out.below Dw8.out).more (by omega))
  have M2 := Lib.hid ((M2.out.below Dw8.out).more (by omega))
  have zb0 := cell_kept ((HBS.out.cell (p := ⟨w1.heap.size, 0, none⟩) (by simp only []; omega)).trans B0.out)
  have zb1 := cell_kept ((HBS.out.cell (p := ⟨w1.heap.size, 1, none⟩) (by simp only []; omega)).trans B1.out)
  have zb2 := cell_kept ((HBS.out.cell (p := ⟨w1.heap.size, 2, none⟩) (by simp only []; omega)).trans B2.out)
  go_wp2_with fail
  go_at_call 22
  generalize hww : World.alloc w8 _ = w9
  obtain ⟨_, _, _, hs16, hb16⟩ := box3 hww
  clear hww zb0 zb1 zb2
  have HH := Lib.hid (hres.below hb16)
  have Dw9 := Lib.hid (show Below w8.heap.size w8 w9 from hb16)
  have hsw9 : w8.heap.size ≤ w9.heap.size := Dw9.out.size
  have HBw9 := Lib.hid (HBw8.out.trans (Dw9.out.mono (by omega)))
  have HBS := Lib.hid (HBS.out.trans (Dw9.out.mono (by omega)))
  have g0 := (Dw9.out.cell (p := ⟨w3.heap.size, 0, none⟩) (by simp only []; omega)).trans g0
  have g1 := (Dw9.out.cell (p := ⟨w3.heap.size, 1, none⟩) (by simp only []; omega)).trans g1
  have g2 := (Dw9.out.cell (p := ⟨w3.heap.size, 2, none⟩) (by simp only []; omega)).trans g2
  clear hres hb16
  have M1 := Lib.hid ((M1.out.below Dw9.out).more (by omega))
  have M2 := Lib.hid ((M2.out.below Dw9.out).more (by omega))
  have hE := eqPlan_any w9.heap.size w9.heap.size E1 E2 R1 R2 h1' h2' v1 v2 r r w9 (by omega) (by omega) (by omega) (by omega) (Nat.le_refl _) (Nat.le_refl _) HH.out.rd (RES.out.below HBS.out).rd
  rw [show eqP r r = true by simp [eqP]] at hE
  refine hE.mono ?_
  rintro e w10 ⟨rfl, hbe⟩
  clear hE
  have Dw10 := Lib.hid (show Below w9.heap.size w9 w10 from hbe)
  have hsw10 : w9.heap.size ≤ w10.heap.size := Dw10.out.size
  have HBw10 := Lib.hid (HBw9.out.trans (Dw10.out.mono (by omega)))
  have HBS := Lib.hid (HBS.out.trans (Dw10.out.mono (by omega)))
  have g0 := (Dw10.out.cell (p := ⟨w3.heap.size, 0, none⟩) (by simp only []; omega)).trans g0
  have g1 := (Dw10.out.cell (p := ⟨w3.heap.size, 1, none⟩) (by simp only []; omega)).trans g1
  have g2 := (Dw10.out.cell (p := ⟨w3.heap.size, 2, none⟩) (by simp only []; omega)).trans g2
  clear hbe
  have M1 := Lib.hid ((M1.out.below Dw10.out).more (by omega))
  have M2 := Lib.hid ((M2.out.below Dw10.out).more (by omega))
  go_wp2_with fail
  go_at_call 24
  refine (heldPlan_any w10.heap.size G1 G2 u1 u2 r.s.length r.o.length r.n 1 w10 (by omega) (by omega) (by omega) (by omega) (Nat.le_refl _) M1.out M2.out).mono ?_
  rintro e w11 ⟨rfl, hbh⟩
  have Dw11 := Lib.hid (show Below w10.heap.size w10 w11 from hbh)
  have hsw11 : w10.heap.size ≤ w11.heap.size := Dw11.out.size
  have HBw11 := Lib.hid (HBw10.out.trans (Dw11.out.mono (by omega)))
  have HBS := Lib.hid (HBS.out.trans (Dw11.out.mono (by omega)))
  have g0 := (Dw11.out.cell (p := ⟨w3.heap.size, 0, none⟩) (by simp only []; omega)).trans g0
  have g1 := (Dw11.out.cell (p := ⟨w3.heap.size, 1, none⟩) (by simp only []; omega)).trans g1
  have g2 := (Dw11.out.cell (p := ⟨w3.heap.size, 2, none⟩) (by simp only []; omega)).trans g2
  clear hbh
  have M1 := Lib.hid ((M1.out.below Dw11.out).more (by omega))
  have M2 := Lib.hid ((M2.out.below Dw11.out).more (by omega))
  go_wp2
  go_ret
  exact ⟨rfl, HBw11.out⟩

set_option maxRecDepth 100000 in
theorem factorPlan_lifted (os : Os) (started : os.Started) (H : Type) (enc : TypeId × Value → H) :
    ReturnsInHanded {} Try.checked os 10 .any (Rows.fnExactFactorPlanSpec.pre6 enc Try.prog Try.f10 Rows.fnExactFactorPlanRow.domain false) (Rows.fnExactFactorPlanSpec.post enc Try.prog Try.f10 false true false false) := by
  refine returnsInHanded_of_change (C := Try.checked) own started (by kernel_rfl) Try.func10
    (ChangeSpec.witness6 (enc := enc) (C := Try.checked) false ⟨#[], #[.int .i64 0], []⟩ 8 (by kernel_rfl) (by kernel_rfl) (by kernel_rfl) (by kernel_rfl)) ?_
  intro W base args ds gs before hval0 hW _ _
  have hval : ∀ (j : Nat) t v, Try.f10.params[j]? = some t → args[j]? = some v → Value.okWide Try.prog W .any base t v := hval0
  have hW' := hW
  obtain ⟨p, q, hA0, hV, rfl, hfz, hnd⟩ := hW
  have hA : DataW.TrodAll enc Try.prog W 0 (fun _ => true) true Try.f10.params.toList args.toList ds p := hA0
  rw [Try.params10] at hA hval
  obtain ⟨v0, d0, rfl, rfl, h0⟩ := trodAll_one hA
  obtain ⟨rfl, rfl⟩ := trodVars_none hV
  have h0k := h0
  obtain ⟨x, hx0, _, _, _⟩ := open_int Try.underlying3 (hval 0 3 v0 rfl rfl) h0
  subst hx0
  clear hA0 hval0
  simp only [List.append_nil] at hW'
  refine (lawFactorPlan x W  ).mono fun e W' ⟨he, hb⟩ => ?_
  subst he
  have hlt : ∀ x ∈ p, x.block < W.heap.size := fun x hx => by simpa using hW'.lt x hx
  refine ⟨_, rfl, _, _, _, [], p, [], hW', trodAll_mk1 (shut_bool Try.underlying4 _), ?_, rfl, hb.frame _, fun h => by cases h⟩
  exact trodAll_mk1 (Below.trod laidOut (by kernel_rfl) (of_decide_eq_true (by kernel_rfl)) h0k hb hlt)

theorem factorPlan_holds : Rows.FnExactFactorPlanSaid :=
  OpenClaim.holds_of_wide 10 Try.f10 rfl rfl rfl rfl rfl rfl rfl ⟨rfl, rfl, rfl, rfl, rfl⟩ rfl rfl rfl rfl rfl (by kernel_rfl) Try.func10 (by kernel_rfl)
    (of_decide_eq_true (by kernel_rfl)) (by unfold Func.isWrapper; rw [if_neg (of_decide_eq_false (by kernel_rfl))]; exact ⟨rfl, rfl⟩)
    (fun os started H enc _ => factorPlan_lifted os started H enc)
end Go.Proofs.Ytodjnafalbbmjaa
