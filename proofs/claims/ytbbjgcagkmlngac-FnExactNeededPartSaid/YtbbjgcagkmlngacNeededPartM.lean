/- The law FnExactNeededPart holds: for every argument, valid or not, NeededPart of the program answers as NeededPart of the model, writes into no argument, and its answer owns its memory. No condition. -/
import Derived.Test.YtbbjgcagkmlngacPN0
import Derived.Test.YtbbjgcagkmlngacPN2
namespace Go.Proofs.Ytbbjgcagkmlngac
open Go.ChangeShapes Go.WideShapes Go.ChangeAt Go.RowKit Go.Deep Go.Joins

set_option maxRecDepth 100000 in
set_option maxHeartbeats 4000000 in
theorem lawNeededPart (A0 : Option Addr) (c0 : Nat) (l : List Int) (w : World) (hn0 : l.length ≤ 9223372036854775807) (hr0 : Rd w w.heap.size 1 A0 l.length (l.map I)) :
    Calls Try.prog 13 #[.slice A0 l.length c0] w fun e w' => e = .returned (.bool true) ∧ Below w.heap.size w w' := by
  have H0 := Lib.hid hr0
  clear hr0
  by_cases hbig0 : 1048576 < l.length
  · have ibig : (1048576 : Int) < (l.length : Int) := by omega
    go_enter Try.func13, Try.ntmps13
    go_wp2
    go_ret
    exact ⟨rfl, Below.refl _ _⟩
  have hl0 : l.length ≤ 1048576 := by omega
  have il0 : ¬ (1048576 : Int) < (l.length : Int) := by omega
  obtain ⟨U, hU⟩ : ∃ U, ndL l = U := ⟨_, rfl⟩
  have hUl : U.length ≤ 1000 := by rw [← hU]; exact ndL_le l
  obtain ⟨gd, hgd⟩ : ∃ gx, chG l = gx := ⟨_, rfl⟩
  have hspec := fun W A0' c0' => specNeed_any (World.heap W).size A0' c0' l W (Nat.le_refl _) hl0
  have himpl := fun W A0' c0' => implNeed_any (World.heap W).size A0' c0' l W (Nat.le_refl _) hl0
  rw [hU, hgd] at hspec himpl
  have HSPEC := Lib.hid hspec
  have HIMPL := Lib.hid himpl
  clear hU hgd hspec himpl
  go_enter Try.func13, Try.ntmps13
  go_wp2_with fail
  go_at_call 16
  refine (toIntS_any w.heap.size A0 c0 l w hl0 (by omega) H0.out).mono ?_
  rintro e w1 ⟨sA0, sc0, rfl, hown, hbel⟩
  have hsw1 : w.heap.size ≤ w1.heap.size := hbel.size
  have Dw1 := Lib.hid hbel
  have HBw1 := Lib.hid hbel
  have Os0 := Lib.hid hown
  clear hown hbel
  go_wp2_with fail
  go_at_call 45
  refine (HSPEC.out w1 sA0 sc0 Os0.out.cap Os0.out.rd).mono ?_
  rintro e w2 ⟨A0', c0', rfl, hres, hbel⟩
  have hsw2 : w1.heap.size ≤ w2.heap.size := hbel.size
  have Dw2 := Lib.hid hbel
  have HBw2 := Lib.hid (HBw1.out.trans (Dw2.out.mono (by omega)))
  have RES := Lib.hid hres
  clear hres
  clear hbel
  go_wp2_with fail
  go_at_call 16
  refine (toIntS_any w.heap.size A0 c0 l w2 hl0 (by omega) (H0.out.below HBw2.out)).mono ?_
  rintro e w3 ⟨xA0, xc0, rfl, hown, hbel⟩
  have hsw3 : w2.heap.size ≤ w3.heap.size := hbel.size
  have Dw3 := Lib.hid hbel
  have HBw3 := Lib.hid (HBw2.out.trans (Dw3.out.mono (by omega)))
  have Ox0 := Lib.hid hown
  clear hown hbel
  go_wp2_with fail
  go_at_call 46
  refine (HIMPL.out w3 xA0 xc0 Ox0.out.cap Ox0.out.rd).mono ?_
  rintro e w4 ⟨AG, cg, rfl, hres, hbel⟩
  have hsw4 : w3.heap.size ≤ w4.heap.size := hbel.size
  have Dw4 := Lib.hid hbel
  have HBw4 := Lib.hid (HBw3.out.trans (Dw4.out.mono (by omega)))
  have OX0 := Lib.hid (Ox0.out.below Dw4.out)
  have HG := Lib.hid hres
  clear hres
  clear hbel
  have HBS := Lib.hid (show Below w2.heap.size w2 w4 from (Dw3.out).trans (Dw4.out.mono (by omega)))
  go_wp2_with fail
  go_at_call 18
  have hE := eqIntS_any w4.heap.size w4.heap.size AG A0' cg c0' U U w4 (by omega) (by omega) HG.out.rd (RES.out.below HBS.out).rd
  rw [eqI_refl] at hE
  refine hE.mono ?_
  rintro e w5 ⟨rfl, ⟨nd0, rfl⟩⟩
  clear hE
  have hbd := bDrewN (Below.refl w4.heap.size w4) nd0
  generalize hww : w4.drewN nd0 = w6 at hbd ⊢
  clear hww
  have hsw6 : w4.heap.size ≤ w6.heap.size := by have := hbd.size; omega
  have Dw6 := Lib.hid hbd
  have HBw6 := Lib.hid (HBw4.out.trans (Dw6.out.mono (by omega)))
  clear hbd
  have HBS := Lib.hid (HBS.out.trans (Dw6.out.mono (by omega)))
  have OX0 := Lib.hid (OX0.out.below Dw6.out)
  have HG := Lib.hid (HG.out.below Dw6.out)
  go_wp2_with fail
  go_at_call 16
  refine (toIntS_any w.heap.size A0 c0 l w6 hl0 (by omega) (H0.out.below HBw6.out)).mono ?_
  rintro e w7 ⟨yA0, yc0, rfl, hown, hbel⟩
  have hsw7 : w6.heap.size ≤ w7.heap.size := hbel.size
  have Dw7 := Lib.hid hbel
  have HBw7 := Lib.hid (HBw6.out.trans (Dw7.out.mono (by omega)))
  have HBS := Lib.hid (HBS.out.trans (Dw7.out.mono (by omega)))
  have OY := Lib.hid hown
  clear hown hbel
  have OX0 := Lib.hid (OX0.out.below Dw7.out)
  have HG := Lib.hid (HG.out.below Dw7.out)
  go_wp2_with fail
  go_at_call 18
  have hE := eqIntS_any w7.heap.size w7.heap.size xA0 yA0 xc0 yc0 l l w7 (by omega) (by omega) OX0.out.rd OY.out.rd
  rw [eqI_refl] at hE
  refine hE.mono ?_
  rintro e w8 ⟨rfl, ⟨ny0, rfl⟩⟩
  clear hE OY
  have hbd := bDrewN (Below.refl w7.heap.size w7) ny0
  generalize hww : w7.drewN ny0 = w9 at hbd ⊢
  clear hww
  have hsw9 : w7.heap.size ≤ w9.heap.size := by have := hbd.size; omega
  have Dw9 := Lib.hid hbd
  have HBw9 := Lib.hid (HBw7.out.trans (Dw9.out.mono (by omega)))
  clear hbd
  have HBS := Lib.hid (HBS.out.trans (Dw9.out.mono (by omega)))
  have OX0 := Lib.hid (OX0.out.below Dw9.out)
  have HG := Lib.hid (HG.out.below Dw9.out)
  go_wp2_with fail
  go_at_call 22
  refine (markIntS_any w2.heap.size xA0 xc0 l (1) w9 (by omega) (by omega) (by omega) (own_base OX0.out (by omega))).mono ?_
  rintro e w10 ⟨rfl, _, hg⟩
  have hwn : Win w2.heap.size w3.heap.size w9 w10 := Win.of_grown hg (by omega) (fun k hk => ⟨Nat.le_trans (by omega) (own_block Ox0.out k hk).1, Nat.lt_of_lt_of_le (own_block Ox0.out k hk).2 (by omega)⟩)
  have hsw10 : w9.heap.size ≤ w10.heap.size := hwn.1.size
  have HBw10 := Lib.hid (HBw9.out.trans (hwn.1.mono (by omega)))
  have HBS := Lib.hid (HBS.out.trans hwn.1)
  have HG := Lib.hid (show OwI w10 w3.heap.size (.slice AG U.length cg) U from hwn.own HG.out (Nat.le_refl _))
  clear hg hwn
  have hk0 : ¬ (1 + (l.length : Int) < 0) := by omega
  go_wp2_with fail
  go_at_call 18
  have hE := eqIntS_any w10.heap.size w10.heap.size AG A0' cg c0' U U w10 (by omega) (by omega) (Rd.of_own HG.out) (RES.out.below HBS.out).rd
  rw [eqI_refl] at hE
  refine hE.mono ?_
  rintro e w11 ⟨rfl, ⟨nd1, rfl⟩⟩
  clear hE
  have hbd := bDrewN (Below.refl w10.heap.size w10) nd1
  generalize hww : w10.drewN nd1 = w12 at hbd ⊢
  clear hww
  have hsw12 : w10.heap.size ≤ w12.heap.size := by have := hbd.size; omega
  have Dw12 := Lib.hid hbd
  have HBw12 := Lib.hid (HBw10.out.trans (Dw12.out.mono (by omega)))
  clear hbd
  have HBS := Lib.hid (HBS.out.trans (Dw12.out.mono (by omega)))
  have HG := Lib.hid (HG.out.below Dw12.out)
  go_wp2_with fail
  go_at_call 22
  refine (markIntS_any w3.heap.size AG cg U 1 w12 (by omega) (by omega) (by omega) HG.out).mono ?_
  rintro e w13 ⟨rfl, hm, hg⟩
  have hbd : Below w3.heap.size w12 w13 := Below.grown (Below.refl _ _) hg (by omega) (fun k hk => (own_block HG.out k hk).1)
  have hsw13 : w12.heap.size ≤ w13.heap.size := hbd.size
  have HM := Lib.hid (own_rd_marks hm)
  have HBw13 := Lib.hid (HBw12.out.trans (hbd.mono (by omega)))
  have HBS := Lib.hid (HBS.out.trans (hbd.mono (by omega)))
  have hk1 : ¬ (1 + (U.length : Int) < 0) := by omega
  clear hm hg hbd
  go_wp2_with fail
  go_at_call 29
  refine (heldIntS_any w13.heap.size AG cg U.length 1 w13 (by omega) (by omega) (by omega) HM.out).mono ?_
  rintro e w900 ⟨rfl, rfl⟩
  go_wp2_with fail
  go_at_call 16
  refine (toIntS_any w.heap.size A0 c0 l w13 hl0 (by omega) (H0.out.below HBw13.out)).mono ?_
  rintro e w14 ⟨zA0, zc0, rfl, hown, hbel⟩
  have hsw14 : w13.heap.size ≤ w14.heap.size := hbel.size
  have Dw14 := Lib.hid hbel
  have HBw14 := Lib.hid (HBw13.out.trans (Dw14.out.mono (by omega)))
  have Oz0 := Lib.hid hown
  clear hown hbel
  go_wp2_with fail
  go_at_call 46
  refine (HIMPL.out w14 zA0 zc0 Oz0.out.cap Oz0.out.rd).mono ?_
  rintro e w15 ⟨AH, ch, rfl, hres, hbel⟩
  have hsw15 : w14.heap.size ≤ w15.heap.size := hbel.size
  have Dw15 := Lib.hid hbel
  have HBw15 := Lib.hid (HBw14.out.trans (Dw15.out.mono (by omega)))
  have HBM := Lib.hid (show Below w13.heap.size w13 w15 from (Dw14.out).trans (Dw15.out.mono (by omega)))
  have HBS := Lib.hid (HBS.out.trans (HBM.out.mono (by omega)))
  have HH := Lib.hid hres
  clear hres hbel
  go_wp2_with fail
  go_at_call 18
  have hE := eqIntS_any w15.heap.size w15.heap.size AH A0' ch c0' U U w15 (by omega) (by omega) HH.out.rd (RES.out.below HBS.out).rd
  rw [eqI_refl] at hE
  refine hE.mono ?_
  rintro e w16 ⟨rfl, ⟨nd2, rfl⟩⟩
  clear hE
  have hbd := bDrewN (Below.refl w15.heap.size w15) nd2
  generalize hww : w15.drewN nd2 = w17 at hbd ⊢
  clear hww
  have hsw17 : w15.heap.size ≤ w17.heap.size := by have := hbd.size; omega
  have Dw17 := Lib.hid hbd
  have HBw17 := Lib.hid (HBw15.out.trans (Dw17.out.mono (by omega)))
  clear hbd
  have HBS := Lib.hid (HBS.out.trans (Dw17.out.mono (by omega)))
  have HBM := Lib.hid (HBM.out.trans (Dw17.out.mono (by omega)))
  go_wp2_with fail
  go_at_call 29
  refine (heldIntS_any w13.heap.size AG cg U.length 1 w17 (by omega) (by omega) (by omega) (HM.out.below HBM.out)).mono ?_
  rintro e w901 ⟨rfl, rfl⟩
  go_wp2
  go_ret
  exact ⟨rfl, HBw17.out⟩

set_option maxRecDepth 100000 in
theorem neededPart_lifted (os : Os) (started : os.Started) (H : Type) (enc : TypeId × Value → H) :
    ReturnsInHanded {} Try.checked os 13 .any (Rows.fnExactNeededPartSpec.pre6 enc Try.prog Try.f13 Rows.fnExactNeededPartRow.domain false) (Rows.fnExactNeededPartSpec.post enc Try.prog Try.f13 false true false false) := by
  refine returnsInHanded_of_change (C := Try.checked) own started (by kernel_rfl) Try.func13
    (ChangeSpec.witness6 (enc := enc) (C := Try.checked) false ⟨#[], #[.slice none 0 0], []⟩ 8 (by kernel_rfl) (by kernel_rfl) (by kernel_rfl) (by kernel_rfl)) ?_
  intro W base args ds gs before hval0 hW _ _
  have hval : ∀ (j : Nat) t v, Try.f13.params[j]? = some t → args[j]? = some v → Value.okWide Try.prog W .any base t v := hval0
  have hW' := hW
  obtain ⟨p, q, hA0, hV, rfl, hfz, hnd⟩ := hW
  have hA : DataW.TrodAll enc Try.prog W 0 (fun _ => true) true Try.f13.params.toList args.toList ds p := hA0
  rw [Try.params13] at hA hval
  obtain ⟨v0, d0, rfl, rfl, h0⟩ := trodAll_one hA
  obtain ⟨rfl, rfl⟩ := trodVars_none hV
  have h0k := h0
  obtain ⟨A0, c0, l, hx0, ln0, hrd0⟩ := open_list (hval 0 22 v0 rfl rfl) h0
  subst hx0
  clear hA0 hval0
  simp only [List.append_nil] at hW'
  refine (lawNeededPart A0 c0 l W ln0 hrd0).mono fun e W' ⟨he, hb⟩ => ?_
  subst he
  have hlt : ∀ x ∈ p, x.block < W.heap.size := fun x hx => by simpa using hW'.lt x hx
  refine ⟨_, rfl, _, _, _, [], p, [], hW', trodAll_mk1 (shut_bool Try.underlying4 _), ?_, rfl, hb.frame _, fun h => by cases h⟩
  exact trodAll_mk1 (Below.trod laidOut (by kernel_rfl) (of_decide_eq_true (by kernel_rfl)) h0k hb hlt)

theorem neededPart_holds : Rows.FnExactNeededPartSaid :=
  OpenClaim.holds_of_wide 13 Try.f13 rfl rfl rfl rfl rfl rfl rfl ⟨rfl, rfl, rfl, rfl, rfl⟩ rfl rfl rfl rfl rfl (by kernel_rfl) Try.func13 (by kernel_rfl)
    (of_decide_eq_true (by kernel_rfl)) (by unfold Func.isWrapper; rw [if_neg (of_decide_eq_false (by kernel_rfl))]; exact ⟨rfl, rfl⟩)
    (fun os started H enc _ => neededPart_lifted os started H enc)
end Go.Proofs.Ytbbjgcagkmlngac
