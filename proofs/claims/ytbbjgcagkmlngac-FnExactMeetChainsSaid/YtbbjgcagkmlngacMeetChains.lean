/- The law FnExactMeetChains holds: for every argument, valid or not, MeetChains of the program answers as MeetChains of the model, writes into no argument, and its answer owns its memory. No condition. -/
import Derived.Test.YtbbjgcagkmlngacQl
import Derived.Test.YtbbjgcagkmlngacQp
namespace Go.Proofs.Ytbbjgcagkmlngac
open Go.ChangeShapes Go.WideShapes Go.ChangeAt Go.RowKit Go.Deep Go.Joins

set_option maxRecDepth 100000 in
set_option maxHeartbeats 4000000 in
theorem lawMeetChains (A0 : Option Addr) (c0 : Nat) (l : List Int) (A1 : Option Addr) (c1 : Nat) (m : List Int) (w : World) (hn0 : l.length ≤ 9223372036854775807) (hn1 : m.length ≤ 9223372036854775807) (hr0 : Rd w w.heap.size 1 A0 l.length (l.map I)) (hr1 : Rd w w.heap.size 1 A1 m.length (m.map I)) :
    Calls Try.prog 11 #[.slice A0 l.length c0, .slice A1 m.length c1] w fun e w' => e = .returned (.bool true) ∧ Below w.heap.size w w' := by
  have H0 := Lib.hid hr0
  clear hr0
  have H1 := Lib.hid hr1
  clear hr1
  by_cases hbig0 : 1048576 < l.length
  · have ibig : (1048576 : Int) < (l.length : Int) := by omega
    go_enter Try.func11, Try.ntmps11
    go_wp2
    go_ret
    exact ⟨rfl, Below.refl _ _⟩
  have hl0 : l.length ≤ 1048576 := by omega
  have il0 : ¬ (1048576 : Int) < (l.length : Int) := by omega
  by_cases hbig1 : 1048576 < m.length
  · have ibig : (1048576 : Int) < (m.length : Int) := by omega
    go_enter Try.func11, Try.ntmps11
    go_wp2
    go_ret
    exact ⟨rfl, Below.refl _ _⟩
  have hl1 : m.length ≤ 1048576 := by omega
  have il1 : ¬ (1048576 : Int) < (m.length : Int) := by omega
  obtain ⟨U, hU⟩ : ∃ U, selL (meG l m) (met l m) = U := ⟨_, rfl⟩
  have hUl : U.length ≤ 1000 := by rw [← hU]; exact selL_le and_chG
  obtain ⟨gd, hgd⟩ : ∃ gx, meG l m = gx := ⟨_, rfl⟩
  have hspec := fun W A0' c0' A1' c1' => specMeet_any (World.heap W).size A0' c0' l A1' c1' m W (Nat.le_refl _) hl0 hl1
  have himpl := fun W A0' c0' A1' c1' => implMeet_any (World.heap W).size A0' c0' l A1' c1' m W (Nat.le_refl _) hl0 hl1
  rw [hU, hgd] at hspec himpl
  have HSPEC := Lib.hid hspec
  have HIMPL := Lib.hid himpl
  clear hU hgd hspec himpl
  go_enter Try.func11, Try.ntmps11
  go_wp2_with fail
  go_at_call 16
  refine (toIntS_any w.heap.size A0 c0 l w hl0 (by omega) H0.out).mono ?_
  rintro e w1 ⟨sA0, sc0, rfl, hown, hbel⟩
  have hsw1 : w.heap.size ≤ w1.heap.size := hbel.size
  have Dw1 := Lib.hid hbel
  have HBw1 := Lib.hid hbel
  have Os0 := Lib.hid hown
  clear hown hbel
  have Ps0 := Lib.hid Os0.out
  go_wp2_with fail
  go_at_call 16
  refine (toIntS_any w.heap.size A1 c1 m w1 hl1 (by omega) (H1.out.below HBw1.out)).mono ?_
  rintro e w2 ⟨sA1, sc1, rfl, hown, hbel⟩
  have hsw2 : w1.heap.size ≤ w2.heap.size := hbel.size
  have Dw2 := Lib.hid hbel
  have HBw2 := Lib.hid (HBw1.out.trans (Dw2.out.mono (by omega)))
  have Os1 := Lib.hid hown
  clear hown hbel
  have Os0 := Lib.hid (Os0.out.below Dw2.out)
  go_wp2_with fail
  go_at_call 41
  refine (HSPEC.out w2 sA0 sc0 sA1 sc1 Os0.out.cap Os1.out.cap Os0.out.rd Os1.out.rd).mono ?_
  rintro e w3 ⟨A0', c0', rfl, hres, hbel⟩
  have hsw3 : w2.heap.size ≤ w3.heap.size := hbel.size
  have Dw3 := Lib.hid hbel
  have HBw3 := Lib.hid (HBw2.out.trans (Dw3.out.mono (by omega)))
  have RES := Lib.hid hres
  clear hres
  clear hbel
  go_wp2_with fail
  go_at_call 16
  refine (toIntS_any w.heap.size A0 c0 l w3 hl0 (by omega) (H0.out.below HBw3.out)).mono ?_
  rintro e w4 ⟨xA0, xc0, rfl, hown, hbel⟩
  have hsw4 : w3.heap.size ≤ w4.heap.size := hbel.size
  have Dw4 := Lib.hid hbel
  have HBw4 := Lib.hid (HBw3.out.trans (Dw4.out.mono (by omega)))
  have Ox0 := Lib.hid hown
  clear hown hbel
  have Px0 := Lib.hid Ox0.out
  go_wp2_with fail
  go_at_call 16
  refine (toIntS_any w.heap.size A1 c1 m w4 hl1 (by omega) (H1.out.below HBw4.out)).mono ?_
  rintro e w5 ⟨xA1, xc1, rfl, hown, hbel⟩
  have hsw5 : w4.heap.size ≤ w5.heap.size := hbel.size
  have Dw5 := Lib.hid hbel
  have HBw5 := Lib.hid (HBw4.out.trans (Dw5.out.mono (by omega)))
  have Ox1 := Lib.hid hown
  clear hown hbel
  have Ox0 := Lib.hid (Ox0.out.below Dw5.out)
  go_wp2_with fail
  go_at_call 42
  refine (HIMPL.out w5 xA0 xc0 xA1 xc1 Ox0.out.cap Ox1.out.cap Ox0.out.rd Ox1.out.rd).mono ?_
  rintro e w6 ⟨AG, cg, rfl, hres, hbel⟩
  have hsw6 : w5.heap.size ≤ w6.heap.size := hbel.size
  have Dw6 := Lib.hid hbel
  have HBw6 := Lib.hid (HBw5.out.trans (Dw6.out.mono (by omega)))
  have OX0 := Lib.hid (Ox0.out.below Dw6.out)
  have OX1 := Lib.hid (Ox1.out.below Dw6.out)
  have HG := Lib.hid hres
  clear hres
  clear hbel
  have HBS := Lib.hid (show Below w3.heap.size w3 w6 from ((Dw4.out).trans (Dw5.out.mono (by omega))).trans (Dw6.out.mono (by omega)))
  go_wp2_with fail
  go_at_call 18
  have hE := eqIntS_any w6.heap.size w6.heap.size AG A0' cg c0' U U w6 (by omega) (by omega) HG.out.rd (RES.out.below HBS.out).rd
  rw [eqI_refl] at hE
  refine hE.mono ?_
  rintro e w7 ⟨rfl, ⟨nd0, rfl⟩⟩
  clear hE
  have hbd := bDrewN (Below.refl w6.heap.size w6) nd0
  generalize hww : w6.drewN nd0 = w8 at hbd ⊢
  clear hww
  have hsw8 : w6.heap.size ≤ w8.heap.size := by have := hbd.size; omega
  have Dw8 := Lib.hid hbd
  have HBw8 := Lib.hid (HBw6.out.trans (Dw8.out.mono (by omega)))
  clear hbd
  have HBS := Lib.hid (HBS.out.trans (Dw8.out.mono (by omega)))
  have OX0 := Lib.hid (OX0.out.below Dw8.out)
  have OX1 := Lib.hid (OX1.out.below Dw8.out)
  have HG := Lib.hid (HG.out.below Dw8.out)
  go_wp2_with fail
  go_at_call 16
  refine (toIntS_any w.heap.size A0 c0 l w8 hl0 (by omega) (H0.out.below HBw8.out)).mono ?_
  rintro e w9 ⟨yA0, yc0, rfl, hown, hbel⟩
  have hsw9 : w8.heap.size ≤ w9.heap.size := hbel.size
  have Dw9 := Lib.hid hbel
  have HBw9 := Lib.hid (HBw8.out.trans (Dw9.out.mono (by omega)))
  have HBS := Lib.hid (HBS.out.trans (Dw9.out.mono (by omega)))
  have OY := Lib.hid hown
  clear hown hbel
  have OX0 := Lib.hid (OX0.out.below Dw9.out)
  have OX1 := Lib.hid (OX1.out.below Dw9.out)
  have HG := Lib.hid (HG.out.below Dw9.out)
  go_wp2_with fail
  go_at_call 18
  have hE := eqIntS_any w9.heap.size w9.heap.size xA0 yA0 xc0 yc0 l l w9 (by omega) (by omega) OX0.out.rd OY.out.rd
  rw [eqI_refl] at hE
  refine hE.mono ?_
  rintro e w10 ⟨rfl, ⟨ny0, rfl⟩⟩
  clear hE OY
  have hbd := bDrewN (Below.refl w9.heap.size w9) ny0
  generalize hww : w9.drewN ny0 = w11 at hbd ⊢
  clear hww
  have hsw11 : w9.heap.size ≤ w11.heap.size := by have := hbd.size; omega
  have Dw11 := Lib.hid hbd
  have HBw11 := Lib.hid (HBw9.out.trans (Dw11.out.mono (by omega)))
  clear hbd
  have HBS := Lib.hid (HBS.out.trans (Dw11.out.mono (by omega)))
  have OX0 := Lib.hid (OX0.out.below Dw11.out)
  have OX1 := Lib.hid (OX1.out.below Dw11.out)
  have HG := Lib.hid (HG.out.below Dw11.out)
  go_wp2_with fail
  go_at_call 16
  refine (toIntS_any w.heap.size A1 c1 m w11 hl1 (by omega) (H1.out.below HBw11.out)).mono ?_
  rintro e w12 ⟨yA1, yc1, rfl, hown, hbel⟩
  have hsw12 : w11.heap.size ≤ w12.heap.size := hbel.size
  have Dw12 := Lib.hid hbel
  have HBw12 := Lib.hid (HBw11.out.trans (Dw12.out.mono (by omega)))
  have HBS := Lib.hid (HBS.out.trans (Dw12.out.mono (by omega)))
  have OY := Lib.hid hown
  clear hown hbel
  have OX0 := Lib.hid (OX0.out.below Dw12.out)
  have OX1 := Lib.hid (OX1.out.below Dw12.out)
  have HG := Lib.hid (HG.out.below Dw12.out)
  go_wp2_with fail
  go_at_call 18
  have hE := eqIntS_any w12.heap.size w12.heap.size xA1 yA1 xc1 yc1 m m w12 (by omega) (by omega) OX1.out.rd OY.out.rd
  rw [eqI_refl] at hE
  refine hE.mono ?_
  rintro e w13 ⟨rfl, ⟨ny1, rfl⟩⟩
  clear hE OY
  have hbd := bDrewN (Below.refl w12.heap.size w12) ny1
  generalize hww : w12.drewN ny1 = w14 at hbd ⊢
  clear hww
  have hsw14 : w12.heap.size ≤ w14.heap.size := by have := hbd.size; omega
  have Dw14 := Lib.hid hbd
  have HBw14 := Lib.hid (HBw12.out.trans (Dw14.out.mono (by omega)))
  clear hbd
  have HBS := Lib.hid (HBS.out.trans (Dw14.out.mono (by omega)))
  have OX0 := Lib.hid (OX0.out.below Dw14.out)
  have OX1 := Lib.hid (OX1.out.below Dw14.out)
  have HG := Lib.hid (HG.out.below Dw14.out)
  go_wp2_with fail
  go_at_call 22
  refine (markIntS_any w3.heap.size xA0 xc0 l (1) w14 (by omega) (by omega) (by omega) (own_base OX0.out (by omega))).mono ?_
  rintro e w15 ⟨rfl, _, hg⟩
  have hwn : Win w3.heap.size w5.heap.size w14 w15 := Win.of_grown hg (by omega) (fun k hk => ⟨Nat.le_trans (by omega) (own_block Ox0.out k hk).1, Nat.lt_of_lt_of_le (own_block Ox0.out k hk).2 (by omega)⟩)
  have hsw15 : w14.heap.size ≤ w15.heap.size := hwn.1.size
  have HBw15 := Lib.hid (HBw14.out.trans (hwn.1.mono (by omega)))
  have HBS := Lib.hid (HBS.out.trans hwn.1)
  have HG := Lib.hid (show OwI w15 w5.heap.size (.slice AG U.length cg) U from hwn.own HG.out (Nat.le_refl _))
  have OX1 := Lib.hid (World.ownsRow.kept OX1.out hg (own_apart Px0.out Ox1.out (Nat.le_refl _)))
  clear hg hwn
  go_wp2_with fail
  go_at_call 22
  refine (markIntS_any w3.heap.size xA1 xc1 m (1 + (l.length : Int)) w15 (by omega) (by omega) (by omega) (own_base OX1.out (by omega))).mono ?_
  rintro e w16 ⟨rfl, _, hg⟩
  have hwn : Win w3.heap.size w5.heap.size w15 w16 := Win.of_grown hg (by omega) (fun k hk => ⟨Nat.le_trans (by omega) (own_block Ox1.out k hk).1, Nat.lt_of_lt_of_le (own_block Ox1.out k hk).2 (by omega)⟩)
  have hsw16 : w15.heap.size ≤ w16.heap.size := hwn.1.size
  have HBw16 := Lib.hid (HBw15.out.trans (hwn.1.mono (by omega)))
  have HBS := Lib.hid (HBS.out.trans hwn.1)
  have HG := Lib.hid (show OwI w16 w5.heap.size (.slice AG U.length cg) U from hwn.own HG.out (Nat.le_refl _))
  clear hg hwn
  have hk0 : ¬ (1 + (l.length : Int) + (m.length : Int) < 0) := by omega
  go_wp2_with fail
  go_at_call 18
  have hE := eqIntS_any w16.heap.size w16.heap.size AG A0' cg c0' U U w16 (by omega) (by omega) (Rd.of_own HG.out) (RES.out.below HBS.out).rd
  rw [eqI_refl] at hE
  refine hE.mono ?_
  rintro e w17 ⟨rfl, ⟨nd1, rfl⟩⟩
  clear hE
  have hbd := bDrewN (Below.refl w16.heap.size w16) nd1
  generalize hww : w16.drewN nd1 = w18 at hbd ⊢
  clear hww
  have hsw18 : w16.heap.size ≤ w18.heap.size := by have := hbd.size; omega
  have Dw18 := Lib.hid hbd
  have HBw18 := Lib.hid (HBw16.out.trans (Dw18.out.mono (by omega)))
  clear hbd
  have HBS := Lib.hid (HBS.out.trans (Dw18.out.mono (by omega)))
  have HG := Lib.hid (HG.out.below Dw18.out)
  go_wp2_with fail
  go_at_call 22
  refine (markIntS_any w5.heap.size AG cg U 1 w18 (by omega) (by omega) (by omega) HG.out).mono ?_
  rintro e w19 ⟨rfl, hm, hg⟩
  have hbd : Below w5.heap.size w18 w19 := Below.grown (Below.refl _ _) hg (by omega) (fun k hk => (own_block HG.out k hk).1)
  have hsw19 : w18.heap.size ≤ w19.heap.size := hbd.size
  have HM := Lib.hid (own_rd_marks hm)
  have HBw19 := Lib.hid (HBw18.out.trans (hbd.mono (by omega)))
  have HBS := Lib.hid (HBS.out.trans (hbd.mono (by omega)))
  have hk1 : ¬ (1 + (U.length : Int) < 0) := by omega
  clear hm hg hbd
  go_wp2_with fail
  go_at_call 29
  refine (heldIntS_any w19.heap.size AG cg U.length 1 w19 (by omega) (by omega) (by omega) HM.out).mono ?_
  rintro e w900 ⟨rfl, rfl⟩
  go_wp2_with fail
  go_at_call 16
  refine (toIntS_any w.heap.size A0 c0 l w19 hl0 (by omega) (H0.out.below HBw19.out)).mono ?_
  rintro e w20 ⟨zA0, zc0, rfl, hown, hbel⟩
  have hsw20 : w19.heap.size ≤ w20.heap.size := hbel.size
  have Dw20 := Lib.hid hbel
  have HBw20 := Lib.hid (HBw19.out.trans (Dw20.out.mono (by omega)))
  have Oz0 := Lib.hid hown
  clear hown hbel
  have Pz0 := Lib.hid Oz0.out
  go_wp2_with fail
  go_at_call 16
  refine (toIntS_any w.heap.size A1 c1 m w20 hl1 (by omega) (H1.out.below HBw20.out)).mono ?_
  rintro e w21 ⟨zA1, zc1, rfl, hown, hbel⟩
  have hsw21 : w20.heap.size ≤ w21.heap.size := hbel.size
  have Dw21 := Lib.hid hbel
  have HBw21 := Lib.hid (HBw20.out.trans (Dw21.out.mono (by omega)))
  have Oz1 := Lib.hid hown
  clear hown hbel
  have Oz0 := Lib.hid (Oz0.out.below Dw21.out)
  go_wp2_with fail
  go_at_call 42
  refine (HIMPL.out w21 zA0 zc0 zA1 zc1 Oz0.out.cap Oz1.out.cap Oz0.out.rd Oz1.out.rd).mono ?_
  rintro e w22 ⟨AH, ch, rfl, hres, hbel⟩
  have hsw22 : w21.heap.size ≤ w22.heap.size := hbel.size
  have Dw22 := Lib.hid hbel
  have HBw22 := Lib.hid (HBw21.out.trans (Dw22.out.mono (by omega)))
  have HBM := Lib.hid (show Below w19.heap.size w19 w22 from ((Dw20.out).trans (Dw21.out.mono (by omega))).trans (Dw22.out.mono (by omega)))
  have HBS := Lib.hid (HBS.out.trans (HBM.out.mono (by omega)))
  have HH := Lib.hid hres
  clear hres hbel
  go_wp2_with fail
  go_at_call 18
  have hE := eqIntS_any w22.heap.size w22.heap.size AH A0' ch c0' U U w22 (by omega) (by omega) HH.out.rd (RES.out.below HBS.out).rd
  rw [eqI_refl] at hE
  refine hE.mono ?_
  rintro e w23 ⟨rfl, ⟨nd2, rfl⟩⟩
  clear hE
  have hbd := bDrewN (Below.refl w22.heap.size w22) nd2
  generalize hww : w22.drewN nd2 = w24 at hbd ⊢
  clear hww
  have hsw24 : w22.heap.size ≤ w24.heap.size := by have := hbd.size; omega
  have Dw24 := Lib.hid hbd
  have HBw24 := Lib.hid (HBw22.out.trans (Dw24.out.mono (by omega)))
  clear hbd
  have HBS := Lib.hid (HBS.out.trans (Dw24.out.mono (by omega)))
  have HBM := Lib.hid (HBM.out.trans (Dw24.out.mono (by omega)))
  go_wp2_with fail
  go_at_call 29
  refine (heldIntS_any w19.heap.size AG cg U.length 1 w24 (by omega) (by omega) (by omega) (HM.out.below HBM.out)).mono ?_
  rintro e w901 ⟨rfl, rfl⟩
  go_wp2
  go_ret
  exact ⟨rfl, HBw24.out⟩

set_option maxRecDepth 100000 in
theorem meetChains_lifted (os : Os) (started : os.Started) (H : Type) (enc : TypeId × Value → H) :
    ReturnsInHanded {} Try.checked os 11 .any (Rows.fnExactMeetChainsSpec.pre6 enc Try.prog Try.f11 Rows.fnExactMeetChainsRow.domain false) (Rows.fnExactMeetChainsSpec.post enc Try.prog Try.f11 false true false false) := by
  refine returnsInHanded_of_change (C := Try.checked) own started (by kernel_rfl) Try.func11
    (ChangeSpec.witness6 (enc := enc) (C := Try.checked) false ⟨#[], #[.slice none 0 0, .slice none 0 0], []⟩ 8 (by kernel_rfl) (by kernel_rfl) (by kernel_rfl) (by kernel_rfl)) ?_
  intro W base args ds gs before hval0 hW _ _
  have hval : ∀ (j : Nat) t v, Try.f11.params[j]? = some t → args[j]? = some v → Value.okWide Try.prog W .any base t v := hval0
  have hW' := hW
  obtain ⟨p, q, hA0, hV, rfl, hfz, hnd⟩ := hW
  have hA : DataW.TrodAll enc Try.prog W 0 (fun _ => true) true Try.f11.params.toList args.toList ds p := hA0
  rw [Try.params11] at hA hval
  obtain ⟨v0, v1, d0, d1, p0, p1, rfl, rfl, rfl, h0, h1⟩ := trodAll_two hA
  obtain ⟨rfl, rfl⟩ := trodVars_none hV
  have h0k := h0
  have h1k := h1
  obtain ⟨A0, c0, l, hx0, ln0, hrd0⟩ := open_list (hval 0 22 v0 rfl rfl) h0
  obtain ⟨A1, c1, m, hx1, ln1, hrd1⟩ := open_list (hval 1 22 v1 rfl rfl) h1
  subst hx0
  subst hx1
  clear hA0 hval0
  simp only [List.append_nil] at hW'
  refine (lawMeetChains A0 c0 l A1 c1 m W ln0 ln1 hrd0 hrd1).mono fun e W' ⟨he, hb⟩ => ?_
  subst he
  have hlt : ∀ x ∈ p0 ++ p1, x.block < W.heap.size := fun x hx => by simpa using hW'.lt x hx
  refine ⟨_, rfl, _, _, _, [], p0 ++ p1, [], hW', trodAll_mk1 (shut_bool Try.underlying4 _), ?_, rfl, hb.frame _, fun h => by cases h⟩
  exact trodAll_mk2 (Below.trod laidOut (by kernel_rfl) (of_decide_eq_true (by kernel_rfl)) h0k hb fun x hx => hlt x (List.mem_append_left _ hx)) (Below.trod laidOut (by kernel_rfl) (of_decide_eq_true (by kernel_rfl)) h1k hb fun x hx => hlt x (List.mem_append_right _ hx))

theorem meetChains_holds : Rows.FnExactMeetChainsSaid :=
  OpenClaim.holds_of_wide 11 Try.f11 rfl rfl rfl rfl rfl rfl rfl ⟨rfl, rfl, rfl, rfl, rfl⟩ rfl rfl rfl rfl rfl (by kernel_rfl) Try.func11 (by kernel_rfl)
    (of_decide_eq_true (by kernel_rfl)) (by unfold Func.isWrapper; rw [if_neg (of_decide_eq_false (by kernel_rfl))]; exact ⟨rfl, rfl⟩)
    (fun os started H enc _ => meetChains_lifted os started H enc)
end Go.Proofs.Ytbbjgcagkmlngac
