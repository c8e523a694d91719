/- The law FnExactPermutationPower holds: for every argument, valid or not, PermutationPower of the program answers as PermutationPower of the model, writes into no argument, and its answer owns its memory. No condition. -/
import Derived.Test.YtbbfbccemonihaaGa6
import Derived.Test.YtbbfbccemonihaaOp
import Derived.Test.YtbbfbccemonihaaMot
namespace Go.Proofs.Ytbbfbccemonihaa
open Go.ChangeShapes Go.WideShapes Go.ChangeAt Go.RowKit Go.Deep Go.Joins

set_option maxRecDepth 100000 in
set_option maxHeartbeats 8000000 in
theorem lawPermutationPower (A0 : Option Addr) (c0 : Nat) (l0 : List Int) (x1 : Int) (w : World) (hn0 : l0.length ≤ 9223372036854775807) (hr0 : Rd w w.heap.size 1 A0 l0.length (l0.map I)) :
    Calls Try.prog 11 #[.slice A0 l0.length c0, .int .i64 x1] w fun e w' => e = .returned (.bool true) ∧ Below w.heap.size w w' := by
  have H0 := Lib.hid hr0
  clear hr0
  by_cases hbig0 : 1048576 < l0.length
  · have ibig : (1048576 : Int) < (l0.length : Int) := by omega
    go_enter Try.func11, Try.ntmps11
    go_wp2
    go_ret
    exact ⟨rfl, Below.refl _ _⟩
  have hl0 : l0.length ≤ 1048576 := by omega
  have il0 : ¬ (1048576 : Int) < (l0.length : Int) := by omega
  clear hbig0
  go_enter Try.func11, Try.ntmps11
  obtain ⟨U0, hU0⟩ : ∃ gx, ppV l0 x1 = gx := ⟨_, rfl⟩
  have hUl0 : U0.length ≤ 1000 := by rw [← hU0]; exact pp_len l0 x1
  obtain ⟨U1, hU1⟩ : ∃ gx, ppG l0 x1 = gx := ⟨_, rfl⟩
  have hspec := fun (W : World) A0' c0' => specPP_any (World.heap W).size A0' c0' l0 x1 W (Nat.le_refl _) hl0
  have himpl := fun (W : World) A0' c0' => implPP_any (World.heap W).size A0' c0' l0 x1 W (Nat.le_refl _) hl0
  rw [hU0, hU1] at hspec himpl
  have HSPEC := Lib.hid hspec
  have HIMPL := Lib.hid himpl
  clear hU0 hU1 hspec himpl
  go_wp2_with fail
  go_at_call 18
  refine (toIntS_any w.heap.size A0 c0 l0 w hl0 (by omega) H0.out).mono ?_
  rintro e w1 ⟨sA0, sc0, rfl, hown, hbel⟩
  have Os0' := Lib.hid hown
  clear hown
  have hsw1 : w.heap.size ≤ w1.heap.size := hbel.size
  have HB := Lib.hid hbel
  clear hbel
  have Os0 := Lib.hid (show OwI w1 w.heap.size (.slice sA0 l0.length sc0) l0 from Os0'.out)
  have Us0 := Lib.hid (show ∀ k, (Value.slice sA0 l0.length sc0).ownBlock = some k → k < w1.heap.size from fun k hk => (own_block Os0.out k hk).2)
  clear Os0'
  go_wp2_with fail
  go_at_call 46
  refine (HSPEC.out w1 sA0 sc0 (Os0.out).cap (Os0.out).rd).mono ?_
  rintro e w2 ⟨wA0, wc0, rfl, hown0, hbel⟩
  have Ow0' := Lib.hid hown0
  clear hown0
  have hsw2 : w1.heap.size ≤ w2.heap.size := hbel.size
  have HB := Lib.hid (HB.out.trans (hbel.mono (by omega)))
  have Os0 := Lib.hid (show OwI w2 w.heap.size (.slice sA0 l0.length sc0) l0 from OwI.below Os0.out hbel)
  clear hbel
  have Ow0 := Lib.hid (show OwI w2 w1.heap.size (.slice wA0 U0.length wc0) U0 from Ow0'.out)
  have Uw0 := Lib.hid (show ∀ k, (Value.slice wA0 U0.length wc0).ownBlock = some k → k < w2.heap.size from fun k hk => (own_block Ow0.out k hk).2)
  clear Ow0'
  go_wp2_with fail
  go_at_call 18
  refine (toIntS_any w.heap.size A0 c0 l0 w2 hl0 (by omega) (H0.out.below HB.out)).mono ?_
  rintro e w3 ⟨xA0, xc0, rfl, hown, hbel⟩
  have Ox0' := Lib.hid hown
  clear hown
  have hsw3 : w2.heap.size ≤ w3.heap.size := hbel.size
  have HB := Lib.hid (HB.out.trans (hbel.mono (by omega)))
  have Ow0 := Lib.hid (show OwI w3 w1.heap.size (.slice wA0 U0.length wc0) U0 from OwI.below Ow0.out hbel)
  clear hbel
  have Ox0 := Lib.hid (show OwI w3 w2.heap.size (.slice xA0 l0.length xc0) l0 from Ox0'.out)
  have Ux0 := Lib.hid (show ∀ k, (Value.slice xA0 l0.length xc0).ownBlock = some k → k < w3.heap.size from fun k hk => (own_block Ox0.out k hk).2)
  clear Ox0'
  go_wp2_with fail
  go_at_call 47
  refine (HIMPL.out w3 xA0 xc0 (Ox0.out).cap (Ox0.out).rd).mono ?_
  rintro e w4 ⟨gA0, gc0, rfl, hown0, hbel⟩
  have Og0' := Lib.hid hown0
  clear hown0
  have hsw4 : w3.heap.size ≤ w4.heap.size := hbel.size
  have HB := Lib.hid (HB.out.trans (hbel.mono (by omega)))
  have Ow0 := Lib.hid (show OwI w4 w1.heap.size (.slice wA0 U0.length wc0) U0 from OwI.below Ow0.out hbel)
  have Ox0 := Lib.hid (show OwI w4 w2.heap.size (.slice xA0 l0.length xc0) l0 from OwI.below Ox0.out hbel)
  clear hbel
  have Og0 := Lib.hid (show OwI w4 w3.heap.size (.slice gA0 U0.length gc0) U0 from Og0'.out)
  have Ug0 := Lib.hid (show ∀ k, (Value.slice gA0 U0.length gc0).ownBlock = some k → k < w4.heap.size from fun k hk => (own_block Og0.out k hk).2)
  clear Og0'
  go_wp2_with fail
  go_at_call 20
  have hE := eqIntS_any w4.heap.size w4.heap.size gA0 wA0 gc0 wc0 U0 U0 w4 (by omega) (by omega) (Og0.out).rd (Ow0.out).rd
  rw [eqI_refl] at hE
  refine hE.mono ?_
  rintro e w5 ⟨rfl, hdr⟩
  clear hE
  have hbel := hdr.below w4.heap.size
  clear hdr
  have hsw5 : w4.heap.size ≤ w5.heap.size := hbel.size
  have HB := Lib.hid (HB.out.trans (hbel.mono (by omega)))
  have Ow0 := Lib.hid (show OwI w5 w1.heap.size (.slice wA0 U0.length wc0) U0 from OwI.below Ow0.out hbel)
  have Ox0 := Lib.hid (show OwI w5 w2.heap.size (.slice xA0 l0.length xc0) l0 from OwI.below Ox0.out hbel)
  have Og0 := Lib.hid (show OwI w5 w3.heap.size (.slice gA0 U0.length gc0) U0 from OwI.below Og0.out hbel)
  clear hbel
  go_wp2_with fail
  go_at_call 18
  refine (toIntS_any w.heap.size A0 c0 l0 w5 hl0 (by omega) (H0.out.below HB.out)).mono ?_
  rintro e w6 ⟨yA0, yc0, rfl, hown, hbel⟩
  have Oy0' := Lib.hid hown
  clear hown
  have hsw6 : w5.heap.size ≤ w6.heap.size := hbel.size
  have HB := Lib.hid (HB.out.trans (hbel.mono (by omega)))
  have Ow0 := Lib.hid (show OwI w6 w1.heap.size (.slice wA0 U0.length wc0) U0 from OwI.below Ow0.out hbel)
  have Ox0 := Lib.hid (show OwI w6 w2.heap.size (.slice xA0 l0.length xc0) l0 from OwI.below Ox0.out hbel)
  have Og0 := Lib.hid (show OwI w6 w3.heap.size (.slice gA0 U0.length gc0) U0 from OwI.below Og0.out hbel)
  clear hbel
  have Oy0 := Lib.hid (show OwI w6 w5.heap.size (.slice yA0 l0.length yc0) l0 from Oy0'.out)
  have Uy0 := Lib.hid (show ∀ k, (Value.slice yA0 l0.length yc0).ownBlock = some k → k < w6.heap.size from fun k hk => (own_block Oy0.out k hk).2)
  clear Oy0'
  go_wp2_with fail
  go_at_call 20
  have hE := eqIntS_any w6.heap.size w6.heap.size xA0 yA0 xc0 yc0 l0 l0 w6 (by omega) (by omega) (Ox0.out).rd (Oy0.out).rd
  rw [eqI_refl] at hE
  refine hE.mono ?_
  rintro e w7 ⟨rfl, hdr⟩
  clear hE
  have hbel := hdr.below w6.heap.size
  clear hdr
  have hsw7 : w6.heap.size ≤ w7.heap.size := hbel.size
  have HB := Lib.hid (HB.out.trans (hbel.mono (by omega)))
  have Ow0 := Lib.hid (show OwI w7 w1.heap.size (.slice wA0 U0.length wc0) U0 from OwI.below Ow0.out hbel)
  have Ox0 := Lib.hid (show OwI w7 w2.heap.size (.slice xA0 l0.length xc0) l0 from OwI.below Ox0.out hbel)
  have Og0 := Lib.hid (show OwI w7 w3.heap.size (.slice gA0 U0.length gc0) U0 from OwI.below Og0.out hbel)
  have Oy0 := Lib.hid (show OwI w7 w5.heap.size (.slice yA0 l0.length yc0) l0 from OwI.below Oy0.out hbel)
  clear hbel
  go_wp2_with fail
  go_at_call 23
  refine (markIntS_any (w2.heap.size) xA0 xc0 l0 (1) w7 (by omega) (by omega) (by omega) Ox0.out).mono ?_
  rintro e w8 ⟨rfl, hmk, hg⟩
  have hwn : Win w2.heap.size w3.heap.size w7 w8 := Win.of_grown hg (by omega) (fun k hk => ⟨(own_block Ox0.out k hk).1, Ux0.out k hk⟩)
  clear hg
  have Mx0 := Lib.hid hmk
  clear hmk
  have hsw8 : w7.heap.size ≤ w8.heap.size := hwn.1.size
  have HB := Lib.hid (HB.out.trans (hwn.1.mono (by omega)))
  have Ow0 := Lib.hid (show OwI w8 w1.heap.size (.slice wA0 U0.length wc0) U0 from own_win_lo Ow0.out hwn (fun k hk => Nat.lt_of_lt_of_le (Uw0.out k hk) (by omega)))
  have Og0 := Lib.hid (show OwI w8 w3.heap.size (.slice gA0 U0.length gc0) U0 from Win.own hwn Og0.out (by omega))
  clear hwn
  have hkk1 : ¬ (1 + (l0.length : Int) < 0) := by omega
  go_wp2_with fail
  go_at_call 20
  have hE := eqIntS_any w8.heap.size w8.heap.size gA0 wA0 gc0 wc0 U0 U0 w8 (by omega) (by omega) (Og0.out).rd (Ow0.out).rd
  rw [eqI_refl] at hE
  refine hE.mono ?_
  rintro e w9 ⟨rfl, hdr⟩
  clear hE
  have hbel := hdr.below w8.heap.size
  clear hdr
  have hsw9 : w8.heap.size ≤ w9.heap.size := hbel.size
  have HB := Lib.hid (HB.out.trans (hbel.mono (by omega)))
  have Ow0 := Lib.hid (show OwI w9 w1.heap.size (.slice wA0 U0.length wc0) U0 from OwI.below Ow0.out hbel)
  have Og0 := Lib.hid (show OwI w9 w3.heap.size (.slice gA0 U0.length gc0) U0 from OwI.below Og0.out hbel)
  clear hbel
  go_wp2_with fail
  go_at_call 23
  refine (markIntS_any (w3.heap.size) gA0 gc0 U0 (1) w9 (by omega) (by omega) (by omega) Og0.out).mono ?_
  rintro e w10 ⟨rfl, hmk, hg⟩
  have hwn : Win w3.heap.size w4.heap.size w9 w10 := Win.of_grown hg (by omega) (fun k hk => ⟨(own_block Og0.out k hk).1, Ug0.out k hk⟩)
  clear hg
  have Mg0 := Lib.hid hmk
  clear hmk
  have hsw10 : w9.heap.size ≤ w10.heap.size := hwn.1.size
  have HB := Lib.hid (HB.out.trans (hwn.1.mono (by omega)))
  have Ow0 := Lib.hid (show OwI w10 w1.heap.size (.slice wA0 U0.length wc0) U0 from own_win_lo Ow0.out hwn (fun k hk => Nat.lt_of_lt_of_le (Uw0.out k hk) (by omega)))
  clear hwn
  have hkm1 : ¬ (1 + (U0.length : Int) < 0) := by omega
  have HM := Lib.hid (own_rd_marks Mg0.out)
  have HBM := Lib.hid (Below.refl w10.heap.size w10)
  go_wp2_with fail
  go_at_call 24
  refine (heldIntS_any w10.heap.size gA0 gc0 U0.length 1 w10 (by omega) (by omega) (by omega) (HM.out.below HBM.out)).mono ?_
  rintro e w900 ⟨rfl, rfl⟩
  go_wp2_with fail
  go_at_call 18
  refine (toIntS_any w.heap.size A0 c0 l0 w10 hl0 (by omega) (H0.out.below HB.out)).mono ?_
  rintro e w11 ⟨zA0, zc0, rfl, hown, hbel⟩
  have Oz0' := Lib.hid hown
  clear hown
  have hsw11 : w10.heap.size ≤ w11.heap.size := hbel.size
  have HB := Lib.hid (HB.out.trans (hbel.mono (by omega)))
  have Ow0 := Lib.hid (show OwI w11 w1.heap.size (.slice wA0 U0.length wc0) U0 from OwI.below Ow0.out hbel)
  have HBM := Lib.hid (HBM.out.trans (hbel.mono (by omega)))
  clear hbel
  have Oz0 := Lib.hid (show OwI w11 w10.heap.size (.slice zA0 l0.length zc0) l0 from Oz0'.out)
  have Uz0 := Lib.hid (show ∀ k, (Value.slice zA0 l0.length zc0).ownBlock = some k → k < w11.heap.size from fun k hk => (own_block Oz0.out k hk).2)
  clear Oz0'
  go_wp2_with fail
  go_at_call 47
  refine (HIMPL.out w11 zA0 zc0 (Oz0.out).cap (Oz0.out).rd).mono ?_
  rintro e w12 ⟨hA0, hc0, rfl, hown0, hbel⟩
  have Oh0' := Lib.hid hown0
  clear hown0
  have hsw12 : w11.heap.size ≤ w12.heap.size := hbel.size
  have HB := Lib.hid (HB.out.trans (hbel.mono (by omega)))
  have Ow0 := Lib.hid (show OwI w12 w1.heap.size (.slice wA0 U0.length wc0) U0 from OwI.below Ow0.out hbel)
  have Oz0 := Lib.hid (show OwI w12 w10.heap.size (.slice zA0 l0.length zc0) l0 from OwI.below Oz0.out hbel)
  have HBM := Lib.hid (HBM.out.trans (hbel.mono (by omega)))
  clear hbel
  have Oh0 := Lib.hid (show OwI w12 w11.heap.size (.slice hA0 U0.length hc0) U0 from Oh0'.out)
  have Uh0 := Lib.hid (show ∀ k, (Value.slice hA0 U0.length hc0).ownBlock = some k → k < w12.heap.size from fun k hk => (own_block Oh0.out k hk).2)
  clear Oh0'
  go_wp2_with fail
  go_at_call 20
  have hE := eqIntS_any w12.heap.size w12.heap.size hA0 wA0 hc0 wc0 U0 U0 w12 (by omega) (by omega) (Oh0.out).rd (Ow0.out).rd
  rw [eqI_refl] at hE
  refine hE.mono ?_
  rintro e w13 ⟨rfl, hdr⟩
  clear hE
  have hbel := hdr.below w12.heap.size
  clear hdr
  have hsw13 : w12.heap.size ≤ w13.heap.size := hbel.size
  have HB := Lib.hid (HB.out.trans (hbel.mono (by omega)))
  have Ow0 := Lib.hid (show OwI w13 w1.heap.size (.slice wA0 U0.length wc0) U0 from OwI.below Ow0.out hbel)
  have Oz0 := Lib.hid (show OwI w13 w10.heap.size (.slice zA0 l0.length zc0) l0 from OwI.below Oz0.out hbel)
  have Oh0 := Lib.hid (show OwI w13 w11.heap.size (.slice hA0 U0.length hc0) U0 from OwI.below Oh0.out hbel)
  have HBM := Lib.hid (HBM.out.trans (hbel.mono (by omega)))
  clear hbel
  go_wp2_with fail
  go_at_call 24
  refine (heldIntS_any w10.heap.size gA0 gc0 U0.length 1 w13 (by omega) (by omega) (by omega) (HM.out.below HBM.out)).mono ?_
  rintro e w900 ⟨rfl, rfl⟩
  go_wp2
  go_ret
  exact ⟨rfl, HB.out⟩

set_option maxRecDepth 100000 in
theorem permutationPower_lifted (os : Os) (started : os.Started) (H : Type) (enc : TypeId × Value → H) :
    ReturnsInHanded {} Try.checked os 11 .any (Rows.fnExactPermutationPowerSpec.pre6 enc Try.prog Try.f11 Rows.fnExactPermutationPowerRow.domain false) (Rows.fnExactPermutationPowerSpec.post enc Try.prog Try.f11 false true false false) := by
  refine returnsInHanded_of_change (C := Try.checked) own started (by kernel_rfl) Try.func11
    (ChangeSpec.witness6 (enc := enc) (C := Try.checked) false ⟨#[], #[.slice none 0 0, .int .i64 0], []⟩ 8 (by kernel_rfl) (by kernel_rfl) (by kernel_rfl) (by kernel_rfl)) ?_
  intro W base args ds gs before hval0 hW _ _
  have hval : ∀ (j : Nat) t v, Try.f11.params[j]? = some t → args[j]? = some v → Value.okWide Try.prog W .any base t v := hval0
  have hW' := hW
  obtain ⟨p, q, hA0, hV, rfl, hfz, hnd⟩ := hW
  have hA : DataW.TrodAll enc Try.prog W 0 (fun _ => true) true Try.f11.params.toList args.toList ds p := hA0
  rw [Try.params11] at hA hval
  obtain ⟨v0, v1, d0, d1, pp0, pp1, rfl, rfl, rfl, h0, h1⟩ := trodAll_two hA
  obtain ⟨rfl, rfl⟩ := trodVars_none hV
  have h0k := h0
  have h1k := h1
  obtain ⟨A0, c0, l0, hx0, ln0, hrd0⟩ := open_list (hval 0 23 v0 rfl rfl) h0
  obtain ⟨x1, hx1, _, _, _⟩ := open_int Try.underlying3 (hval 1 3 v1 rfl rfl) h1
  subst hx0
  subst hx1
  clear hA0 hval0
  simp only [List.append_nil] at hW'
  refine (lawPermutationPower A0 c0 l0 x1 W ln0 hrd0).mono fun e W' ⟨he, hb⟩ => ?_
  subst he
  have hlt : ∀ x ∈ pp0 ++ pp1, x.block < W.heap.size := fun x hx => by simpa using hW'.lt x hx
  refine ⟨_, rfl, _, _, _, [], pp0 ++ pp1, [], hW', trodAll_mk1 (shut_bool Try.underlying4 _), ?_, rfl, hb.frame _, fun h => by cases h⟩
  exact trodAll_mk2 (Below.trod laidOut (by kernel_rfl) (of_decide_eq_true (by kernel_rfl)) h0k hb fun x hx => hlt x (List.mem_append_left _ hx)) (Below.trod laidOut (by kernel_rfl) (of_decide_eq_true (by kernel_rfl)) h1k hb fun x hx => hlt x (List.mem_append_right _ hx))

theorem permutationPower_holds : Rows.FnExactPermutationPowerSaid :=
  OpenClaim.holds_of_wide 11 Try.f11 rfl rfl rfl rfl rfl rfl rfl ⟨rfl, rfl, rfl, rfl, rfl⟩ rfl rfl rfl rfl rfl (by kernel_rfl) Try.func11 (by kernel_rfl)
    (of_decide_eq_true (by kernel_rfl)) (by unfold Func.isWrapper; rw [if_neg (of_decide_eq_false (by kernel_rfl))]; exact ⟨rfl, rfl⟩)
    (fun os started H enc _ => permutationPower_lifted os started H enc)
end Go.Proofs.Ytbbfbccemonihaa
