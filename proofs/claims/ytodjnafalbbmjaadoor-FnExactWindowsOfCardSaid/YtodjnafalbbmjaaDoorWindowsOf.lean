/- The law FnExactWindowsOf holds: for every argument, valid or not, WindowsOf of the program answers as WindowsOf of the model, writes into no argument, and its answer owns its memory. No condition but that the listed tables of Go's library read as listed, which the card ties to the program's text. -/
import Derived.Test.YtodjnafalbbmjaaDoorQl
import Derived.Test.YtodjnafalbbmjaaDoorSr
import Derived.Test.YtodjnafalbbmjaaDoorDw
namespace Go.Proofs.YtodjnafalbbmjaaDoor
open Go.ChangeShapes Go.WideShapes Go.ChangeAt Go.RowKit Go.Deep Go.Joins

set_option maxRecDepth 100000 in
set_option maxHeartbeats 4000000 in
theorem lawWindowsOf  (x : Int) (y : Int) (w : World) (hT : TzT w)   :
    Calls Tryd.prog 3 #[.int .i64 x, .int .i64 y] w fun e w' => e = .returned (.bool true) ∧ Below w.heap.size w w' := by
  have HT := Lib.hid hT
  clear hT
  obtain ⟨U, hU⟩ : ∃ U, woR x y = U := ⟨_, rfl⟩
  have hUl : U.length ≤ 1000 := by rw [← hU]; exact woR_le x y
  obtain ⟨gd, hgd⟩ : ∃ gx, woB x y = gx := ⟨_, rfl⟩
  have hspec := fun W  => specWindowsOf_any  x y W
  have himpl := fun W (hbW : Below w.heap.size w W) => implWindowsOf_any  x y W (HT.out.on hbW)
  rw [hU, hgd] at hspec himpl
  have HSPEC := Lib.hid hspec
  have HIMPL := Lib.hid himpl
  clear hU hgd hspec himpl
  go_enter Tryd.func3, Tryd.ntmps3
  go_wp2_with fail
  go_at_call 4
  refine (HSPEC.out w   ).mono ?_
  rintro e w1 ⟨A0', c0', rfl, hres, hbel⟩
  have hsw1 : w.heap.size ≤ w1.heap.size := hbel.size
  have Dw1 := Lib.hid hbel
  have HBw1 := Lib.hid hbel
  have RES := Lib.hid hres
  clear hres
  clear hbel
  go_wp2_with fail
  go_at_call 5
  refine (HIMPL.out w1 HBw1.out   ).mono ?_
  rintro e w2 ⟨AG, cg, rfl, hres, hbel⟩
  have hsw2 : w1.heap.size ≤ w2.heap.size := hbel.size
  have Dw2 := Lib.hid hbel
  have HBw2 := Lib.hid (HBw1.out.trans (Dw2.out.mono (by omega)))
  have HG := Lib.hid hres
  clear hres
  clear hbel
  have HBS := Lib.hid (show Below w1.heap.size w1 w2 from Dw2.out)
  go_wp2_with fail
  go_at_call 6
  have hE := eqIntS_any w2.heap.size w2.heap.size AG A0' cg c0' U U w2 (by omega) (by omega) HG.out.rd (RES.out.below HBS.out).rd
  rw [eqI_refl] at hE
  refine hE.mono ?_
  rintro e w3 ⟨rfl, ⟨nd0, rfl⟩⟩
  clear hE
  have hbd := bDrewN (Below.refl w2.heap.size w2) nd0
  generalize hww : w2.drewN nd0 = w4 at hbd ⊢
  clear hww
  have hsw4 : w2.heap.size ≤ w4.heap.size := by have := hbd.size; omega
  have Dw4 := Lib.hid hbd
  have HBw4 := Lib.hid (HBw2.out.trans (Dw4.out.mono (by omega)))
  clear hbd
  have HBS := Lib.hid (HBS.out.trans (Dw4.out.mono (by omega)))
  have HG := Lib.hid (HG.out.below Dw4.out)
  go_wp2_with fail
  go_at_call 7
  refine (markIntS_any w1.heap.size AG cg U 1 w4 (by omega) (by omega) (by omega) HG.out).mono ?_
  rintro e w5 ⟨rfl, hm, hg⟩
  have hbd : Below w1.heap.size w4 w5 := Below.grown (Below.refl _ _) hg (by omega) (fun k hk => (own_block HG.out k hk).1)
  have hsw5 : w4.heap.size ≤ w5.heap.size := hbd.size
  have HM := Lib.hid (own_rd_marks hm)
  have HBw5 := Lib.hid (HBw4.out.trans (hbd.mono (by omega)))
  have HBS := Lib.hid (HBS.out.trans (hbd.mono (by omega)))
  have hk1 : ¬ (1 + (U.length : Int) < 0) := by omega
  clear hm hg hbd
  go_wp2_with fail
  go_at_call 8
  refine (heldIntS_any w5.heap.size AG cg U.length 1 w5 (by omega) (by omega) (by omega) HM.out).mono ?_
  rintro e w900 ⟨rfl, rfl⟩
  go_wp2_with fail
  go_at_call 5
  refine (HIMPL.out w5 HBw5.out   ).mono ?_
  rintro e w6 ⟨AH, ch, rfl, hres, hbel⟩
  have hsw6 : w5.heap.size ≤ w6.heap.size := hbel.size
  have Dw6 := Lib.hid hbel
  have HBw6 := Lib.hid (HBw5.out.trans (Dw6.out.mono (by omega)))
  have HBM := Lib.hid (show Below w5.heap.size w5 w6 from Dw6.out)
  have HBS := Lib.hid (HBS.out.trans (HBM.out.mono (by omega)))
  have HH := Lib.hid hres
  clear hres hbel
  go_wp2_with fail
  go_at_call 6
  have hE := eqIntS_any w6.heap.size w6.heap.size AH A0' ch c0' U U w6 (by omega) (by omega) HH.out.rd (RES.out.below HBS.out).rd
  rw [eqI_refl] at hE
  refine hE.mono ?_
  rintro e w7 ⟨rfl, ⟨nd2, rfl⟩⟩
  clear hE
  have hbd := bDrewN (Below.refl w6.heap.size w6) nd2
  generalize hww : w6.drewN nd2 = w8 at hbd ⊢
  clear hww
  have hsw8 : w6.heap.size ≤ w8.heap.size := by have := hbd.size; omega
  have Dw8 := Lib.hid hbd
  have HBw8 := Lib.hid (HBw6.out.trans (Dw8.out.mono (by omega)))
  clear hbd
  have HBS := Lib.hid (HBS.out.trans (Dw8.out.mono (by omega)))
  have HBM := Lib.hid (HBM.out.trans (Dw8.out.mono (by omega)))
  go_wp2_with fail
  go_at_call 8
  refine (heldIntS_any w5.heap.size AG cg U.length 1 w8 (by omega) (by omega) (by omega) (HM.out.below HBM.out)).mono ?_
  rintro e w901 ⟨rfl, rfl⟩
  go_wp2
  go_ret
  exact ⟨rfl, HBw8.out⟩

/-- The door's own heap meets the condition. -/
theorem windowsOf_met (os : Os) (args : Array Value) : laidMetH Tryd.prog Rows.fnExactWindowsOfRow.laid ((World.doorLaid Tryd.prog 400 os).forCall (fun _ _ => 0) ⟨#[], args, []⟩).memory :=
  laidMetH_of_parts3 (fuel := 8) (laidMet_of_run' 8 (by kernel_rfl) (by kernel_rfl)) (by kernel_rfl) (by kernel_rfl)
theorem windowsOf_tab {W : World} (h : laidMetH Tryd.prog Rows.fnExactWindowsOfRow.laid W) : TzT W := by
  rw [MakeChecks.laidMetH_plain _ _ _ (by kernel_rfl)] at h
  exact tz_of_reads (Lib.laidMet.reads h (n := "math/bits.deBruijn64tab") (d := Rows.laid_math_bits_deBruijn64tab) (by simp [Rows.fnExactWindowsOfRow]))

set_option maxRecDepth 100000 in
theorem windowsOf_lifted (os : Os) (started : os.Started) (H : Type) (enc : TypeId × Value → H) :
    ReturnsInHanded {} Tryd.checked os 3 .any (fun w args => (Rows.fnExactWindowsOfSpec.pre enc Tryd.prog Tryd.f3 [] false w args ∧ laidMetH Tryd.prog Rows.fnExactWindowsOfRow.laid w) ∧ sizedMet enc Tryd.prog Tryd.f3 (OpenSpec.ofChange Rows.fnExactWindowsOfSpec) false w args) (Rows.fnExactWindowsOfSpec.post enc Tryd.prog Tryd.f3 false true false false) := by
  refine returnsInHanded_of_change_and (C := Tryd.checked) (X := fun w _ => laidMetH Tryd.prog Rows.fnExactWindowsOfRow.laid w) (fun _ _ _ hh h => h.of_heap hh) own started (by kernel_rfl) Tryd.func3
    (ChangeSpec.witness_shaped (enc := enc) (C := Tryd.checked) (os := os) (X := fun w _ => laidMetH Tryd.prog Rows.fnExactWindowsOfRow.laid w) false (World.doorLaid Tryd.prog 400 os) #[.int .i64 0, .int .i64 0] 8 rfl (World.shaped_of_RefB (by kernel_rfl) (by kernel_rfl)) (by kernel_rfl) (by kernel_rfl) (by kernel_rfl) (windowsOf_met os _)) ?_
  intro W base args ds gs before hval0 hW _ _ hL _
  have hval : ∀ (j : Nat) t v, Tryd.f3.params[j]? = some t → args[j]? = some v → Value.okWide Tryd.prog W .any base t v := hval0
  have hW' := hW
  obtain ⟨p, q, hA0, hV, rfl, hfz, hnd⟩ := hW
  have hA : DataW.TrodAll enc Tryd.prog W 0 (fun _ => true) true Tryd.f3.params.toList args.toList ds p := hA0
  rw [Tryd.params3] at hA hval
  obtain ⟨v0, v1, d0, d1, p0, p1, rfl, rfl, rfl, h0, h1⟩ := trodAll_two hA
  obtain ⟨rfl, rfl⟩ := trodVars_none hV
  have h0k := h0
  have h1k := h1
  obtain ⟨x, hx0, _, _, _⟩ := open_int Tryd.underlying3 (hval 0 3 v0 rfl rfl) h0
  obtain ⟨y, hx1, _, _, _⟩ := open_int Tryd.underlying3 (hval 1 3 v1 rfl rfl) h1
  subst hx0
  subst hx1
  clear hA0 hval0
  simp only [List.append_nil] at hW'
  have hTab := windowsOf_tab hL
  refine (lawWindowsOf x y W hTab  ).mono fun e W' ⟨he, hb⟩ => ?_
  subst he
  have hlt : ∀ x ∈ p0 ++ p1, x.block < W.heap.size := fun x hx => by simpa using hW'.lt x hx
  refine ⟨_, rfl, _, _, _, [], p0 ++ p1, [], hW', trodAll_mk1 (shut_bool Tryd.underlying4 _), ?_, rfl, hb.frame _, fun h => by cases h⟩
  exact trodAll_mk2 (Below.trod laidOut (by kernel_rfl) (of_decide_eq_true (by kernel_rfl)) h0k hb fun x hx => hlt x (List.mem_append_left _ hx)) (Below.trod laidOut (by kernel_rfl) (of_decide_eq_true (by kernel_rfl)) h1k hb fun x hx => hlt x (List.mem_append_right _ hx))

theorem windowsOf_holds : Rows.FnExactWindowsOfSaid :=
  OpenClaim.holds_of_wide 3 Tryd.f3 rfl rfl rfl rfl rfl rfl rfl ⟨rfl, rfl, rfl, rfl, rfl⟩ rfl rfl rfl rfl rfl (by kernel_rfl) Tryd.func3 (by kernel_rfl)
    (of_decide_eq_true (by kernel_rfl)) (by unfold Func.isWrapper; rw [if_neg (of_decide_eq_false (by kernel_rfl))]; exact ⟨rfl, rfl⟩)
    (fun os started H enc _ => windowsOf_lifted os started H enc)

theorem windowsOf_card : Rows.FnExactWindowsOfCardSaid :=
  Claim7.holds_tied_plain_at .later [] Rows.fnExactWindowsOfCard.laidKinds true Rows.fnExactWindowsOfCard.stood.harness Rows.fnExactWindowsOfCard.stood.looks
    windowsOf_holds (fun _ h => by cases h) (by kernel_rfl) (fun _ h => by cases h) fnExactWindowsOf_row_tie rfl ⟨rfl, rfl⟩ (by kernel_rfl) rfl
    (fun f fn hf hfn => by
      obtain rfl : f = 3 := Option.some.inj ((show Tryd.prog.funcNamed Rows.fnExactWindowsOfRow.func = some 3 by kernel_rfl).symm.trans hf) |>.symm
      obtain rfl : fn = Tryd.f3 := (Option.some.inj (Tryd.func3.symm.trans hfn)).symm
      exact ⟨by kernel_rfl, fun j t ht => by
        have hall : (Tryd.f3.params.toList.all fun u => !Tryd.prog.wantsStandIn u) = true := by kernel_rfl
        exact (show Tryd.prog.wantsStandIn t = false by simpa using List.all_eq_true.1 hall t (Array.mem_toList_iff.2 (Array.mem_of_getElem? ht)))⟩)
    (by kernel_rfl)
end Go.Proofs.YtodjnafalbbmjaaDoor
