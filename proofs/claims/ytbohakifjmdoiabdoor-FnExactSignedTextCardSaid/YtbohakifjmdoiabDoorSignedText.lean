/- The law FnExactSignedText holds: for every argument, valid or not, SignedText of the program answers as SignedText of the model, writes into no argument, and its answer owns its memory. No condition but that the listed table of letters of the program reads as listed, which the card ties to the program's text. -/
import Derived.Test.YtbohakifjmdoiabDoorSignedTextL
import Derived.Test.YtbohakifjmdoiabDoorDt
namespace Go.Proofs.YtbohakifjmdoiabDoor
open Go.ChangeShapes Go.WideShapes Go.ChangeAt Go.RowKit Go.Deep Go.Joins

/-- The door's own heap meets the condition. -/
theorem signedText_met (os : Os) (args : Array Value) : laidMetH Tryd.prog Rows.fnExactSignedTextRow.laid ((World.doorLaid Tryd.prog 400 os).forCall (fun _ _ => 0) ⟨#[], args, []⟩).memory :=
  laidMetH_of_parts3 (fuel := 8) (laidMet_of_run' 8 (by kernel_rfl) (by kernel_rfl)) (by kernel_rfl) (by kernel_rfl)
theorem signedText_tab {W : World} (h : laidMetH Tryd.prog Rows.fnExactSignedTextRow.laid W) : LtT W := by
  rw [MakeChecks.laidMetH_plain _ _ _ (by kernel_rfl)] at h
  exact lt_of_reads (Lib.laidMet.reads h (n := "loop.example/g01098/impl.digitLetters") (d := Rows.laid_loop_example_g01098_impl_digitLetters) (by simp [Rows.fnExactSignedTextRow]))

set_option maxRecDepth 100000 in
theorem signedText_lifted (os : Os) (started : os.Started) (H : Type) (enc : TypeId × Value → H) :
    ReturnsInHanded {} Tryd.checked os 3 .any (fun w args => (Rows.fnExactSignedTextSpec.pre enc Tryd.prog Tryd.f3 [] false w args ∧ laidMetH Tryd.prog Rows.fnExactSignedTextRow.laid w) ∧ sizedMet enc Tryd.prog Tryd.f3 (OpenSpec.ofChange Rows.fnExactSignedTextSpec) false w args) (Rows.fnExactSignedTextSpec.post enc Tryd.prog Tryd.f3 false true false false) := by
  refine returnsInHanded_of_change_and (C := Tryd.checked) (X := fun w _ => laidMetH Tryd.prog Rows.fnExactSignedTextRow.laid w) (fun _ _ _ hh h => h.of_heap hh) own started (by kernel_rfl) Tryd.func3
    (ChangeSpec.witness_shaped (enc := enc) (C := Tryd.checked) (os := os) (X := fun w _ => laidMetH Tryd.prog Rows.fnExactSignedTextRow.laid w) false (World.doorLaid Tryd.prog 400 os) #[.slice none 0 0] 8 rfl (World.shaped_of_RefB (by kernel_rfl) (by kernel_rfl)) (by kernel_rfl) (by kernel_rfl) (by kernel_rfl) (signedText_met os _)) ?_
  intro W base args ds gs before hval0 hW _ _ hL _
  have hval : ∀ (j : Nat) t v, Tryd.f3.params[j]? = some t → args[j]? = some v → Value.okWide Tryd.prog W .any base t v := hval0
  have hW' := hW
  obtain ⟨p, q, hA0, hV, rfl, hfz, hnd⟩ := hW
  have hA : DataW.TrodAll enc Tryd.prog W 0 (fun _ => true) true Tryd.f3.params.toList args.toList ds p := hA0
  rw [Tryd.params3] at hA hval
  obtain ⟨v0, d0, rfl, rfl, h0⟩ := trodAll_one hA
  have hqlt : ∀ x ∈ p ++ q, x.block < W.heap.size := hW'.lt
  have h0k := h0
  obtain ⟨A0, c0, l0, hx0, ln0, hrd0⟩ := open_list (hval 0 22 v0 rfl rfl) h0
  subst hx0
  clear hA0 hval0
  have hTab := signedText_tab hL
  refine (lawSignedText A0 c0 l0 W hTab ln0 hrd0).mono fun e W' ⟨he, hb⟩ => ?_
  subst he
  have hVV := Below.trodVars (enc := enc) laidOut hb (by kernel_rfl) hV
  obtain ⟨g, t, cs, fuel, d, p', rfl, hg, ht, hvar, hd, hq⟩ := trodVars_one hV
  refine ⟨_, rfl, _, _, _, [], p, q, hW', trodAll_mk1 (shut_bool Tryd.underlying4 _), ?_, hVV, hb.frame _, fun h => by cases h⟩
  exact trodAll_mk1 (Below.trod laidOut (by kernel_rfl) (of_decide_eq_true (by kernel_rfl)) h0k hb fun x hx => hqlt x (List.mem_append_left _ hx))

theorem signedText_holds : Rows.FnExactSignedTextSaid :=
  OpenClaim.holds_of_wide 3 Tryd.f3 rfl rfl rfl rfl rfl rfl rfl ⟨rfl, rfl, rfl, rfl, rfl⟩ rfl rfl rfl rfl rfl (by kernel_rfl) Tryd.func3 (by kernel_rfl)
    (of_decide_eq_true (by kernel_rfl)) (by unfold Func.isWrapper; rw [if_neg (of_decide_eq_false (by kernel_rfl))]; exact ⟨rfl, rfl⟩)
    (fun os started H enc _ => signedText_lifted os started H enc)

theorem signedText_card : Rows.FnExactSignedTextCardSaid :=
  Claim7.holds_tied_plain_at .later [] Rows.fnExactSignedTextCard.laidKinds true Rows.fnExactSignedTextCard.stood.harness Rows.fnExactSignedTextCard.stood.looks
    signedText_holds (fun _ h => by cases h) (by kernel_rfl) (fun _ h => by cases h) fnExactSignedText_row_tie rfl ⟨rfl, rfl⟩ (by kernel_rfl) rfl
    (fun f fn hf hfn => by
      obtain rfl : f = 3 := Option.some.inj ((show Tryd.prog.funcNamed Rows.fnExactSignedTextRow.func = some 3 by kernel_rfl).symm.trans hf) |>.symm
      obtain rfl : fn = Tryd.f3 := (Option.some.inj (Tryd.func3.symm.trans hfn)).symm
      exact ⟨by kernel_rfl, fun j t ht => by
        have hall : (Tryd.f3.params.toList.all fun u => !Tryd.prog.wantsStandIn u) = true := by kernel_rfl
        exact (show Tryd.prog.wantsStandIn t = false by simpa using List.all_eq_true.1 hall t (Array.mem_toList_iff.2 (Array.mem_of_getElem? ht)))⟩)
    (by kernel_rfl)
end Go.Proofs.YtbohakifjmdoiabDoor
