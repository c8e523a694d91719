/- The law FnExactChainText holds: for every argument, valid or not, ChainText of the program answers as ChainText of the model, writes into no argument, and its answer owns its memory. No condition but that the listed tables of Go's library read as listed, which the card ties to the program's text. -/
import Derived.Test.YtbbjgcagkmlngadDoorQl
import Derived.Test.YtbbjgcagkmlngadDoorZe
import Derived.Test.YtbbjgcagkmlngadDoorDx
namespace Go.Proofs.YtbbjgcagkmlngadDoor
open Go.ChangeShapes Go.WideShapes Go.ChangeAt Go.RowKit Go.Deep Go.Joins

set_option maxRecDepth 100000 in
set_option maxHeartbeats 4000000 in
theorem lawChainText (A0 : Option Addr) (c0 : Nat) (l : List Int) (w : World) (hT : Tab w) (hn0 : l.length ≤ 9223372036854775807) (hr0 : Rd w w.heap.size 1 A0 l.length (l.map I)) :
    Calls Tryd.prog 3 #[.slice A0 l.length c0] w fun e w' => e = .returned (.bool true) ∧ Below w.heap.size w w' := by
  have HT := Lib.hid hT
  clear hT
  have H0 := Lib.hid hr0
  clear hr0
  by_cases hbig0 : 1048576 < l.length
  · have ibig : (1048576 : Int) < (l.length : Int) := by omega
    go_enter Tryd.func3, Tryd.ntmps3
    go_wp2
    go_ret
    exact ⟨rfl, Below.refl _ _⟩
  have hl0 : l.length ≤ 1048576 := by omega
  have il0 : ¬ (1048576 : Int) < (l.length : Int) := by omega
  obtain ⟨U, hU⟩ : ∃ U, chT l = U := ⟨_, rfl⟩
  obtain ⟨gd, hgd⟩ : ∃ gx, chG l = gx := ⟨_, rfl⟩
  have hspec := fun W A0' c0' => specChainText_any (World.heap W).size A0' c0' l W (Nat.le_refl _) hl0
  have himpl := fun W (hbW : Below w.heap.size w W) A0' c0' hcap hrW => implChainText_any (World.heap W).size A0' c0' l W (Nat.le_refl _) hl0 hcap hrW (HT.out.on hbW)
  rw [hU, hgd] at hspec himpl
  have HSPEC := Lib.hid hspec
  have HIMPL := Lib.hid himpl
  clear hU hgd hspec himpl
  go_enter Tryd.func3, Tryd.ntmps3
  go_wp2_with fail
  go_at_call 8
  refine (toIntS_any w.heap.size A0 c0 l w hl0 (by omega) H0.out).mono ?_
  rintro e w1 ⟨sA0, sc0, rfl, hown, hbel⟩
  have hsw1 : w.heap.size ≤ w1.heap.size := hbel.size
  have Dw1 := Lib.hid hbel
  have HBw1 := Lib.hid hbel
  have Os0 := Lib.hid hown
  clear hown hbel
  go_wp2_with fail
  go_at_call 7
  refine (HSPEC.out w1 sA0 sc0 Os0.out.cap Os0.out.rd).mono ?_
  rintro e w2 ⟨rfl, hbel⟩
  have hsw2 : w1.heap.size ≤ w2.heap.size := hbel.size
  have Dw2 := Lib.hid hbel
  have HBw2 := Lib.hid (HBw1.out.trans (Dw2.out.mono (by omega)))
  clear hbel
  go_wp2_with fail
  go_at_call 8
  refine (toIntS_any w.heap.size A0 c0 l w2 hl0 (by omega) (H0.out.below HBw2.out)).mono ?_
  rintro e w3 ⟨xA0, xc0, rfl, hown, hbel⟩
  have hsw3 : w2.heap.size ≤ w3.heap.size := hbel.size
  have Dw3 := Lib.hid hbel
  have HBw3 := Lib.hid (HBw2.out.trans (Dw3.out.mono (by omega)))
  have Ox0 := Lib.hid hown
  clear hown hbel
  go_wp2_with fail
  go_at_call 9
  refine (HIMPL.out w3 HBw3.out xA0 xc0 Ox0.out.cap Ox0.out.rd).mono ?_
  rintro e w4 ⟨rfl, hbel⟩
  have hsw4 : w3.heap.size ≤ w4.heap.size := hbel.size
  have Dw4 := Lib.hid hbel
  have HBw4 := Lib.hid (HBw3.out.trans (Dw4.out.mono (by omega)))
  have OX0 := Lib.hid (Ox0.out.below Dw4.out)
  clear hbel
  have HBS := Lib.hid (show Below w2.heap.size w2 w4 from (Dw3.out).trans (Dw4.out.mono (by omega)))
  go_wp2_with fail
  go_at_call 8
  refine (toIntS_any w.heap.size A0 c0 l w4 hl0 (by omega) (H0.out.below HBw4.out)).mono ?_
  rintro e w5 ⟨yA0, yc0, rfl, hown, hbel⟩
  have hsw5 : w4.heap.size ≤ w5.heap.size := hbel.size
  have Dw5 := Lib.hid hbel
  have HBw5 := Lib.hid (HBw4.out.trans (Dw5.out.mono (by omega)))
  have HBS := Lib.hid (HBS.out.trans (Dw5.out.mono (by omega)))
  have OY := Lib.hid hown
  clear hown hbel
  have OX0 := Lib.hid (OX0.out.below Dw5.out)
  go_wp2_with fail
  go_at_call 10
  have hE := eqIntS_any w5.heap.size w5.heap.size xA0 yA0 xc0 yc0 l l w5 (by omega) (by omega) OX0.out.rd OY.out.rd
  rw [eqI_refl] at hE
  refine hE.mono ?_
  rintro e w6 ⟨rfl, ⟨ny0, rfl⟩⟩
  clear hE OY
  have hbd := bDrewN (Below.refl w5.heap.size w5) ny0
  generalize hww : w5.drewN ny0 = w7 at hbd ⊢
  clear hww
  have hsw7 : w5.heap.size ≤ w7.heap.size := by have := hbd.size; omega
  have Dw7 := Lib.hid hbd
  have HBw7 := Lib.hid (HBw5.out.trans (Dw7.out.mono (by omega)))
  clear hbd
  have HBS := Lib.hid (HBS.out.trans (Dw7.out.mono (by omega)))
  have OX0 := Lib.hid (OX0.out.below Dw7.out)
  go_wp2
  go_ret
  exact ⟨rfl, HBw7.out⟩

/-- The door's own heap meets the condition. -/
theorem chainText_met (os : Os) (args : Array Value) : laidMetH Tryd.prog Rows.fnExactChainTextRow.laid ((World.doorLaid Tryd.prog 400 os).forCall (fun _ _ => 0) ⟨#[], args, []⟩).memory :=
  laidMetH_of_parts3 (fuel := 8) (laidMet_of_run' 8 (by kernel_rfl) (by kernel_rfl)) (by kernel_rfl) (by kernel_rfl)
theorem chainText_tab {W : World} (h : laidMetH Tryd.prog Rows.fnExactChainTextRow.laid W) : Tab W := by
  rw [MakeChecks.laidMetH_plain _ _ _ (by kernel_rfl)] at h
  exact tab_of_reads (Lib.laidMet.reads h (n := "internal/strconv.uint64pow10") (d := Rows.laid_internal_strconv_uint64pow10) (by simp [Rows.fnExactChainTextRow]))

set_option maxRecDepth 100000 in
theorem chainText_lifted (os : Os) (started : os.Started) (H : Type) (enc : TypeId × Value → H) :
    ReturnsInHanded {} Tryd.checked os 3 .any (fun w args => (Rows.fnExactChainTextSpec.pre enc Tryd.prog Tryd.f3 [] false w args ∧ laidMetH Tryd.prog Rows.fnExactChainTextRow.laid w) ∧ sizedMet enc Tryd.prog Tryd.f3 (OpenSpec.ofChange Rows.fnExactChainTextSpec) false w args) (Rows.fnExactChainTextSpec.post enc Tryd.prog Tryd.f3 false true false false) := by
  refine returnsInHanded_of_change_and (C := Tryd.checked) (X := fun w _ => laidMetH Tryd.prog Rows.fnExactChainTextRow.laid w) (fun _ _ _ hh h => h.of_heap hh) own started (by kernel_rfl) Tryd.func3
    (ChangeSpec.witness_shaped (enc := enc) (C := Tryd.checked) (os := os) (X := fun w _ => laidMetH Tryd.prog Rows.fnExactChainTextRow.laid w) false (World.doorLaid Tryd.prog 400 os) #[.slice none 0 0] 8 rfl (World.shaped_of_RefB (by kernel_rfl) (by kernel_rfl)) (by kernel_rfl) (by kernel_rfl) (by kernel_rfl) (chainText_met os _)) ?_
  intro W base args ds gs before hval0 hW _ _ hL _
  have hval : ∀ (j : Nat) t v, Tryd.f3.params[j]? = some t → args[j]? = some v → Value.okWide Tryd.prog W .any base t v := hval0
  have hW' := hW
  obtain ⟨p, q, hA0, hV, rfl, hfz, hnd⟩ := hW
  have hA : DataW.TrodAll enc Tryd.prog W 0 (fun _ => true) true Tryd.f3.params.toList args.toList ds p := hA0
  rw [Tryd.params3] at hA hval
  obtain ⟨v0, d0, rfl, rfl, h0⟩ := trodAll_one hA
  obtain ⟨rfl, rfl⟩ := trodVars_none hV
  have h0k := h0
  obtain ⟨A0, c0, l, hx0, ln0, hrd0⟩ := open_list (hval 0 22 v0 rfl rfl) h0
  subst hx0
  clear hA0 hval0
  simp only [List.append_nil] at hW'
  have hTab := chainText_tab hL
  refine (lawChainText A0 c0 l W hTab ln0 hrd0).mono fun e W' ⟨he, hb⟩ => ?_
  subst he
  have hlt : ∀ x ∈ p, x.block < W.heap.size := fun x hx => by simpa using hW'.lt x hx
  refine ⟨_, rfl, _, _, _, [], p, [], hW', trodAll_mk1 (shut_bool Tryd.underlying4 _), ?_, rfl, hb.frame _, fun h => by cases h⟩
  exact trodAll_mk1 (Below.trod laidOut (by kernel_rfl) (of_decide_eq_true (by kernel_rfl)) h0k hb hlt)

theorem chainText_holds : Rows.FnExactChainTextSaid :=
  OpenClaim.holds_of_wide 3 Tryd.f3 rfl rfl rfl rfl rfl rfl rfl ⟨rfl, rfl, rfl, rfl, rfl⟩ rfl rfl rfl rfl rfl (by kernel_rfl) Tryd.func3 (by kernel_rfl)
    (of_decide_eq_true (by kernel_rfl)) (by unfold Func.isWrapper; rw [if_neg (of_decide_eq_false (by kernel_rfl))]; exact ⟨rfl, rfl⟩)
    (fun os started H enc _ => chainText_lifted os started H enc)

theorem chainText_card : Rows.FnExactChainTextCardSaid :=
  Claim7.holds_tied_plain_at .later [] Rows.fnExactChainTextCard.laidKinds true Rows.fnExactChainTextCard.stood.harness Rows.fnExactChainTextCard.stood.looks
    chainText_holds (fun _ h => by cases h) (by kernel_rfl) (fun _ h => by cases h) fnExactChainText_row_tie rfl ⟨rfl, rfl⟩ (by kernel_rfl) rfl
    (fun f fn hf hfn => by
      obtain rfl : f = 3 := Option.some.inj ((show Tryd.prog.funcNamed Rows.fnExactChainTextRow.func = some 3 by kernel_rfl).symm.trans hf) |>.symm
      obtain rfl : fn = Tryd.f3 := (Option.some.inj (Tryd.func3.symm.trans hfn)).symm
      exact ⟨by kernel_rfl, fun j t ht => by
        have hall : (Tryd.f3.params.toList.all fun u => !Tryd.prog.wantsStandIn u) = true := by kernel_rfl
        exact (show Tryd.prog.wantsStandIn t = false by simpa using List.all_eq_true.1 hall t (Array.mem_toList_iff.2 (Array.mem_of_getElem? ht)))⟩)
    (by kernel_rfl)
end Go.Proofs.YtbbjgcagkmlngadDoor
