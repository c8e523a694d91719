/- The law FnExactTreePath holds: for every argument, valid or not, TreePath of the program answers as TreePath of the model, writes into no argument, and its answer owns its memory. No condition. -/
import Derived.Test.YtbbjgcagkmlngabTT0
import Derived.Test.YtbbjgcagkmlngabTU0
namespace Go.Proofs.Ytbbjgcagkmlngab
open Go.ChangeShapes Go.WideShapes Go.ChangeAt Go.RowKit Go.Deep Go.Joins

set_option maxRecDepth 100000 in
set_option maxHeartbeats 4000000 in
theorem lawTreePath  (x : Int) (w : World)   :
    Calls Try.prog 12 #[.int .i64 x] w fun e w' => e = .returned (.bool true) ∧ Below w.heap.size w w' := by
  obtain ⟨U, hU⟩ : ∃ U, ptR x = U := ⟨_, rfl⟩
  have hUl : U.length ≤ 1000 := by rw [← hU]; exact ptR_le x
  obtain ⟨gd, hgd⟩ : ∃ gx, ptB x = gx := ⟨_, rfl⟩
  have hspec := fun W  => specTreePath_any  x W
  have himpl := fun W  => implTreePath_any  x W
  rw [hU, hgd] at hspec himpl
  have HSPEC := Lib.hid hspec
  have HIMPL := Lib.hid himpl
  clear hU hgd hspec himpl
  go_enter Try.func12, Try.ntmps12
  go_wp2_with fail
  go_at_call 61
  refine (HSPEC.out w   ).mono ?_
  rintro e w1 ⟨A0', c0', rfl, hres, hbel⟩
  have hsw1 : w.heap.size ≤ w1.heap.size := hbel.size
  have Dw1 := Lib.hid hbel
  have HBw1 := Lib.hid hbel
  have RES := Lib.hid hres
  clear hres
  clear hbel
  go_wp2_with fail
  go_at_call 62
  refine (HIMPL.out w1   ).mono ?_
  rintro e w2 ⟨AG, cg, rfl, hres, hbel⟩
  have hsw2 : w1.heap.size ≤ w2.heap.size := hbel.size
  have Dw2 := Lib.hid hbel
  have HBw2 := Lib.hid (HBw1.out.trans (Dw2.out.mono (by omega)))
  have HG := Lib.hid hres
  clear hres
  clear hbel
  have HBS := Lib.hid (show Below w1.heap.size w1 w2 from Dw2.out)
  go_wp2_with fail
  go_at_call 26
  have hE := eqIntS_any w2.heap.size w2.heap.size AG A0' cg c0' U U w2 (by omega) (by omega) HG.out.rd (RES.out.below HBS.out).rd
  rw [eqI_refl] at hE
  refine hE.mono ?_
  rintro e w3 ⟨rfl, ⟨nd0, rfl⟩⟩
  clear hE
  have hbd := bDrewN (Below.refl w2.heap.size w2) nd0
  generalize hww : w2.drewN nd0 = w4 at hbd ⊢
  clear hww
  have hsw4 : w2.heap.size ≤ w4.heap.size := by have := hbd.size; omega
  have Dw4 := Lib.hid hbd
  have HBw4 := Lib.hid (HBw2.out.trans (Dw4.out.mono (by omega)))
  clear hbd
  have HBS := Lib.hid (HBS.out.trans (Dw4.out.mono (by omega)))
  have HG := Lib.hid (HG.out.below Dw4.out)
  go_wp2_with fail
  go_at_call 29
  refine (markIntS_any w1.heap.size AG cg U 1 w4 (by omega) (by omega) (by omega) HG.out).mono ?_
  rintro e w5 ⟨rfl, hm, hg⟩
  have hbd : Below w1.heap.size w4 w5 := Below.grown (Below.refl _ _) hg (by omega) (fun k hk => (own_block HG.out k hk).1)
  have hsw5 : w4.heap.size ≤ w5.heap.size := hbd.size
  have HM := Lib.hid (own_rd_marks hm)
  have HBw5 := Lib.hid (HBw4.out.trans (hbd.mono (by omega)))
  have HBS := Lib.hid (HBS.out.trans (hbd.mono (by omega)))
  have hk1 : ¬ (1 + (U.length : Int) < 0) := by omega
  clear hm hg hbd
  go_wp2_with fail
  go_at_call 30
  refine (heldIntS_any w5.heap.size AG cg U.length 1 w5 (by omega) (by omega) (by omega) HM.out).mono ?_
  rintro e w900 ⟨rfl, rfl⟩
  go_wp2_with fail
  go_at_call 62
  refine (HIMPL.out w5   ).mono ?_
  rintro e w6 ⟨AH, ch, rfl, hres, hbel⟩
  have hsw6 : w5.heap.size ≤ w6.heap.size := hbel.size
  have Dw6 := Lib.hid hbel
  have HBw6 := Lib.hid (HBw5.out.trans (Dw6.out.mono (by omega)))
  have HBM := Lib.hid (show Below w5.heap.size w5 w6 from Dw6.out)
  have HBS := Lib.hid (HBS.out.trans (HBM.out.mono (by omega)))
  have HH := Lib.hid hres
  clear hres hbel
  go_wp2_with fail
  go_at_call 26
  have hE := eqIntS_any w6.heap.size w6.heap.size AH A0' ch c0' U U w6 (by omega) (by omega) HH.out.rd (RES.out.below HBS.out).rd
  rw [eqI_refl] at hE
  refine hE.mono ?_
  rintro e w7 ⟨rfl, ⟨nd2, rfl⟩⟩
  clear hE
  have hbd := bDrewN (Below.refl w6.heap.size w6) nd2
  generalize hww : w6.drewN nd2 = w8 at hbd ⊢
  clear hww
  have hsw8 : w6.heap.size ≤ w8.heap.size := by have := hbd.size; omega
  have Dw8 := Lib.hid hbd
  have HBw8 := Lib.hid (HBw6.out.trans (Dw8.out.mono (by omega)))
  clear hbd
  have HBS := Lib.hid (HBS.out.trans (Dw8.out.mono (by omega)))
  have HBM := Lib.hid (HBM.out.trans (Dw8.out.mono (by omega)))
  go_wp2_with fail
  go_at_call 30
  refine (heldIntS_any w5.heap.size AG cg U.length 1 w8 (by omega) (by omega) (by omega) (HM.out.below HBM.out)).mono ?_
  rintro e w901 ⟨rfl, rfl⟩
  go_wp2
  go_ret
  exact ⟨rfl, HBw8.out⟩

set_option maxRecDepth 100000 in
theorem treePath_lifted (os : Os) (started : os.Started) (H : Type) (enc : TypeId × Value → H) :
    ReturnsInHanded {} Try.checked os 12 .any (Rows.fnExactTreePathSpec.pre6 enc Try.prog Try.f12 Rows.fnExactTreePathRow.domain false) (Rows.fnExactTreePathSpec.post enc Try.prog Try.f12 false true false false) := by
  refine returnsInHanded_of_change (C := Try.checked) own started (by kernel_rfl) Try.func12
    (ChangeSpec.witness6 (enc := enc) (C := Try.checked) false ⟨#[], #[.int .i64 0], []⟩ 8 (by kernel_rfl) (by kernel_rfl) (by kernel_rfl) (by kernel_rfl)) ?_
  intro W base args ds gs before hval0 hW _ _
  have hval : ∀ (j : Nat) t v, Try.f12.params[j]? = some t → args[j]? = some v → Value.okWide Try.prog W .any base t v := hval0
  have hW' := hW
  obtain ⟨p, q, hA0, hV, rfl, hfz, hnd⟩ := hW
  have hA : DataW.TrodAll enc Try.prog W 0 (fun _ => true) true Try.f12.params.toList args.toList ds p := hA0
  rw [Try.params12] at hA hval
  obtain ⟨v0, d0, rfl, rfl, h0⟩ := trodAll_one hA
  obtain ⟨rfl, rfl⟩ := trodVars_none hV
  have h0k := h0
  obtain ⟨x, hx0, _, _, _⟩ := open_int Try.underlying3 (hval 0 3 v0 rfl rfl) h0
  subst hx0
  clear hA0 hval0
  simp only [List.append_nil] at hW'
  refine (lawTreePath x W  ).mono fun e W' ⟨he, hb⟩ => ?_
  subst he
  have hlt : ∀ x ∈ p, x.block < W.heap.size := fun x hx => by simpa using hW'.lt x hx
  refine ⟨_, rfl, _, _, _, [], p, [], hW', trodAll_mk1 (shut_bool Try.underlying4 _), ?_, rfl, hb.frame _, fun h => by cases h⟩
  exact trodAll_mk1 (Below.trod laidOut (by kernel_rfl) (of_decide_eq_true (by kernel_rfl)) h0k hb hlt)

theorem treePath_holds : Rows.FnExactTreePathSaid :=
  OpenClaim.holds_of_wide 12 Try.f12 rfl rfl rfl rfl rfl rfl rfl ⟨rfl, rfl, rfl, rfl, rfl⟩ rfl rfl rfl rfl rfl (by kernel_rfl) Try.func12 (by kernel_rfl)
    (of_decide_eq_true (by kernel_rfl)) (by unfold Func.isWrapper; rw [if_neg (of_decide_eq_false (by kernel_rfl))]; exact ⟨rfl, rfl⟩)
    (fun os started H enc _ => treePath_lifted os started H enc)
end Go.Proofs.Ytbbjgcagkmlngab
