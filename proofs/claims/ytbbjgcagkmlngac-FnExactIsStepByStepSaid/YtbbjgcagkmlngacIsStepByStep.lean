/- The law FnExactIsStepByStep holds: for every argument, valid or not, IsStepByStep of the program answers as IsStepByStep of the model, writes into no argument, and its answer owns its memory. No condition. -/
import Derived.Test.YtbbjgcagkmlngacQl
import Derived.Test.YtbbjgcagkmlngacQh
namespace Go.Proofs.Ytbbjgcagkmlngac
open Go.ChangeShapes Go.WideShapes Go.ChangeAt Go.RowKit Go.Deep Go.Joins

set_option maxRecDepth 100000 in
set_option maxHeartbeats 4000000 in
theorem lawIsStepByStep (A0 : Option Addr) (c0 : Nat) (l : List Int) (w : World) (hn0 : l.length ≤ 9223372036854775807) (hr0 : Rd w w.heap.size 1 A0 l.length (l.map I)) :
    Calls Try.prog 5 #[.slice A0 l.length c0] w fun e w' => e = .returned (.bool true) ∧ Below w.heap.size w w' := by
  have H0 := Lib.hid hr0
  clear hr0
  by_cases hbig0 : 1048576 < l.length
  · have ibig : (1048576 : Int) < (l.length : Int) := by omega
    go_enter Try.func5, Try.ntmps5
    go_wp2
    go_ret
    exact ⟨rfl, Below.refl _ _⟩
  have hl0 : l.length ≤ 1048576 := by omega
  have il0 : ¬ (1048576 : Int) < (l.length : Int) := by omega
  obtain ⟨U, hU⟩ : ∃ U, starB l = U := ⟨_, rfl⟩
  obtain ⟨gd, hgd⟩ : ∃ gx, chG l = gx := ⟨_, rfl⟩
  have hspec := fun W A0' c0' => specStar_any (World.heap W).size A0' c0' l W (Nat.le_refl _) hl0
  have himpl := fun W A0' c0' => implStar_any (World.heap W).size A0' c0' l W (Nat.le_refl _) hl0
  rw [hU, hgd] at hspec himpl
  have HSPEC := Lib.hid hspec
  have HIMPL := Lib.hid himpl
  clear hU hgd hspec himpl
  go_enter Try.func5, Try.ntmps5
  go_wp2_with fail
  go_at_call 16
  refine (toIntS_any w.heap.size A0 c0 l w hl0 (by omega) H0.out).mono ?_
  rintro e w1 ⟨sA0, sc0, rfl, hown, hbel⟩
  have hsw1 : w.heap.size ≤ w1.heap.size := hbel.size
  have Dw1 := Lib.hid hbel
  have HBw1 := Lib.hid hbel
  have Os0 := Lib.hid hown
  clear hown hbel
  go_wp2_with fail
  go_at_call 25
  refine (HSPEC.out w1 sA0 sc0 Os0.out.cap Os0.out.rd).mono ?_
  rintro e w2 ⟨rfl, hbel⟩
  have hsw2 : w1.heap.size ≤ w2.heap.size := hbel.size
  have Dw2 := Lib.hid hbel
  have HBw2 := Lib.hid (HBw1.out.trans (Dw2.out.mono (by omega)))
  clear hbel
  go_wp2_with fail
  go_at_call 16
  refine (toIntS_any w.heap.size A0 c0 l w2 hl0 (by omega) (H0.out.below HBw2.out)).mono ?_
  rintro e w3 ⟨xA0, xc0, rfl, hown, hbel⟩
  have hsw3 : w2.heap.size ≤ w3.heap.size := hbel.size
  have Dw3 := Lib.hid hbel
  have HBw3 := Lib.hid (HBw2.out.trans (Dw3.out.mono (by omega)))
  have Ox0 := Lib.hid hown
  clear hown hbel
  go_wp2_with fail
  go_at_call 26
  refine (HIMPL.out w3 xA0 xc0 Ox0.out.cap Ox0.out.rd).mono ?_
  rintro e w4 ⟨rfl, hbel⟩
  have hsw4 : w3.heap.size ≤ w4.heap.size := hbel.size
  have Dw4 := Lib.hid hbel
  have HBw4 := Lib.hid (HBw3.out.trans (Dw4.out.mono (by omega)))
  have OX0 := Lib.hid (Ox0.out.below Dw4.out)
  clear hbel
  have HBS := Lib.hid (show Below w2.heap.size w2 w4 from (Dw3.out).trans (Dw4.out.mono (by omega)))
  go_wp2_with fail
  go_at_call 16
  refine (toIntS_any w.heap.size A0 c0 l w4 hl0 (by omega) (H0.out.below HBw4.out)).mono ?_
  rintro e w5 ⟨yA0, yc0, rfl, hown, hbel⟩
  have hsw5 : w4.heap.size ≤ w5.heap.size := hbel.size
  have Dw5 := Lib.hid hbel
  have HBw5 := Lib.hid (HBw4.out.trans (Dw5.out.mono (by omega)))
  have HBS := Lib.hid (HBS.out.trans (Dw5.out.mono (by omega)))
  have OY := Lib.hid hown
  clear hown hbel
  have OX0 := Lib.hid (OX0.out.below Dw5.out)
  go_wp2_with fail
  go_at_call 18
  have hE := eqIntS_any w5.heap.size w5.heap.size xA0 yA0 xc0 yc0 l l w5 (by omega) (by omega) OX0.out.rd OY.out.rd
  rw [eqI_refl] at hE
  refine hE.mono ?_
  rintro e w6 ⟨rfl, ⟨ny0, rfl⟩⟩
  clear hE OY
  have hbd := bDrewN (Below.refl w5.heap.size w5) ny0
  generalize hww : w5.drewN ny0 = w7 at hbd ⊢
  clear hww
  have hsw7 : w5.heap.size ≤ w7.heap.size := by have := hbd.size; omega
  have Dw7 := Lib.hid hbd
  have HBw7 := Lib.hid (HBw5.out.trans (Dw7.out.mono (by omega)))
  clear hbd
  have HBS := Lib.hid (HBS.out.trans (Dw7.out.mono (by omega)))
  have OX0 := Lib.hid (OX0.out.below Dw7.out)
  go_wp2
  go_ret
  exact ⟨rfl, HBw7.out⟩

set_option maxRecDepth 100000 in
theorem isStepByStep_lifted (os : Os) (started : os.Started) (H : Type) (enc : TypeId × Value → H) :
    ReturnsInHanded {} Try.checked os 5 .any (Rows.fnExactIsStepByStepSpec.pre6 enc Try.prog Try.f5 Rows.fnExactIsStepByStepRow.domain false) (Rows.fnExactIsStepByStepSpec.post enc Try.prog Try.f5 false true false false) := by
  refine returnsInHanded_of_change (C := Try.checked) own started (by kernel_rfl) Try.func5
    (ChangeSpec.witness6 (enc := enc) (C := Try.checked) false ⟨#[], #[.slice none 0 0], []⟩ 8 (by kernel_rfl) (by kernel_rfl) (by kernel_rfl) (by kernel_rfl)) ?_
  intro W base args ds gs before hval0 hW _ _
  have hval : ∀ (j : Nat) t v, Try.f5.params[j]? = some t → args[j]? = some v → Value.okWide Try.prog W .any base t v := hval0
  have hW' := hW
  obtain ⟨p, q, hA0, hV, rfl, hfz, hnd⟩ := hW
  have hA : DataW.TrodAll enc Try.prog W 0 (fun _ => true) true Try.f5.params.toList args.toList ds p := hA0
  rw [Try.params5] at hA hval
  obtain ⟨v0, d0, rfl, rfl, h0⟩ := trodAll_one hA
  obtain ⟨rfl, rfl⟩ := trodVars_none hV
  have h0k := h0
  obtain ⟨A0, c0, l, hx0, ln0, hrd0⟩ := open_list (hval 0 22 v0 rfl rfl) h0
  subst hx0
  clear hA0 hval0
  simp only [List.append_nil] at hW'
  refine (lawIsStepByStep A0 c0 l W ln0 hrd0).mono fun e W' ⟨he, hb⟩ => ?_
  subst he
  have hlt : ∀ x ∈ p, x.block < W.heap.size := fun x hx => by simpa using hW'.lt x hx
  refine ⟨_, rfl, _, _, _, [], p, [], hW', trodAll_mk1 (shut_bool Try.underlying4 _), ?_, rfl, hb.frame _, fun h => by cases h⟩
  exact trodAll_mk1 (Below.trod laidOut (by kernel_rfl) (of_decide_eq_true (by kernel_rfl)) h0k hb hlt)

theorem isStepByStep_holds : Rows.FnExactIsStepByStepSaid :=
  OpenClaim.holds_of_wide 5 Try.f5 rfl rfl rfl rfl rfl rfl rfl ⟨rfl, rfl, rfl, rfl, rfl⟩ rfl rfl rfl rfl rfl (by kernel_rfl) Try.func5 (by kernel_rfl)
    (of_decide_eq_true (by kernel_rfl)) (by unfold Func.isWrapper; rw [if_neg (of_decide_eq_false (by kernel_rfl))]; exact ⟨rfl, rfl⟩)
    (fun os started H enc _ => isStepByStep_lifted os started H enc)
end Go.Proofs.Ytbbjgcagkmlngac
