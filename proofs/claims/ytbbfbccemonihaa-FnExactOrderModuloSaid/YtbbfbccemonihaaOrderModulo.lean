/- The law FnExactOrderModulo holds: for every argument, valid or not, OrderModulo of the program answers as OrderModulo of the model, writes into no argument, and its answer owns its memory. No condition. -/
import Derived.Test.YtbbfbccemonihaaQl
import Derived.Test.YtbbfbccemonihaaOp
import Derived.Test.YtbbfbccemonihaaMod
namespace Go.Proofs.Ytbbfbccemonihaa
open Go.ChangeShapes Go.WideShapes Go.ChangeAt Go.RowKit Go.Deep Go.Joins

set_option maxRecDepth 100000 in
set_option maxHeartbeats 4000000 in
theorem lawOrderModulo  (x : Int) (y : Int) (w : World)   :
    Calls Try.prog 5 #[.int .i64 x, .int .i64 y] w fun e w' => e = .returned (.bool true) ∧ Below w.heap.size w w' := by
  obtain ⟨U, hU⟩ : ∃ U, ordV x y = U := ⟨_, rfl⟩
  obtain ⟨gd, hgd⟩ : ∃ gx, ordG x y = gx := ⟨_, rfl⟩
  have hspec := fun W  => specOrder_any  x y W
  have himpl := fun W  => implOrder_any  x y W
  rw [hU, hgd] at hspec himpl
  have HSPEC := Lib.hid hspec
  have HIMPL := Lib.hid himpl
  clear hU hgd hspec himpl
  go_enter Try.func5, Try.ntmps5
  go_wp2_with fail
  go_at_call 27
  refine (HSPEC.out w   ).mono ?_
  rintro e w1 ⟨rfl, hbel⟩
  have hsw1 : w.heap.size ≤ w1.heap.size := hbel.size
  have Dw1 := Lib.hid hbel
  have HBw1 := Lib.hid hbel
  clear hbel
  go_wp2_with fail
  go_at_call 28
  refine (HIMPL.out w1   ).mono ?_
  rintro e w2 ⟨rfl, hbel⟩
  have hsw2 : w1.heap.size ≤ w2.heap.size := hbel.size
  have Dw2 := Lib.hid hbel
  have HBw2 := Lib.hid (HBw1.out.trans (Dw2.out.mono (by omega)))
  clear hbel
  have HBS := Lib.hid (show Below w1.heap.size w1 w2 from Dw2.out)
  go_wp2
  go_ret
  exact ⟨rfl, HBw2.out⟩

set_option maxRecDepth 100000 in
theorem orderModulo_lifted (os : Os) (started : os.Started) (H : Type) (enc : TypeId × Value → H) :
    ReturnsInHanded {} Try.checked os 5 .any (Rows.fnExactOrderModuloSpec.pre6 enc Try.prog Try.f5 Rows.fnExactOrderModuloRow.domain false) (Rows.fnExactOrderModuloSpec.post enc Try.prog Try.f5 false true false false) := by
  refine returnsInHanded_of_change (C := Try.checked) own started (by kernel_rfl) Try.func5
    (ChangeSpec.witness6 (enc := enc) (C := Try.checked) false ⟨#[], #[.int .i64 0, .int .i64 0], []⟩ 8 (by kernel_rfl) (by kernel_rfl) (by kernel_rfl) (by kernel_rfl)) ?_
  intro W base args ds gs before hval0 hW _ _
  have hval : ∀ (j : Nat) t v, Try.f5.params[j]? = some t → args[j]? = some v → Value.okWide Try.prog W .any base t v := hval0
  have hW' := hW
  obtain ⟨p, q, hA0, hV, rfl, hfz, hnd⟩ := hW
  have hA : DataW.TrodAll enc Try.prog W 0 (fun _ => true) true Try.f5.params.toList args.toList ds p := hA0
  rw [Try.params5] at hA hval
  obtain ⟨v0, v1, d0, d1, p0, p1, rfl, rfl, rfl, h0, h1⟩ := trodAll_two hA
  obtain ⟨rfl, rfl⟩ := trodVars_none hV
  have h0k := h0
  have h1k := h1
  obtain ⟨x, hx0, _, _, _⟩ := open_int Try.underlying3 (hval 0 3 v0 rfl rfl) h0
  obtain ⟨y, hx1, _, _, _⟩ := open_int Try.underlying3 (hval 1 3 v1 rfl rfl) h1
  subst hx0
  subst hx1
  clear hA0 hval0
  simp only [List.append_nil] at hW'
  refine (lawOrderModulo x y W  ).mono fun e W' ⟨he, hb⟩ => ?_
  subst he
  have hlt : ∀ x ∈ p0 ++ p1, x.block < W.heap.size := fun x hx => by simpa using hW'.lt x hx
  refine ⟨_, rfl, _, _, _, [], p0 ++ p1, [], hW', trodAll_mk1 (shut_bool Try.underlying4 _), ?_, rfl, hb.frame _, fun h => by cases h⟩
  exact trodAll_mk2 (Below.trod laidOut (by kernel_rfl) (of_decide_eq_true (by kernel_rfl)) h0k hb fun x hx => hlt x (List.mem_append_left _ hx)) (Below.trod laidOut (by kernel_rfl) (of_decide_eq_true (by kernel_rfl)) h1k hb fun x hx => hlt x (List.mem_append_right _ hx))

theorem orderModulo_holds : Rows.FnExactOrderModuloSaid :=
  OpenClaim.holds_of_wide 5 Try.f5 rfl rfl rfl rfl rfl rfl rfl ⟨rfl, rfl, rfl, rfl, rfl⟩ rfl rfl rfl rfl rfl (by kernel_rfl) Try.func5 (by kernel_rfl)
    (of_decide_eq_true (by kernel_rfl)) (by unfold Func.isWrapper; rw [if_neg (of_decide_eq_false (by kernel_rfl))]; exact ⟨rfl, rfl⟩)
    (fun os started H enc _ => orderModulo_lifted os started H enc)
end Go.Proofs.Ytbbfbccemonihaa
