/- The law FnExactMatrixPower holds: for every argument, valid or not, MatrixPower of the program answers as MatrixPower of the model, writes into no argument, and its answer owns its memory. No condition. -/
import Derived.Test.YtbbfbccemonihaaGa6
import Derived.Test.YtbbfbccemonihaaOp
import Derived.Test.YtbbfbccemonihaaMox
import Derived.Test.YtbbfbccemonihaaMoz
namespace Go.Proofs.Ytbbfbccemonihaa
open Go.ChangeShapes Go.WideShapes Go.ChangeAt Go.RowKit Go.Deep Go.Joins

set_option maxRecDepth 100000 in
set_option maxHeartbeats 8000000 in
theorem lawMatrixPower (m0 : Mx) (x1 : Int) (x2 : Int) (w : World)  :
    Calls Try.prog 7 #[.agg #[.int .i64 m0.a, .int .i64 m0.b, .int .i64 m0.c, .int .i64 m0.d], .int .i64 x1, .int .i64 x2] w fun e w' => e = .returned (.bool true) ∧ Below w.heap.size w w' := by
  go_enter Try.func7, Try.ntmps7
  obtain ⟨U0, hU0⟩ : ∃ gx, mwV m0 x1 x2 = gx := ⟨_, rfl⟩
  obtain ⟨U1, hU1⟩ : ∃ gx, mwG m0 x1 x2 = gx := ⟨_, rfl⟩
  have hspec := fun (W : World)  => specMW_any (World.heap W).size m0 x1 x2 W (Nat.le_refl _) 
  have himpl := fun (W : World)  => implMW_any (World.heap W).size m0 x1 x2 W (Nat.le_refl _) 
  rw [hU0, hU1] at hspec himpl
  simp only [mxV] at hspec himpl
  have HSPEC := Lib.hid hspec
  have HIMPL := Lib.hid himpl
  clear hU0 hU1 hspec himpl
  go_wp2_with fail
  go_at_call 30
  generalize hww1 : World.alloc w _ = w1
  obtain ⟨x0', x1', x2', x3', hxw1, hbx⟩ := bx4 hww1
  clear hww1
  have hxP := hxw1
  have hsw1 : w.heap.size ≤ w1.heap.size := hbx.size
  have HB := Lib.hid hbx
  clear hbx
  have Ca0_0 := Lib.hid x0'
  have Ca0_1 := Lib.hid x1'
  have Ca0_2 := Lib.hid x2'
  have Ca0_3 := Lib.hid x3'
  clear x0' x1' x2' x3'
  refine (toMatrix_any m0 w1).mono ?_
  rintro e w2 ⟨rfl, hbel⟩
  have hsw2 : w1.heap.size ≤ w2.heap.size := hbel.size
  have HB := Lib.hid (HB.out.trans (hbel.mono (by omega)))
  have Ca0_0 := Lib.hid ((hbel.cell (p := ⟨w.heap.size, 0, none⟩) (by simp only []; omega)).trans Ca0_0.out)
  have Ca0_1 := Lib.hid ((hbel.cell (p := ⟨w.heap.size, 1, none⟩) (by simp only []; omega)).trans Ca0_1.out)
  have Ca0_2 := Lib.hid ((hbel.cell (p := ⟨w.heap.size, 2, none⟩) (by simp only []; omega)).trans Ca0_2.out)
  have Ca0_3 := Lib.hid ((hbel.cell (p := ⟨w.heap.size, 3, none⟩) (by simp only []; omega)).trans Ca0_3.out)
  clear hbel
  go_wp2_with fail
  go_at_call 33
  refine (HSPEC.out w2   ).mono ?_
  rintro e w3 ⟨rfl, hbel⟩
  have hsw3 : w2.heap.size ≤ w3.heap.size := hbel.size
  have HB := Lib.hid (HB.out.trans (hbel.mono (by omega)))
  have Ca0_0 := Lib.hid ((hbel.cell (p := ⟨w.heap.size, 0, none⟩) (by simp only []; omega)).trans Ca0_0.out)
  have Ca0_1 := Lib.hid ((hbel.cell (p := ⟨w.heap.size, 1, none⟩) (by simp only []; omega)).trans Ca0_1.out)
  have Ca0_2 := Lib.hid ((hbel.cell (p := ⟨w.heap.size, 2, none⟩) (by simp only []; omega)).trans Ca0_2.out)
  have Ca0_3 := Lib.hid ((hbel.cell (p := ⟨w.heap.size, 3, none⟩) (by simp only []; omega)).trans Ca0_3.out)
  clear hbel
  have v1 := cell_kept Ca0_0.out
  have v2 := cell_kept Ca0_1.out
  have v3 := cell_kept Ca0_2.out
  have v4 := cell_kept Ca0_3.out
  go_wp2_with fail
  go_at_call 30
  clear v1 v2 v3 v4
  generalize hww4 : World.alloc w3 _ = w4
  obtain ⟨x0', x1', x2', x3', hxw4, hbx⟩ := bx4 hww4
  clear hww4
  have hxP := hxw4
  have hsw4 : w3.heap.size ≤ w4.heap.size := hbx.size
  have HB := Lib.hid (HB.out.trans (hbx.mono (by omega)))
  have Ca0_0 := Lib.hid ((hbx.cell (p := ⟨w.heap.size, 0, none⟩) (by simp only []; omega)).trans Ca0_0.out)
  have Ca0_1 := Lib.hid ((hbx.cell (p := ⟨w.heap.size, 1, none⟩) (by simp only []; omega)).trans Ca0_1.out)
  have Ca0_2 := Lib.hid ((hbx.cell (p := ⟨w.heap.size, 2, none⟩) (by simp only []; omega)).trans Ca0_2.out)
  have Ca0_3 := Lib.hid ((hbx.cell (p := ⟨w.heap.size, 3, none⟩) (by simp only []; omega)).trans Ca0_3.out)
  clear hbx
  have Cw0_0 := Lib.hid x0'
  have Cw0_1 := Lib.hid x1'
  have Cw0_2 := Lib.hid x2'
  have Cw0_3 := Lib.hid x3'
  clear x0' x1' x2' x3'
  refine (toMatrix_any m0 w4).mono ?_
  rintro e w5 ⟨rfl, hbel⟩
  have hsw5 : w4.heap.size ≤ w5.heap.size := hbel.size
  have HB := Lib.hid (HB.out.trans (hbel.mono (by omega)))
  have Ca0_0 := Lib.hid ((hbel.cell (p := ⟨w.heap.size, 0, none⟩) (by simp only []; omega)).trans Ca0_0.out)
  have Ca0_1 := Lib.hid ((hbel.cell (p := ⟨w.heap.size, 1, none⟩) (by simp only []; omega)).trans Ca0_1.out)
  have Ca0_2 := Lib.hid ((hbel.cell (p := ⟨w.heap.size, 2, none⟩) (by simp only []; omega)).trans Ca0_2.out)
  have Ca0_3 := Lib.hid ((hbel.cell (p := ⟨w.heap.size, 3, none⟩) (by simp only []; omega)).trans Ca0_3.out)
  have Cw0_0 := Lib.hid ((hbel.cell (p := ⟨w3.heap.size, 0, none⟩) (by simp only []; omega)).trans Cw0_0.out)
  have Cw0_1 := Lib.hid ((hbel.cell (p := ⟨w3.heap.size, 1, none⟩) (by simp only []; omega)).trans Cw0_1.out)
  have Cw0_2 := Lib.hid ((hbel.cell (p := ⟨w3.heap.size, 2, none⟩) (by simp only []; omega)).trans Cw0_2.out)
  have Cw0_3 := Lib.hid ((hbel.cell (p := ⟨w3.heap.size, 3, none⟩) (by simp only []; omega)).trans Cw0_3.out)
  clear hbel
  go_wp2_with fail
  go_at_call 34
  refine (HIMPL.out w5   ).mono ?_
  rintro e w6 ⟨rfl, hbel⟩
  have hsw6 : w5.heap.size ≤ w6.heap.size := hbel.size
  have HB := Lib.hid (HB.out.trans (hbel.mono (by omega)))
  have Ca0_0 := Lib.hid ((hbel.cell (p := ⟨w.heap.size, 0, none⟩) (by simp only []; omega)).trans Ca0_0.out)
  have Ca0_1 := Lib.hid ((hbel.cell (p := ⟨w.heap.size, 1, none⟩) (by simp only []; omega)).trans Ca0_1.out)
  have Ca0_2 := Lib.hid ((hbel.cell (p := ⟨w.heap.size, 2, none⟩) (by simp only []; omega)).trans Ca0_2.out)
  have Ca0_3 := Lib.hid ((hbel.cell (p := ⟨w.heap.size, 3, none⟩) (by simp only []; omega)).trans Ca0_3.out)
  have Cw0_0 := Lib.hid ((hbel.cell (p := ⟨w3.heap.size, 0, none⟩) (by simp only []; omega)).trans Cw0_0.out)
  have Cw0_1 := Lib.hid ((hbel.cell (p := ⟨w3.heap.size, 1, none⟩) (by simp only []; omega)).trans Cw0_1.out)
  have Cw0_2 := Lib.hid ((hbel.cell (p := ⟨w3.heap.size, 2, none⟩) (by simp only []; omega)).trans Cw0_2.out)
  have Cw0_3 := Lib.hid ((hbel.cell (p := ⟨w3.heap.size, 3, none⟩) (by simp only []; omega)).trans Cw0_3.out)
  clear hbel
  have v5 := cell_kept Cw0_0.out
  have v6 := cell_kept Cw0_1.out
  have v7 := cell_kept Cw0_2.out
  have v8 := cell_kept Cw0_3.out
  go_wp2_with fail
  go_at_call 32
  clear v5 v6 v7 v8
  generalize hww7 : World.alloc w6 _ = w7
  obtain ⟨x0', x1', x2', x3', hxw7, hbx⟩ := bx4 hww7
  clear hww7
  have hxP := hxw7
  have hsw7 : w6.heap.size ≤ w7.heap.size := hbx.size
  have HB := Lib.hid (HB.out.trans (hbx.mono (by omega)))
  have Ca0_0 := Lib.hid ((hbx.cell (p := ⟨w.heap.size, 0, none⟩) (by simp only []; omega)).trans Ca0_0.out)
  have Ca0_1 := Lib.hid ((hbx.cell (p := ⟨w.heap.size, 1, none⟩) (by simp only []; omega)).trans Ca0_1.out)
  have Ca0_2 := Lib.hid ((hbx.cell (p := ⟨w.heap.size, 2, none⟩) (by simp only []; omega)).trans Ca0_2.out)
  have Ca0_3 := Lib.hid ((hbx.cell (p := ⟨w.heap.size, 3, none⟩) (by simp only []; omega)).trans Ca0_3.out)
  have Cw0_0 := Lib.hid ((hbx.cell (p := ⟨w3.heap.size, 0, none⟩) (by simp only []; omega)).trans Cw0_0.out)
  have Cw0_1 := Lib.hid ((hbx.cell (p := ⟨w3.heap.size, 1, none⟩) (by simp only []; omega)).trans Cw0_1.out)
  have Cw0_2 := Lib.hid ((hbx.cell (p := ⟨w3.heap.size, 2, none⟩) (by simp only []; omega)).trans Cw0_2.out)
  have Cw0_3 := Lib.hid ((hbx.cell (p := ⟨w3.heap.size, 3, none⟩) (by simp only []; omega)).trans Cw0_3.out)
  clear hbx
  have Cg0_0 := Lib.hid x0'
  have Cg0_1 := Lib.hid x1'
  have Cg0_2 := Lib.hid x2'
  have Cg0_3 := Lib.hid x3'
  clear x0' x1' x2' x3'
  refine (eqMatrix_refl U0 w7).mono ?_
  rintro e w8 ⟨rfl, hbel⟩
  have hsw8 : w7.heap.size ≤ w8.heap.size := hbel.size
  have HB := Lib.hid (HB.out.trans (hbel.mono (by omega)))
  have Ca0_0 := Lib.hid ((hbel.cell (p := ⟨w.heap.size, 0, none⟩) (by simp only []; omega)).trans Ca0_0.out)
  have Ca0_1 := Lib.hid ((hbel.cell (p := ⟨w.heap.size, 1, none⟩) (by simp only []; omega)).trans Ca0_1.out)
  have Ca0_2 := Lib.hid ((hbel.cell (p := ⟨w.heap.size, 2, none⟩) (by simp only []; omega)).trans Ca0_2.out)
  have Ca0_3 := Lib.hid ((hbel.cell (p := ⟨w.heap.size, 3, none⟩) (by simp only []; omega)).trans Ca0_3.out)
  have Cw0_0 := Lib.hid ((hbel.cell (p := ⟨w3.heap.size, 0, none⟩) (by simp only []; omega)).trans Cw0_0.out)
  have Cw0_1 := Lib.hid ((hbel.cell (p := ⟨w3.heap.size, 1, none⟩) (by simp only []; omega)).trans Cw0_1.out)
  have Cw0_2 := Lib.hid ((hbel.cell (p := ⟨w3.heap.size, 2, none⟩) (by simp only []; omega)).trans Cw0_2.out)
  have Cw0_3 := Lib.hid ((hbel.cell (p := ⟨w3.heap.size, 3, none⟩) (by simp only []; omega)).trans Cw0_3.out)
  have Cg0_0 := Lib.hid ((hbel.cell (p := ⟨w6.heap.size, 0, none⟩) (by simp only []; omega)).trans Cg0_0.out)
  have Cg0_1 := Lib.hid ((hbel.cell (p := ⟨w6.heap.size, 1, none⟩) (by simp only []; omega)).trans Cg0_1.out)
  have Cg0_2 := Lib.hid ((hbel.cell (p := ⟨w6.heap.size, 2, none⟩) (by simp only []; omega)).trans Cg0_2.out)
  have Cg0_3 := Lib.hid ((hbel.cell (p := ⟨w6.heap.size, 3, none⟩) (by simp only []; omega)).trans Cg0_3.out)
  clear hbel
  go_wp2
  go_ret
  exact ⟨rfl, HB.out⟩

set_option maxRecDepth 100000 in
theorem matrixPower_lifted (os : Os) (started : os.Started) (H : Type) (enc : TypeId × Value → H) :
    ReturnsInHanded {} Try.checked os 7 .any (Rows.fnExactMatrixPowerSpec.pre6 enc Try.prog Try.f7 Rows.fnExactMatrixPowerRow.domain false) (Rows.fnExactMatrixPowerSpec.post enc Try.prog Try.f7 false true false false) := by
  refine returnsInHanded_of_change (C := Try.checked) own started (by kernel_rfl) Try.func7
    (ChangeSpec.witness6 (enc := enc) (C := Try.checked) false ⟨#[], #[.agg #[.int .i64 0, .int .i64 0, .int .i64 0, .int .i64 0], .int .i64 0, .int .i64 0], []⟩ 8 (by kernel_rfl) (by kernel_rfl) (by kernel_rfl) (by kernel_rfl)) ?_
  intro W base args ds gs before hval0 hW _ _
  have hval : ∀ (j : Nat) t v, Try.f7.params[j]? = some t → args[j]? = some v → Value.okWide Try.prog W .any base t v := hval0
  have hW' := hW
  obtain ⟨p, q, hA0, hV, rfl, hfz, hnd⟩ := hW
  have hA : DataW.TrodAll enc Try.prog W 0 (fun _ => true) true Try.f7.params.toList args.toList ds p := hA0
  rw [Try.params7] at hA hval
  obtain ⟨v0, v1, v2, d0, d1, d2, pp0, pp1, pp2, rfl, rfl, hps, h0, h1, h2⟩ := trodAll_three hA
  rw [List.append_assoc] at hps
  subst hps
  obtain ⟨rfl, rfl⟩ := trodVars_none hV
  have h0k := h0
  have h1k := h1
  have h2k := h2
  obtain ⟨m0, hx0⟩ := open_matrix (hval 0 45 v0 rfl rfl) h0
  obtain ⟨x1, hx1, _, _, _⟩ := open_int Try.underlying3 (hval 1 3 v1 rfl rfl) h1
  obtain ⟨x2, hx2, _, _, _⟩ := open_int Try.underlying3 (hval 2 3 v2 rfl rfl) h2
  subst hx0
  subst hx1
  subst hx2
  clear hA0 hval0
  simp only [List.append_nil] at hW'
  refine (lawMatrixPower m0 x1 x2 W ).mono fun e W' ⟨he, hb⟩ => ?_
  subst he
  have hlt : ∀ x ∈ pp0 ++ (pp1 ++ pp2), x.block < W.heap.size := fun x hx => by simpa using hW'.lt x hx
  refine ⟨_, rfl, _, _, _, [], pp0 ++ (pp1 ++ pp2), [], hW', trodAll_mk1 (shut_bool Try.underlying4 _), ?_, rfl, hb.frame _, fun h => by cases h⟩
  exact trodAll_mk3 (Below.trod laidOut (by kernel_rfl) (of_decide_eq_true (by kernel_rfl)) h0k hb fun x hx => hlt x (List.mem_append_left _ hx)) (Below.trod laidOut (by kernel_rfl) (of_decide_eq_true (by kernel_rfl)) h1k hb fun x hx => hlt x (List.mem_append_right _ (List.mem_append_left _ hx))) (Below.trod laidOut (by kernel_rfl) (of_decide_eq_true (by kernel_rfl)) h2k hb fun x hx => hlt x (List.mem_append_right _ (List.mem_append_right _ hx)))

theorem matrixPower_holds : Rows.FnExactMatrixPowerSaid :=
  OpenClaim.holds_of_wide 7 Try.f7 rfl rfl rfl rfl rfl rfl rfl ⟨rfl, rfl, rfl, rfl, rfl⟩ rfl rfl rfl rfl rfl (by kernel_rfl) Try.func7 (by kernel_rfl)
    (of_decide_eq_true (by kernel_rfl)) (by unfold Func.isWrapper; rw [if_neg (of_decide_eq_false (by kernel_rfl))]; exact ⟨rfl, rfl⟩)
    (fun os started H enc _ => matrixPower_lifted os started H enc)
end Go.Proofs.Ytbbfbccemonihaa
