/- The walk of the law FnExactOneAdder. -/
import Derived.Test.YtbohakifjmdoiaaGa6
import Derived.Test.YtbohakifjmdoiaaN9h
import Derived.Test.YtbohakifjmdoiaaGa6
import Derived.Test.YtbohakifjmdoiaaN9m
namespace Go.Proofs.Ytbohakifjmdoiaa
open Go.ChangeShapes Go.WideShapes Go.ChangeAt Go.RowKit Go.Deep Go.Joins

set_option maxRecDepth 100000 in
set_option maxHeartbeats 8000000 in
theorem lawOneAdder (x0 : Int) (w : World)  :
    Calls Try.prog 11 #[.int .i64 x0] w fun e w' => e = .returned (.bool true) ∧ Below w.heap.size w w' := by
  go_enter Try.func11, Try.ntmps11
  obtain ⟨U0, hU0⟩ : ∃ gx, oaV x0 = gx := ⟨_, rfl⟩
  obtain ⟨U1, hU1⟩ : ∃ gx, oaB x0 = gx := ⟨_, rfl⟩
  have hspec := fun (W : World)  => specOneAdder_any (World.heap W).size x0 W (Nat.le_refl _) 
  have himpl := fun (W : World)  => implOneAdder_any (World.heap W).size x0 W (Nat.le_refl _) 
  rw [hU0, hU1] at hspec himpl
  have HSPEC := Lib.hid hspec
  have HIMPL := Lib.hid himpl
  clear hU0 hU1 hspec himpl
  go_wp2_with fail
  go_at_call 35
  refine (HSPEC.out w   ).mono ?_
  rintro e w1 ⟨rfl, hbel⟩
  have hsw1 : w.heap.size ≤ w1.heap.size := hbel.size
  have HB := Lib.hid hbel
  clear hbel
  go_wp2_with fail
  go_at_call 36
  generalize hww2 : World.alloc w1 _ = w2
  obtain ⟨x0', x1', x2', x3', x4', hxw2, hbx⟩ := bx5 hww2
  clear hww2
  have hxP := hxw2
  have hsw2 : w1.heap.size ≤ w2.heap.size := hbx.size
  have HB := Lib.hid (HB.out.trans (hbx.mono (by omega)))
  clear hbx
  have Cw0_0 := Lib.hid x0'
  have Cw0_1 := Lib.hid x1'
  have Cw0_2 := Lib.hid x2'
  have Cw0_3 := Lib.hid x3'
  have Cw0_4 := Lib.hid x4'
  clear x0' x1' x2' x3' x4'
  refine (HIMPL.out w2   ).mono ?_
  rintro e w3 ⟨rfl, hbel⟩
  have hsw3 : w2.heap.size ≤ w3.heap.size := hbel.size
  have HB := Lib.hid (HB.out.trans (hbel.mono (by omega)))
  have Cw0_0 := Lib.hid ((hbel.cell (p := ⟨w1.heap.size, 0, none⟩) (by simp only []; omega)).trans Cw0_0.out)
  have Cw0_1 := Lib.hid ((hbel.cell (p := ⟨w1.heap.size, 1, none⟩) (by simp only []; omega)).trans Cw0_1.out)
  have Cw0_2 := Lib.hid ((hbel.cell (p := ⟨w1.heap.size, 2, none⟩) (by simp only []; omega)).trans Cw0_2.out)
  have Cw0_3 := Lib.hid ((hbel.cell (p := ⟨w1.heap.size, 3, none⟩) (by simp only []; omega)).trans Cw0_3.out)
  have Cw0_4 := Lib.hid ((hbel.cell (p := ⟨w1.heap.size, 4, none⟩) (by simp only []; omega)).trans Cw0_4.out)
  clear hbel
  have v1 := cell_kept Cw0_0.out
  have v2 := cell_kept Cw0_1.out
  have v3 := cell_kept Cw0_2.out
  have v4 := cell_kept Cw0_3.out
  have v5 := cell_kept Cw0_4.out
  go_wp2_with fail
  go_at_call 37
  clear v1 v2 v3 v4 v5
  generalize hww4 : World.alloc w3 _ = w4
  obtain ⟨x0', x1', x2', x3', x4', hxw4, hbx⟩ := bx5 hww4
  clear hww4
  have hxP := hxw4
  have hsw4 : w3.heap.size ≤ w4.heap.size := hbx.size
  have HB := Lib.hid (HB.out.trans (hbx.mono (by omega)))
  have Cw0_0 := Lib.hid ((hbx.cell (p := ⟨w1.heap.size, 0, none⟩) (by simp only []; omega)).trans Cw0_0.out)
  have Cw0_1 := Lib.hid ((hbx.cell (p := ⟨w1.heap.size, 1, none⟩) (by simp only []; omega)).trans Cw0_1.out)
  have Cw0_2 := Lib.hid ((hbx.cell (p := ⟨w1.heap.size, 2, none⟩) (by simp only []; omega)).trans Cw0_2.out)
  have Cw0_3 := Lib.hid ((hbx.cell (p := ⟨w1.heap.size, 3, none⟩) (by simp only []; omega)).trans Cw0_3.out)
  have Cw0_4 := Lib.hid ((hbx.cell (p := ⟨w1.heap.size, 4, none⟩) (by simp only []; omega)).trans Cw0_4.out)
  clear hbx
  have Cg0_0 := Lib.hid x0'
  have Cg0_1 := Lib.hid x1'
  have Cg0_2 := Lib.hid x2'
  have Cg0_3 := Lib.hid x3'
  have Cg0_4 := Lib.hid x4'
  clear x0' x1' x2' x3' x4'
  refine (eqAdder_refl U0 w4).mono ?_
  rintro e w5 ⟨rfl, hbel⟩
  have hsw5 : w4.heap.size ≤ w5.heap.size := hbel.size
  have HB := Lib.hid (HB.out.trans (hbel.mono (by omega)))
  have Cw0_0 := Lib.hid ((hbel.cell (p := ⟨w1.heap.size, 0, none⟩) (by simp only []; omega)).trans Cw0_0.out)
  have Cw0_1 := Lib.hid ((hbel.cell (p := ⟨w1.heap.size, 1, none⟩) (by simp only []; omega)).trans Cw0_1.out)
  have Cw0_2 := Lib.hid ((hbel.cell (p := ⟨w1.heap.size, 2, none⟩) (by simp only []; omega)).trans Cw0_2.out)
  have Cw0_3 := Lib.hid ((hbel.cell (p := ⟨w1.heap.size, 3, none⟩) (by simp only []; omega)).trans Cw0_3.out)
  have Cw0_4 := Lib.hid ((hbel.cell (p := ⟨w1.heap.size, 4, none⟩) (by simp only []; omega)).trans Cw0_4.out)
  have Cg0_0 := Lib.hid ((hbel.cell (p := ⟨w3.heap.size, 0, none⟩) (by simp only []; omega)).trans Cg0_0.out)
  have Cg0_1 := Lib.hid ((hbel.cell (p := ⟨w3.heap.size, 1, none⟩) (by simp only []; omega)).trans Cg0_1.out)
  have Cg0_2 := Lib.hid ((hbel.cell (p := ⟨w3.heap.size, 2, none⟩) (by simp only []; omega)).trans Cg0_2.out)
  have Cg0_3 := Lib.hid ((hbel.cell (p := ⟨w3.heap.size, 3, none⟩) (by simp only []; omega)).trans Cg0_3.out)
  have Cg0_4 := Lib.hid ((hbel.cell (p := ⟨w3.heap.size, 4, none⟩) (by simp only []; omega)).trans Cg0_4.out)
  clear hbel
  go_wp2
  go_ret
  exact ⟨rfl, HB.out⟩

end Go.Proofs.Ytbohakifjmdoiaa
