/- The walk of the law FnExactParseSigned. -/
import Derived.Test.YtbohakifjmdoiabDoorGa6
import Derived.Test.YtbohakifjmdoiabDoorN9D
namespace Go.Proofs.YtbohakifjmdoiabDoor
open Go.ChangeShapes Go.WideShapes Go.ChangeAt Go.RowKit Go.Deep Go.Joins

set_option maxRecDepth 100000 in
set_option maxHeartbeats 8000000 in
theorem lawParseSigned (x0 : ByteArray) (w : World) (hT : LtT w) :
    Calls Tryd.prog 4 #[.string x0] w fun e w' => e = .returned (.bool true) ∧ Below w.heap.size w w' := by
  have HT := Lib.hid hT
  clear hT
  by_cases hbig0 : 1048576 < x0.size
  · have ibig : (1048576 : Int) < (x0.size : Int) := by omega
    go_enter Tryd.func4, Tryd.ntmps4
    go_wp2
    go_ret
    exact ⟨rfl, Below.refl _ _⟩
  have hl0 : x0.size ≤ 1048576 := by omega
  have il0 : ¬ (1048576 : Int) < (x0.size : Int) := by omega
  clear hbig0
  go_enter Tryd.func4, Tryd.ntmps4
  obtain ⟨U0, hU0⟩ : ∃ gx, psR (lts x0) = gx := ⟨_, rfl⟩
  have hUl0 : U0.length ≤ 1000 := by rw [← hU0]; exact psR_le (lts x0)
  obtain ⟨U1, hU1⟩ : ∃ gx, psB (lts x0) = gx := ⟨_, rfl⟩
  have hspec := fun (W : World)  => specParse_lt (World.heap W).size x0 W (Nat.le_refl _) hl0
  have himpl := fun (W : World)  => implParse_lt (World.heap W).size x0 W (Nat.le_refl _) hl0
  rw [hU0, hU1] at hspec himpl
  have HSPEC := Lib.hid hspec
  have HIMPL := Lib.hid himpl
  clear hU0 hU1 hspec himpl
  go_wp2_with fail
  go_at_call 9
  refine (HSPEC.out w   ).mono ?_
  rintro e w1 ⟨wA0, wc0, rfl, hown0, hbel⟩
  have Ow0' := Lib.hid hown0
  clear hown0
  have hsw1 : w.heap.size ≤ w1.heap.size := hbel.size
  have HB := Lib.hid hbel
  clear hbel
  have Ow0 := Lib.hid (show OwI w1 w.heap.size (.slice wA0 U0.length wc0) U0 from Ow0'.out)
  have Uw0 := Lib.hid (show ∀ k, (Value.slice wA0 U0.length wc0).ownBlock = some k → k < w1.heap.size from fun k hk => (own_block Ow0.out k hk).2)
  clear Ow0'
  go_wp2_with fail
  go_at_call 10
  refine (HIMPL.out w1 (HT.out.on HB.out)).mono ?_
  rintro e w2 ⟨gA0, gc0, rfl, hown0, hbel⟩
  have Og0' := Lib.hid hown0
  clear hown0
  have hsw2 : w1.heap.size ≤ w2.heap.size := hbel.size
  have HB := Lib.hid (HB.out.trans (hbel.mono (by omega)))
  have Ow0 := Lib.hid (show OwI w2 w.heap.size (.slice wA0 U0.length wc0) U0 from OwI.below Ow0.out hbel)
  clear hbel
  have Og0 := Lib.hid (show OwI w2 w1.heap.size (.slice gA0 U0.length gc0) U0 from Og0'.out)
  have Ug0 := Lib.hid (show ∀ k, (Value.slice gA0 U0.length gc0).ownBlock = some k → k < w2.heap.size from fun k hk => (own_block Og0.out k hk).2)
  clear Og0'
  go_wp2_with fail
  go_at_call 8
  have hE := eqIntS_any w2.heap.size w2.heap.size gA0 wA0 gc0 wc0 U0 U0 w2 (by omega) (by omega) (Og0.out).rd (Ow0.out).rd
  rw [eqI_refl] at hE
  refine hE.mono ?_
  rintro e w3 ⟨rfl, hdr⟩
  clear hE
  have hbel := hdr.below w2.heap.size
  clear hdr
  have hsw3 : w2.heap.size ≤ w3.heap.size := hbel.size
  have HB := Lib.hid (HB.out.trans (hbel.mono (by omega)))
  have Ow0 := Lib.hid (show OwI w3 w.heap.size (.slice wA0 U0.length wc0) U0 from OwI.below Ow0.out hbel)
  have Og0 := Lib.hid (show OwI w3 w1.heap.size (.slice gA0 U0.length gc0) U0 from OwI.below Og0.out hbel)
  clear hbel
  go_wp2_with fail
  go_at_call 11
  refine (markIntS_any (w1.heap.size) gA0 gc0 U0 (1) w3 (by omega) (by omega) (by omega) Og0.out).mono ?_
  rintro e w4 ⟨rfl, hmk, hg⟩
  have hwn : Win w1.heap.size w2.heap.size w3 w4 := Win.of_grown hg (by omega) (fun k hk => ⟨(own_block Og0.out k hk).1, Ug0.out k hk⟩)
  clear hg
  have Mg0 := Lib.hid hmk
  clear hmk
  have hsw4 : w3.heap.size ≤ w4.heap.size := hwn.1.size
  have HB := Lib.hid (HB.out.trans (hwn.1.mono (by omega)))
  have Ow0 := Lib.hid (show OwI w4 w.heap.size (.slice wA0 U0.length wc0) U0 from own_win_lo Ow0.out hwn (fun k hk => Nat.lt_of_lt_of_le (Uw0.out k hk) (by omega)))
  clear hwn
  have hkm1 : ¬ (1 + (U0.length : Int) < 0) := by omega
  have HM := Lib.hid (own_rd_marks Mg0.out)
  have HBM := Lib.hid (Below.refl w4.heap.size w4)
  go_wp2_with fail
  go_at_call 12
  refine (heldIntS_any w4.heap.size gA0 gc0 U0.length 1 w4 (by omega) (by omega) (by omega) (HM.out.below HBM.out)).mono ?_
  rintro e w900 ⟨rfl, rfl⟩
  go_wp2_with fail
  go_at_call 10
  refine (HIMPL.out w4 (HT.out.on HB.out)).mono ?_
  rintro e w5 ⟨hA0, hc0, rfl, hown0, hbel⟩
  have Oh0' := Lib.hid hown0
  clear hown0
  have hsw5 : w4.heap.size ≤ w5.heap.size := hbel.size
  have HB := Lib.hid (HB.out.trans (hbel.mono (by omega)))
  have Ow0 := Lib.hid (show OwI w5 w.heap.size (.slice wA0 U0.length wc0) U0 from OwI.below Ow0.out hbel)
  have HBM := Lib.hid (HBM.out.trans (hbel.mono (by omega)))
  clear hbel
  have Oh0 := Lib.hid (show OwI w5 w4.heap.size (.slice hA0 U0.length hc0) U0 from Oh0'.out)
  have Uh0 := Lib.hid (show ∀ k, (Value.slice hA0 U0.length hc0).ownBlock = some k → k < w5.heap.size from fun k hk => (own_block Oh0.out k hk).2)
  clear Oh0'
  go_wp2_with fail
  go_at_call 8
  have hE := eqIntS_any w5.heap.size w5.heap.size hA0 wA0 hc0 wc0 U0 U0 w5 (by omega) (by omega) (Oh0.out).rd (Ow0.out).rd
  rw [eqI_refl] at hE
  refine hE.mono ?_
  rintro e w6 ⟨rfl, hdr⟩
  clear hE
  have hbel := hdr.below w5.heap.size
  clear hdr
  have hsw6 : w5.heap.size ≤ w6.heap.size := hbel.size
  have HB := Lib.hid (HB.out.trans (hbel.mono (by omega)))
  have Ow0 := Lib.hid (show OwI w6 w.heap.size (.slice wA0 U0.length wc0) U0 from OwI.below Ow0.out hbel)
  have Oh0 := Lib.hid (show OwI w6 w4.heap.size (.slice hA0 U0.length hc0) U0 from OwI.below Oh0.out hbel)
  have HBM := Lib.hid (HBM.out.trans (hbel.mono (by omega)))
  clear hbel
  go_wp2_with fail
  go_at_call 12
  refine (heldIntS_any w4.heap.size gA0 gc0 U0.length 1 w6 (by omega) (by omega) (by omega) (HM.out.below HBM.out)).mono ?_
  rintro e w900 ⟨rfl, rfl⟩
  go_wp2
  go_ret
  exact ⟨rfl, HB.out⟩

end Go.Proofs.YtbohakifjmdoiabDoor
