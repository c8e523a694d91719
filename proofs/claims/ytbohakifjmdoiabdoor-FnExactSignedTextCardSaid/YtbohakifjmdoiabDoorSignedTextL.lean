/- The walk of the law FnExactSignedText. -/
import Derived.Test.YtbohakifjmdoiabDoorGa6
import Derived.Test.YtbohakifjmdoiabDoorGa6
import Derived.Test.YtbohakifjmdoiabDoorN9z
namespace Go.Proofs.YtbohakifjmdoiabDoor
open Go.ChangeShapes Go.WideShapes Go.ChangeAt Go.RowKit Go.Deep Go.Joins

set_option maxRecDepth 100000 in
set_option maxHeartbeats 8000000 in
theorem lawSignedText (A0 : Option Addr) (c0 : Nat) (l0 : List Int) (w : World) (hT : LtT w) (hn0 : l0.length ≤ 9223372036854775807) (hr0 : Rd w w.heap.size 1 A0 l0.length (l0.map I)) :
    Calls Tryd.prog 3 #[.slice A0 l0.length c0] w fun e w' => e = .returned (.bool true) ∧ Below w.heap.size w w' := by
  have H0 := Lib.hid hr0
  have HT := Lib.hid hT
  clear hr0 hT
  by_cases hbig0 : 1048576 < l0.length
  · have ibig : (1048576 : Int) < (l0.length : Int) := by omega
    go_enter Tryd.func3, Tryd.ntmps3
    go_wp2
    go_ret
    exact ⟨rfl, Below.refl _ _⟩
  have hl0 : l0.length ≤ 1048576 := by omega
  have il0 : ¬ (1048576 : Int) < (l0.length : Int) := by omega
  clear hbig0
  go_enter Tryd.func3, Tryd.ntmps3
  obtain ⟨U0, hU0⟩ : ∃ gx, stR l0 = gx := ⟨_, rfl⟩
  obtain ⟨U1, hU1⟩ : ∃ gx, isD l0 = gx := ⟨_, rfl⟩
  have hspec := fun (W : World) A0' c0' => specSignedText_any (World.heap W).size A0' c0' l0 W (Nat.le_refl _) hl0
  have himpl := fun (W : World) A0' c0' => implSignedText_any (World.heap W).size A0' c0' l0 W (Nat.le_refl _) hl0
  rw [hU0, hU1] at hspec himpl
  have HSPEC := Lib.hid hspec
  have HIMPL := Lib.hid himpl
  clear hU0 hU1 hspec himpl
  go_wp2_with fail
  go_at_call 6
  refine (toIntS_any w.heap.size A0 c0 l0 w hl0 (by omega) H0.out).mono ?_
  rintro e w1 ⟨sA0, sc0, rfl, hown, hbel⟩
  have Os0' := Lib.hid hown
  clear hown
  have hsw1 : w.heap.size ≤ w1.heap.size := hbel.size
  have HB := Lib.hid hbel
  clear hbel
  have Os0 := Lib.hid (show OwI w1 w.heap.size (.slice sA0 l0.length sc0) l0 from Os0'.out)
  have Us0 := Lib.hid (show ∀ k, (Value.slice sA0 l0.length sc0).ownBlock = some k → k < w1.heap.size from fun k hk => (own_block Os0.out k hk).2)
  clear Os0'
  go_wp2_with fail
  go_at_call 5
  refine (HSPEC.out w1 sA0 sc0 (Os0.out).cap (Os0.out).rd).mono ?_
  rintro e w2 ⟨rfl, hbel⟩
  have hsw2 : w1.heap.size ≤ w2.heap.size := hbel.size
  have HB := Lib.hid (HB.out.trans (hbel.mono (by omega)))
  have Os0 := Lib.hid (show OwI w2 w.heap.size (.slice sA0 l0.length sc0) l0 from OwI.below Os0.out hbel)
  clear hbel
  go_wp2_with fail
  go_at_call 6
  refine (toIntS_any w.heap.size A0 c0 l0 w2 hl0 (by omega) (H0.out.below HB.out)).mono ?_
  rintro e w3 ⟨xA0, xc0, rfl, hown, hbel⟩
  have Ox0' := Lib.hid hown
  clear hown
  have hsw3 : w2.heap.size ≤ w3.heap.size := hbel.size
  have HB := Lib.hid (HB.out.trans (hbel.mono (by omega)))
  clear hbel
  have Ox0 := Lib.hid (show OwI w3 w2.heap.size (.slice xA0 l0.length xc0) l0 from Ox0'.out)
  have Ux0 := Lib.hid (show ∀ k, (Value.slice xA0 l0.length xc0).ownBlock = some k → k < w3.heap.size from fun k hk => (own_block Ox0.out k hk).2)
  clear Ox0'
  go_wp2_with fail
  go_at_call 7
  refine (HIMPL.out w3 xA0 xc0 (Ox0.out).cap (Ox0.out).rd (HT.out.on HB.out)).mono ?_
  rintro e w4 ⟨rfl, hbel⟩
  have hsw4 : w3.heap.size ≤ w4.heap.size := hbel.size
  have HB := Lib.hid (HB.out.trans (hbel.mono (by omega)))
  have Ox0 := Lib.hid (show OwI w4 w2.heap.size (.slice xA0 l0.length xc0) l0 from OwI.below Ox0.out hbel)
  clear hbel
  go_wp2_with fail
  go_at_call 6
  refine (toIntS_any w.heap.size A0 c0 l0 w4 hl0 (by omega) (H0.out.below HB.out)).mono ?_
  rintro e w5 ⟨yA0, yc0, rfl, hown, hbel⟩
  have Oy0' := Lib.hid hown
  clear hown
  have hsw5 : w4.heap.size ≤ w5.heap.size := hbel.size
  have HB := Lib.hid (HB.out.trans (hbel.mono (by omega)))
  have Ox0 := Lib.hid (show OwI w5 w2.heap.size (.slice xA0 l0.length xc0) l0 from OwI.below Ox0.out hbel)
  clear hbel
  have Oy0 := Lib.hid (show OwI w5 w4.heap.size (.slice yA0 l0.length yc0) l0 from Oy0'.out)
  have Uy0 := Lib.hid (show ∀ k, (Value.slice yA0 l0.length yc0).ownBlock = some k → k < w5.heap.size from fun k hk => (own_block Oy0.out k hk).2)
  clear Oy0'
  go_wp2_with fail
  go_at_call 8
  have hE := eqIntS_any w5.heap.size w5.heap.size xA0 yA0 xc0 yc0 l0 l0 w5 (by omega) (by omega) (Ox0.out).rd (Oy0.out).rd
  rw [eqI_refl] at hE
  refine hE.mono ?_
  rintro e w6 ⟨rfl, hdr⟩
  clear hE
  have hbel := hdr.below w5.heap.size
  clear hdr
  have hsw6 : w5.heap.size ≤ w6.heap.size := hbel.size
  have HB := Lib.hid (HB.out.trans (hbel.mono (by omega)))
  have Ox0 := Lib.hid (show OwI w6 w2.heap.size (.slice xA0 l0.length xc0) l0 from OwI.below Ox0.out hbel)
  have Oy0 := Lib.hid (show OwI w6 w4.heap.size (.slice yA0 l0.length yc0) l0 from OwI.below Oy0.out hbel)
  clear hbel
  go_wp2
  go_ret
  exact ⟨rfl, HB.out⟩

end Go.Proofs.YtbohakifjmdoiabDoor
