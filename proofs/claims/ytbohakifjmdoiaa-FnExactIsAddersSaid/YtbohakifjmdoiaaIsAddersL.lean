/- The walk of the law FnExactIsAdders. -/
import Derived.Test.YtbohakifjmdoiaaGa6
import Derived.Test.YtbohakifjmdoiaaN9h
import Derived.Test.YtbohakifjmdoiaaGa6
import Derived.Test.YtbohakifjmdoiaaN9j
namespace Go.Proofs.Ytbohakifjmdoiaa
open Go.ChangeShapes Go.WideShapes Go.ChangeAt Go.RowKit Go.Deep Go.Joins

set_option maxRecDepth 100000 in
set_option maxHeartbeats 8000000 in
theorem lawIsAdders (A0 : Option Addr) (c0 : Nat) (ad0 : List Ad) (w : World) (hn0 : ad0.length ≤ 9223372036854775807) (hr0 : RdA w w.heap.size A0 ad0) :
    Calls Try.prog 12 #[.slice A0 ad0.length c0] w fun e w' => e = .returned (.bool true) ∧ Below w.heap.size w w' := by
  have H0 := Lib.hid hr0
  clear hr0
  obtain ⟨sz0, hsz0⟩ : ∃ qx, szR 1048576 ad0.length = qx := ⟨_, rfl⟩
  have hsc0 := fun W => szAdderS9 A0 c0 ad0 1048576 W (by omega) (by omega) hn0
  rw [hsz0] at hsc0
  have SZ0 := Lib.hid hsc0
  have SX0 := Lib.hid hsz0
  clear hsz0 hsc0
  go_enter Try.func12, Try.ntmps12
  go_wp2_with fail
  go_at_call 38
  refine (SZ0.out _).mono ?_
  rintro e w1 ⟨rfl, hbel⟩
  have hsw1 : w.heap.size ≤ w1.heap.size := hbel.size
  have HB := Lib.hid hbel
  clear hbel
  by_cases hneg0 : sz0 < 0
  · go_wp2
    go_ret
    exact ⟨rfl, HB.out⟩
  have hl0 := szR_ok9 (n := ad0.length) (left := 1048576) (by omega) (by rw [SX0.out]; exact hneg0)
  obtain ⟨U0, hU0⟩ : ∃ gx, adOk ad0 = gx := ⟨_, rfl⟩
  have hspec := fun (W : World) A0' c0' => specIsAdders_any (World.heap W).size A0' c0' ad0 W (Nat.le_refl _) hl0
  have himpl := fun (W : World) A0' c0' => implIsAdders_any (World.heap W).size A0' c0' ad0 W (Nat.le_refl _) hl0
  rw [hU0] at hspec himpl
  have HSPEC := Lib.hid hspec
  have HIMPL := Lib.hid himpl
  clear hU0 hspec himpl
  go_wp2_with fail
  go_at_call 40
  refine (toAdderS_any w.heap.size A0 c0 ad0 w1 hl0 (by omega) (H0.out.below HB.out)).mono ?_
  rintro e w2 ⟨sA0, sc0, rfl, hown, hbel⟩
  have Os0' := Lib.hid hown
  clear hown
  have hsw2 : w1.heap.size ≤ w2.heap.size := hbel.size
  have HB := Lib.hid (HB.out.trans (hbel.mono (by omega)))
  clear hbel
  have Os0 := Lib.hid (show OwA w2 w1.heap.size sA0 sc0 ad0 from Os0'.out)
  have Us0 := Lib.hid (show ∀ k, (Value.slice sA0 ad0.length sc0).ownBlock = some k → k < w2.heap.size from fun k hk => (own_block Os0.out k hk).2)
  clear Os0'
  go_wp2_with fail
  go_at_call 39
  refine (HSPEC.out w2 sA0 sc0 (Os0.out).cap (Os0.out).rd).mono ?_
  rintro e w3 ⟨rfl, hbel⟩
  have hsw3 : w2.heap.size ≤ w3.heap.size := hbel.size
  have HB := Lib.hid (HB.out.trans (hbel.mono (by omega)))
  have Os0 := Lib.hid (show OwA w3 w1.heap.size sA0 sc0 ad0 from OwA.below Os0.out hbel)
  clear hbel
  go_wp2_with fail
  go_at_call 40
  refine (toAdderS_any w.heap.size A0 c0 ad0 w3 hl0 (by omega) (H0.out.below HB.out)).mono ?_
  rintro e w4 ⟨xA0, xc0, rfl, hown, hbel⟩
  have Ox0' := Lib.hid hown
  clear hown
  have hsw4 : w3.heap.size ≤ w4.heap.size := hbel.size
  have HB := Lib.hid (HB.out.trans (hbel.mono (by omega)))
  clear hbel
  have Ox0 := Lib.hid (show OwA w4 w3.heap.size xA0 xc0 ad0 from Ox0'.out)
  have Ux0 := Lib.hid (show ∀ k, (Value.slice xA0 ad0.length xc0).ownBlock = some k → k < w4.heap.size from fun k hk => (own_block Ox0.out k hk).2)
  clear Ox0'
  go_wp2_with fail
  go_at_call 41
  refine (HIMPL.out w4 xA0 xc0 (Ox0.out).cap (Ox0.out).rd).mono ?_
  rintro e w5 ⟨rfl, hbel⟩
  have hsw5 : w4.heap.size ≤ w5.heap.size := hbel.size
  have HB := Lib.hid (HB.out.trans (hbel.mono (by omega)))
  have Ox0 := Lib.hid (show OwA w5 w3.heap.size xA0 xc0 ad0 from OwA.below Ox0.out hbel)
  clear hbel
  go_wp2_with fail
  go_at_call 40
  refine (toAdderS_any w.heap.size A0 c0 ad0 w5 hl0 (by omega) (H0.out.below HB.out)).mono ?_
  rintro e w6 ⟨yA0, yc0, rfl, hown, hbel⟩
  have Oy0' := Lib.hid hown
  clear hown
  have hsw6 : w5.heap.size ≤ w6.heap.size := hbel.size
  have HB := Lib.hid (HB.out.trans (hbel.mono (by omega)))
  have Ox0 := Lib.hid (show OwA w6 w3.heap.size xA0 xc0 ad0 from OwA.below Ox0.out hbel)
  clear hbel
  have Oy0 := Lib.hid (show OwA w6 w5.heap.size yA0 yc0 ad0 from Oy0'.out)
  have Uy0 := Lib.hid (show ∀ k, (Value.slice yA0 ad0.length yc0).ownBlock = some k → k < w6.heap.size from fun k hk => (own_block Oy0.out k hk).2)
  clear Oy0'
  go_wp2_with fail
  go_at_call 42
  refine (eqAdderS_refl w6.heap.size w6.heap.size xA0 yA0 xc0 yc0 ad0 w6 (by omega) (Nat.le_refl _) (Nat.le_refl _) (Ox0.out).rd (Oy0.out).rd).mono ?_
  rintro e w7 ⟨rfl, hbel⟩
  have hsw7 : w6.heap.size ≤ w7.heap.size := hbel.size
  have HB := Lib.hid (HB.out.trans (hbel.mono (by omega)))
  have Ox0 := Lib.hid (show OwA w7 w3.heap.size xA0 xc0 ad0 from OwA.below Ox0.out hbel)
  have Oy0 := Lib.hid (show OwA w7 w5.heap.size yA0 yc0 ad0 from OwA.below Oy0.out hbel)
  clear hbel
  go_wp2
  go_ret
  exact ⟨rfl, HB.out⟩

end Go.Proofs.Ytbohakifjmdoiaa
