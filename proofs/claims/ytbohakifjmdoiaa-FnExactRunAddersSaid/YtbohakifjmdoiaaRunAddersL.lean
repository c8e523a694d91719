/- The walk of the law FnExactRunAdders. -/
import Derived.Test.YtbohakifjmdoiaaGa6
import Derived.Test.YtbohakifjmdoiaaN9h
import Derived.Test.YtbohakifjmdoiaaGa6
import Derived.Test.YtbohakifjmdoiaaN9k
namespace Go.Proofs.Ytbohakifjmdoiaa
open Go.ChangeShapes Go.WideShapes Go.ChangeAt Go.RowKit Go.Deep Go.Joins

set_option maxRecDepth 100000 in
set_option maxHeartbeats 8000000 in
theorem lawRunAdders (A0 : Option Addr) (c0 : Nat) (ad0 : List Ad) (x1 : Int) (w : World) (hn0 : ad0.length ≤ 9223372036854775807) (hr0 : RdA w w.heap.size A0 ad0) :
    Calls Try.prog 13 #[.slice A0 ad0.length c0, .int .i64 x1] w fun e w' => e = .returned (.bool true) ∧ Below w.heap.size w w' := by
  have H0 := Lib.hid hr0
  clear hr0
  obtain ⟨sz0, hsz0⟩ : ∃ qx, szR 1048576 ad0.length = qx := ⟨_, rfl⟩
  have hsc0 := fun W => szAdderS9 A0 c0 ad0 1048576 W (by omega) (by omega) hn0
  rw [hsz0] at hsc0
  have SZ0 := Lib.hid hsc0
  have SX0 := Lib.hid hsz0
  clear hsz0 hsc0
  go_enter Try.func13, Try.ntmps13
  go_wp2_with fail
  go_at_call 38
  refine (SZ0.out _).mono ?_
  rintro e w1 ⟨rfl, hbel⟩
  have hsw1 : w.heap.size ≤ w1.heap.size := hbel.size
  have HB := Lib.hid hbel
  clear hbel
  by_cases hneg0 : sz0 < 0
  · go_wp2
    go_ret
    exact ⟨rfl, HB.out⟩
  have hl0 := szR_ok9 (n := ad0.length) (left := 1048576) (by omega) (by rw [SX0.out]; exact hneg0)
  obtain ⟨U0, hU0⟩ : ∃ gx, raR ad0 x1 = gx := ⟨_, rfl⟩
  have hUl0 : U0.length ≤ 1000 := by rw [← hU0]; exact raR_len _ _
  obtain ⟨U1, hU1⟩ : ∃ gx, raB ad0 x1 = gx := ⟨_, rfl⟩
  have hspec := fun (W : World) A0' c0' => specRunAdders_any (World.heap W).size A0' c0' ad0 x1 W (Nat.le_refl _) hl0
  have himpl := fun (W : World) A0' c0' => implRunAdders_any (World.heap W).size A0' c0' ad0 x1 W (Nat.le_refl _) hl0
  rw [hU0, hU1] at hspec himpl
  have HSPEC := Lib.hid hspec
  have HIMPL := Lib.hid himpl
  clear hU0 hU1 hspec himpl
  go_wp2_with fail
  go_at_call 40
  refine (toAdderS_any w.heap.size A0 c0 ad0 w1 hl0 (by omega) (H0.out.below HB.out)).mono ?_
  rintro e w2 ⟨sA0, sc0, rfl, hown, hbel⟩
  have Os0' := Lib.hid hown
  clear hown
  have hsw2 : w1.heap.size ≤ w2.heap.size := hbel.size
  have HB := Lib.hid (HB.out.trans (hbel.mono (by omega)))
  clear hbel
  have Os0 := Lib.hid (show OwA w2 w1.heap.size sA0 sc0 ad0 from Os0'.out)
  have Us0 := Lib.hid (show ∀ k, (Value.slice sA0 ad0.length sc0).ownBlock = some k → k < w2.heap.size from fun k hk => (own_block Os0.out k hk).2)
  clear Os0'
  go_wp2_with fail
  go_at_call 43
  refine (HSPEC.out w2 sA0 sc0 (Os0.out).cap (Os0.out).rd).mono ?_
  rintro e w3 ⟨wA0, wc0, rfl, hown0, hbel⟩
  have Ow0' := Lib.hid hown0
  clear hown0
  have hsw3 : w2.heap.size ≤ w3.heap.size := hbel.size
  have HB := Lib.hid (HB.out.trans (hbel.mono (by omega)))
  have Os0 := Lib.hid (show OwA w3 w1.heap.size sA0 sc0 ad0 from OwA.below Os0.out hbel)
  clear hbel
  have Ow0 := Lib.hid (show OwI w3 w2.heap.size (.slice wA0 U0.length wc0) U0 from Ow0'.out)
  have Uw0 := Lib.hid (show ∀ k, (Value.slice wA0 U0.length wc0).ownBlock = some k → k < w3.heap.size from fun k hk => (own_block Ow0.out k hk).2)
  clear Ow0'
  go_wp2_with fail
  go_at_call 40
  refine (toAdderS_any w.heap.size A0 c0 ad0 w3 hl0 (by omega) (H0.out.below HB.out)).mono ?_
  rintro e w4 ⟨xA0, xc0, rfl, hown, hbel⟩
  have Ox0' := Lib.hid hown
  clear hown
  have hsw4 : w3.heap.size ≤ w4.heap.size := hbel.size
  have HB := Lib.hid (HB.out.trans (hbel.mono (by omega)))
  have Ow0 := Lib.hid (show OwI w4 w2.heap.size (.slice wA0 U0.length wc0) U0 from OwI.below Ow0.out hbel)
  clear hbel
  have Ox0 := Lib.hid (show OwA w4 w3.heap.size xA0 xc0 ad0 from Ox0'.out)
  have Ux0 := Lib.hid (show ∀ k, (Value.slice xA0 ad0.length xc0).ownBlock = some k → k < w4.heap.size from fun k hk => (own_block Ox0.out k hk).2)
  clear Ox0'
  go_wp2_with fail
  go_at_call 44
  refine (HIMPL.out w4 xA0 xc0 (Ox0.out).cap (Ox0.out).rd).mono ?_
  rintro e w5 ⟨gA0, gc0, rfl, hown0, hbel⟩
  have Og0' := Lib.hid hown0
  clear hown0
  have hsw5 : w4.heap.size ≤ w5.heap.size := hbel.size
  have HB := Lib.hid (HB.out.trans (hbel.mono (by omega)))
  have Ow0 := Lib.hid (show OwI w5 w2.heap.size (.slice wA0 U0.length wc0) U0 from OwI.below Ow0.out hbel)
  have Ox0 := Lib.hid (show OwA w5 w3.heap.size xA0 xc0 ad0 from OwA.below Ox0.out hbel)
  clear hbel
  have Og0 := Lib.hid (show OwI w5 w4.heap.size (.slice gA0 U0.length gc0) U0 from Og0'.out)
  have Ug0 := Lib.hid (show ∀ k, (Value.slice gA0 U0.length gc0).ownBlock = some k → k < w5.heap.size from fun k hk => (own_block Og0.out k hk).2)
  clear Og0'
  go_wp2_with fail
  go_at_call 17
  have hE := eqIntS_any w5.heap.size w5.heap.size gA0 wA0 gc0 wc0 U0 U0 w5 (by omega) (by omega) (Og0.out).rd (Ow0.out).rd
  rw [eqI_refl] at hE
  refine hE.mono ?_
  rintro e w6 ⟨rfl, hdr⟩
  clear hE
  have hbel := hdr.below w5.heap.size
  clear hdr
  have hsw6 : w5.heap.size ≤ w6.heap.size := hbel.size
  have HB := Lib.hid (HB.out.trans (hbel.mono (by omega)))
  have Ow0 := Lib.hid (show OwI w6 w2.heap.size (.slice wA0 U0.length wc0) U0 from OwI.below Ow0.out hbel)
  have Ox0 := Lib.hid (show OwA w6 w3.heap.size xA0 xc0 ad0 from OwA.below Ox0.out hbel)
  have Og0 := Lib.hid (show OwI w6 w4.heap.size (.slice gA0 U0.length gc0) U0 from OwI.below Og0.out hbel)
  clear hbel
  go_wp2_with fail
  go_at_call 40
  refine (toAdderS_any w.heap.size A0 c0 ad0 w6 hl0 (by omega) (H0.out.below HB.out)).mono ?_
  rintro e w7 ⟨yA0, yc0, rfl, hown, hbel⟩
  have Oy0' := Lib.hid hown
  clear hown
  have hsw7 : w6.heap.size ≤ w7.heap.size := hbel.size
  have HB := Lib.hid (HB.out.trans (hbel.mono (by omega)))
  have Ow0 := Lib.hid (show OwI w7 w2.heap.size (.slice wA0 U0.length wc0) U0 from OwI.below Ow0.out hbel)
  have Ox0 := Lib.hid (show OwA w7 w3.heap.size xA0 xc0 ad0 from OwA.below Ox0.out hbel)
  have Og0 := Lib.hid (show OwI w7 w4.heap.size (.slice gA0 U0.length gc0) U0 from OwI.below Og0.out hbel)
  clear hbel
  have Oy0 := Lib.hid (show OwA w7 w6.heap.size yA0 yc0 ad0 from Oy0'.out)
  have Uy0 := Lib.hid (show ∀ k, (Value.slice yA0 ad0.length yc0).ownBlock = some k → k < w7.heap.size from fun k hk => (own_block Oy0.out k hk).2)
  clear Oy0'
  go_wp2_with fail
  go_at_call 42
  refine (eqAdderS_refl w7.heap.size w7.heap.size xA0 yA0 xc0 yc0 ad0 w7 (by omega) (Nat.le_refl _) (Nat.le_refl _) (Ox0.out).rd (Oy0.out).rd).mono ?_
  rintro e w8 ⟨rfl, hbel⟩
  have hsw8 : w7.heap.size ≤ w8.heap.size := hbel.size
  have HB := Lib.hid (HB.out.trans (hbel.mono (by omega)))
  have Ow0 := Lib.hid (show OwI w8 w2.heap.size (.slice wA0 U0.length wc0) U0 from OwI.below Ow0.out hbel)
  have Ox0 := Lib.hid (show OwA w8 w3.heap.size xA0 xc0 ad0 from OwA.below Ox0.out hbel)
  have Og0 := Lib.hid (show OwI w8 w4.heap.size (.slice gA0 U0.length gc0) U0 from OwI.below Og0.out hbel)
  have Oy0 := Lib.hid (show OwA w8 w6.heap.size yA0 yc0 ad0 from OwA.below Oy0.out hbel)
  clear hbel
  go_wp2_with fail
  go_at_call 45
  refine (markAdderS_any (w3.heap.size) xA0 xc0 ad0 (1) w8 (by omega) (by omega) (by omega) Ox0.out).mono ?_
  rintro e w9 ⟨rfl, hmk, hg⟩
  have hwn : Win w3.heap.size w4.heap.size w8 w9 := Win.of_grown hg (by omega) (fun k hk => ⟨(own_block Ox0.out k hk).1, Ux0.out k hk⟩)
  clear hg
  have Mx0 := Lib.hid hmk
  clear hmk
  have hsw9 : w8.heap.size ≤ w9.heap.size := hwn.1.size
  have HB := Lib.hid (HB.out.trans (hwn.1.mono (by omega)))
  have Ow0 := Lib.hid (show OwI w9 w2.heap.size (.slice wA0 U0.length wc0) U0 from own_win_lo Ow0.out hwn (fun k hk => Nat.lt_of_lt_of_le (Uw0.out k hk) (by omega)))
  have Og0 := Lib.hid (show OwI w9 w4.heap.size (.slice gA0 U0.length gc0) U0 from Win.own hwn Og0.out (by omega))
  clear hwn
  have hkk1 : ¬ (1 + 5 * (ad0.length : Int) < 0) := by omega
  go_wp2_with fail
  go_at_call 17
  have hE := eqIntS_any w9.heap.size w9.heap.size gA0 wA0 gc0 wc0 U0 U0 w9 (by omega) (by omega) (Og0.out).rd (Ow0.out).rd
  rw [eqI_refl] at hE
  refine hE.mono ?_
  rintro e w10 ⟨rfl, hdr⟩
  clear hE
  have hbel := hdr.below w9.heap.size
  clear hdr
  have hsw10 : w9.heap.size ≤ w10.heap.size := hbel.size
  have HB := Lib.hid (HB.out.trans (hbel.mono (by omega)))
  have Ow0 := Lib.hid (show OwI w10 w2.heap.size (.slice wA0 U0.length wc0) U0 from OwI.below Ow0.out hbel)
  have Og0 := Lib.hid (show OwI w10 w4.heap.size (.slice gA0 U0.length gc0) U0 from OwI.below Og0.out hbel)
  clear hbel
  go_wp2_with fail
  go_at_call 18
  refine (markIntS_any (w4.heap.size) gA0 gc0 U0 (1) w10 (by omega) (by omega) (by omega) Og0.out).mono ?_
  rintro e w11 ⟨rfl, hmk, hg⟩
  have hwn : Win w4.heap.size w5.heap.size w10 w11 := Win.of_grown hg (by omega) (fun k hk => ⟨(own_block Og0.out k hk).1, Ug0.out k hk⟩)
  clear hg
  have Mg0 := Lib.hid hmk
  clear hmk
  have hsw11 : w10.heap.size ≤ w11.heap.size := hwn.1.size
  have HB := Lib.hid (HB.out.trans (hwn.1.mono (by omega)))
  have Ow0 := Lib.hid (show OwI w11 w2.heap.size (.slice wA0 U0.length wc0) U0 from own_win_lo Ow0.out hwn (fun k hk => Nat.lt_of_lt_of_le (Uw0.out k hk) (by omega)))
  clear hwn
  have hkm1 : ¬ (1 + (U0.length : Int) < 0) := by omega
  have HM := Lib.hid (own_rd_marks Mg0.out)
  have HBM := Lib.hid (Below.refl w11.heap.size w11)
  go_wp2_with fail
  go_at_call 19
  refine (heldIntS_any w11.heap.size gA0 gc0 U0.length 1 w11 (by omega) (by omega) (by omega) (HM.out.below HBM.out)).mono ?_
  rintro e w900 ⟨rfl, rfl⟩
  go_wp2_with fail
  go_at_call 40
  refine (toAdderS_any w.heap.size A0 c0 ad0 w11 hl0 (by omega) (H0.out.below HB.out)).mono ?_
  rintro e w12 ⟨zA0, zc0, rfl, hown, hbel⟩
  have Oz0' := Lib.hid hown
  clear hown
  have hsw12 : w11.heap.size ≤ w12.heap.size := hbel.size
  have HB := Lib.hid (HB.out.trans (hbel.mono (by omega)))
  have Ow0 := Lib.hid (show OwI w12 w2.heap.size (.slice wA0 U0.length wc0) U0 from OwI.below Ow0.out hbel)
  have HBM := Lib.hid (HBM.out.trans (hbel.mono (by omega)))
  clear hbel
  have Oz0 := Lib.hid (show OwA w12 w11.heap.size zA0 zc0 ad0 from Oz0'.out)
  have Uz0 := Lib.hid (show ∀ k, (Value.slice zA0 ad0.length zc0).ownBlock = some k → k < w12.heap.size from fun k hk => (own_block Oz0.out k hk).2)
  clear Oz0'
  go_wp2_with fail
  go_at_call 44
  refine (HIMPL.out w12 zA0 zc0 (Oz0.out).cap (Oz0.out).rd).mono ?_
  rintro e w13 ⟨hA0, hc0, rfl, hown0, hbel⟩
  have Oh0' := Lib.hid hown0
  clear hown0
  have hsw13 : w12.heap.size ≤ w13.heap.size := hbel.size
  have HB := Lib.hid (HB.out.trans (hbel.mono (by omega)))
  have Ow0 := Lib.hid (show OwI w13 w2.heap.size (.slice wA0 U0.length wc0) U0 from OwI.below Ow0.out hbel)
  have Oz0 := Lib.hid (show OwA w13 w11.heap.size zA0 zc0 ad0 from OwA.below Oz0.out hbel)
  have HBM := Lib.hid (HBM.out.trans (hbel.mono (by omega)))
  clear hbel
  have Oh0 := Lib.hid (show OwI w13 w12.heap.size (.slice hA0 U0.length hc0) U0 from Oh0'.out)
  have Uh0 := Lib.hid (show ∀ k, (Value.slice hA0 U0.length hc0).ownBlock = some k → k < w13.heap.size from fun k hk => (own_block Oh0.out k hk).2)
  clear Oh0'
  go_wp2_with fail
  go_at_call 17
  have hE := eqIntS_any w13.heap.size w13.heap.size hA0 wA0 hc0 wc0 U0 U0 w13 (by omega) (by omega) (Oh0.out).rd (Ow0.out).rd
  rw [eqI_refl] at hE
  refine hE.mono ?_
  rintro e w14 ⟨rfl, hdr⟩
  clear hE
  have hbel := hdr.below w13.heap.size
  clear hdr
  have hsw14 : w13.heap.size ≤ w14.heap.size := hbel.size
  have HB := Lib.hid (HB.out.trans (hbel.mono (by omega)))
  have Ow0 := Lib.hid (show OwI w14 w2.heap.size (.slice wA0 U0.length wc0) U0 from OwI.below Ow0.out hbel)
  have Oz0 := Lib.hid (show OwA w14 w11.heap.size zA0 zc0 ad0 from OwA.below Oz0.out hbel)
  have Oh0 := Lib.hid (show OwI w14 w12.heap.size (.slice hA0 U0.length hc0) U0 from OwI.below Oh0.out hbel)
  have HBM := Lib.hid (HBM.out.trans (hbel.mono (by omega)))
  clear hbel
  go_wp2_with fail
  go_at_call 19
  refine (heldIntS_any w11.heap.size gA0 gc0 U0.length 1 w14 (by omega) (by omega) (by omega) (HM.out.below HBM.out)).mono ?_
  rintro e w900 ⟨rfl, rfl⟩
  go_wp2
  go_ret
  exact ⟨rfl, HB.out⟩

end Go.Proofs.Ytbohakifjmdoiaa
