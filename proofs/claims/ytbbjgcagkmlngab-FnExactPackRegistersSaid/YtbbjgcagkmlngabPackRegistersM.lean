/- The law FnExactPackRegisters holds: for every argument, valid or not, PackRegisters of the program answers as PackRegisters of the model, writes into no argument, and its answer owns its memory. No condition. -/
import Derived.Test.YtbbjgcagkmlngabPP0
import Derived.Test.YtbbjgcagkmlngabPP1
import Derived.Test.YtbbjgcagkmlngabPP4
namespace Go.Proofs.Ytbbjgcagkmlngab
open Go.ChangeShapes Go.WideShapes Go.ChangeAt Go.RowKit Go.Deep Go.Joins

set_option maxRecDepth 100000 in
set_option maxHeartbeats 8000000 in
theorem lawPackRegisters (A0 : Option Addr) (B0 : Option Addr) (G0 : Option Addr) (c0 : Nat) (d0 : Nat) (g0 : Nat) (q0 : Rc) (w : World) (hn0 : q0.i.length ≤ 9223372036854775807) (hm0 : q0.ops.length ≤ 9223372036854775807) (ho0 : q0.o.length ≤ 9223372036854775807) (hr0 : RdC w w.heap.size A0 B0 G0 q0) :
    Calls Try.prog 3 #[.agg #[.int .i64 q0.r, .slice A0 q0.i.length c0, .slice B0 q0.ops.length d0, .slice G0 q0.o.length g0]] w fun e w' => e = .returned (.bool true) ∧ Below w.heap.size w w' := by
  have H0 := Lib.hid hr0
  clear hr0
  obtain ⟨sz0, hsz0⟩ : ∃ qx, szRc q0 1048576 = qx := ⟨_, rfl⟩
  have hsc0 := fun W => szRegCode_any A0 B0 G0 c0 d0 g0 q0 1048576 W (by omega) (by omega) hn0 hm0 ho0
  rw [hsz0] at hsc0
  have SZ0 := Lib.hid hsc0
  have SX0 := Lib.hid hsz0
  clear hsz0 hsc0
  go_enter Try.func3, Try.ntmps3
  go_wp2_with fail
  go_at_call 15
  generalize hww1 : World.alloc w _ = w1
  obtain ⟨x0', x1', x2', x3', hxw1, hbx⟩ := bx4 hww1
  clear hww1
  have hxP := hxw1
  have hsw1 : w.heap.size ≤ w1.heap.size := hbx.size
  have HB := Lib.hid hbx
  clear hbx
  have Ca0_0 := Lib.hid x0'
  have Ca0_1 := Lib.hid x1'
  have Ca0_2 := Lib.hid x2'
  have Ca0_3 := Lib.hid x3'
  clear x0' x1' x2' x3'
  refine (SZ0.out _).mono ?_
  rintro e w2 ⟨rfl, hbel⟩
  have hsw2 : w1.heap.size ≤ w2.heap.size := hbel.size
  have HB := Lib.hid (HB.out.trans (hbel.mono (by omega)))
  have Ca0_0 := Lib.hid ((hbel.cell (p := ⟨w.heap.size, 0, none⟩) (by simp only []; omega)).trans Ca0_0.out)
  have Ca0_1 := Lib.hid ((hbel.cell (p := ⟨w.heap.size, 1, none⟩) (by simp only []; omega)).trans Ca0_1.out)
  have Ca0_2 := Lib.hid ((hbel.cell (p := ⟨w.heap.size, 2, none⟩) (by simp only []; omega)).trans Ca0_2.out)
  have Ca0_3 := Lib.hid ((hbel.cell (p := ⟨w.heap.size, 3, none⟩) (by simp only []; omega)).trans Ca0_3.out)
  clear hbel
  by_cases hneg0 : sz0 < 0
  · go_wp2
    go_ret
    exact ⟨rfl, HB.out⟩
  obtain ⟨hli0, hlp0, hlo0⟩ := szRc_ok (c := q0) (left := 1048576) (by omega) (by rw [SX0.out]; exact hneg0)
  obtain ⟨U0, hU0⟩ : ∃ gx, pkC q0 = gx := ⟨_, rfl⟩
  have hUl0 : U0.i.length ≤ 1000 ∧ U0.ops.length ≤ 1000 ∧ U0.o.length ≤ 1000 := by rw [← hU0]; exact pk_len q0
  obtain ⟨hUi0, hUp0, hUo0⟩ := hUl0
  obtain ⟨U1, hU1⟩ : ∃ gx, rcB q0 = gx := ⟨_, rfl⟩
  have hspec := fun (W : World) A0' B0' G0' c0' d0' g0' => specPack_any (World.heap W).size A0' B0' G0' c0' d0' g0' q0 W (Nat.le_refl _) hli0 hlp0 hlo0
  have himpl := fun (W : World) A0' B0' G0' c0' d0' g0' => implPack_any (World.heap W).size A0' B0' G0' c0' d0' g0' q0 W (Nat.le_refl _) hli0 hlp0 hlo0
  rw [hU0, hU1] at hspec himpl
  have HSPEC := Lib.hid hspec
  have HIMPL := Lib.hid himpl
  clear hU0 hU1 hspec himpl
  have v1 := Ca0_0.out
  have v2 := Ca0_1.out
  have v3 := Ca0_2.out
  have v4 := Ca0_3.out
  go_wp2_with fail
  go_at_call 17
  clear v1 v2 v3 v4
  refine (toRegCode_any w.heap.size A0 B0 G0 c0 d0 g0 q0 w2 hli0 hlp0 hlo0 (by omega) (H0.out.below HB.out)).mono ?_
  rintro e w3 ⟨sA0, sB0, sG0, sc0, sd0, sg0, rfl, hown, hbel⟩
  have Os0' := Lib.hid hown
  clear hown
  have hsw3 : w2.heap.size ≤ w3.heap.size := hbel.size
  have HB := Lib.hid (HB.out.trans (hbel.mono (by omega)))
  have Ca0_0 := Lib.hid ((hbel.cell (p := ⟨w.heap.size, 0, none⟩) (by simp only []; omega)).trans Ca0_0.out)
  have Ca0_1 := Lib.hid ((hbel.cell (p := ⟨w.heap.size, 1, none⟩) (by simp only []; omega)).trans Ca0_1.out)
  have Ca0_2 := Lib.hid ((hbel.cell (p := ⟨w.heap.size, 2, none⟩) (by simp only []; omega)).trans Ca0_2.out)
  have Ca0_3 := Lib.hid ((hbel.cell (p := ⟨w.heap.size, 3, none⟩) (by simp only []; omega)).trans Ca0_3.out)
  clear hbel
  have Os0 := Lib.hid (show OwC w3 w2.heap.size sA0 sB0 sG0 sc0 sd0 sg0 q0 from Os0'.out)
  have Us0 := Lib.hid (show (∀ k, (Value.slice sA0 q0.i.length sc0).ownBlock = some k → k < w3.heap.size) ∧ (∀ k, (Value.slice sB0 q0.ops.length sd0).ownBlock = some k → k < w3.heap.size) ∧ (∀ k, (Value.slice sG0 q0.o.length sg0).ownBlock = some k → k < w3.heap.size) from ⟨fun k hk => (own_block (Os0.out).1 k hk).2, fun k hk => (own_block (Os0.out).2.1 k hk).2, fun k hk => (own_block (Os0.out).2.2.1 k hk).2⟩)
  clear Os0'
  go_wp2_with fail
  go_at_call 16
  refine (HSPEC.out w3 sA0 sB0 sG0 sc0 sd0 sg0 (Os0.out).cap (Os0.out).rd).mono ?_
  rintro e w4 ⟨wA0, wB0, wG0, wc0, wd0, wg0, rfl, hown0, hbel⟩
  have Ow0' := Lib.hid hown0
  clear hown0
  have hsw4 : w3.heap.size ≤ w4.heap.size := hbel.size
  have HB := Lib.hid (HB.out.trans (hbel.mono (by omega)))
  have Ca0_0 := Lib.hid ((hbel.cell (p := ⟨w.heap.size, 0, none⟩) (by simp only []; omega)).trans Ca0_0.out)
  have Ca0_1 := Lib.hid ((hbel.cell (p := ⟨w.heap.size, 1, none⟩) (by simp only []; omega)).trans Ca0_1.out)
  have Ca0_2 := Lib.hid ((hbel.cell (p := ⟨w.heap.size, 2, none⟩) (by simp only []; omega)).trans Ca0_2.out)
  have Ca0_3 := Lib.hid ((hbel.cell (p := ⟨w.heap.size, 3, none⟩) (by simp only []; omega)).trans Ca0_3.out)
  have Os0 := Lib.hid (show OwC w4 w2.heap.size sA0 sB0 sG0 sc0 sd0 sg0 q0 from OwC.below Os0.out hbel)
  clear hbel
  have Ow0 := Lib.hid (show OwC w4 w3.heap.size wA0 wB0 wG0 wc0 wd0 wg0 U0 from Ow0'.out)
  have Uw0 := Lib.hid (show (∀ k, (Value.slice wA0 U0.i.length wc0).ownBlock = some k → k < w4.heap.size) ∧ (∀ k, (Value.slice wB0 U0.ops.length wd0).ownBlock = some k → k < w4.heap.size) ∧ (∀ k, (Value.slice wG0 U0.o.length wg0).ownBlock = some k → k < w4.heap.size) from ⟨fun k hk => (own_block (Ow0.out).1 k hk).2, fun k hk => (own_block (Ow0.out).2.1 k hk).2, fun k hk => (own_block (Ow0.out).2.2.1 k hk).2⟩)
  clear Ow0'
  have v5 := cell_kept Ca0_0.out
  have v6 := cell_kept Ca0_1.out
  have v7 := cell_kept Ca0_2.out
  have v8 := cell_kept Ca0_3.out
  go_wp2_with fail
  go_at_call 17
  clear v5 v6 v7 v8
  generalize hww5 : World.alloc w4 _ = w5
  obtain ⟨x0', x1', x2', x3', hxw5, hbx⟩ := bx4 hww5
  clear hww5
  have hxP := hxw5
  have hsw5 : w4.heap.size ≤ w5.heap.size := hbx.size
  have HB := Lib.hid (HB.out.trans (hbx.mono (by omega)))
  have Ca0_0 := Lib.hid ((hbx.cell (p := ⟨w.heap.size, 0, none⟩) (by simp only []; omega)).trans Ca0_0.out)
  have Ca0_1 := Lib.hid ((hbx.cell (p := ⟨w.heap.size, 1, none⟩) (by simp only []; omega)).trans Ca0_1.out)
  have Ca0_2 := Lib.hid ((hbx.cell (p := ⟨w.heap.size, 2, none⟩) (by simp only []; omega)).trans Ca0_2.out)
  have Ca0_3 := Lib.hid ((hbx.cell (p := ⟨w.heap.size, 3, none⟩) (by simp only []; omega)).trans Ca0_3.out)
  have Ow0 := Lib.hid (show OwC w5 w3.heap.size wA0 wB0 wG0 wc0 wd0 wg0 U0 from OwC.below Ow0.out hbx)
  clear hbx
  have Cw0_0 := Lib.hid x0'
  have Cw0_1 := Lib.hid x1'
  have Cw0_2 := Lib.hid x2'
  have Cw0_3 := Lib.hid x3'
  clear x0' x1' x2' x3'
  refine (toRegCode_any w.heap.size A0 B0 G0 c0 d0 g0 q0 w5 hli0 hlp0 hlo0 (by omega) (H0.out.below HB.out)).mono ?_
  rintro e w6 ⟨xA0, xB0, xG0, xc0, xd0, xg0, rfl, hown, hbel⟩
  have Ox0' := Lib.hid hown
  clear hown
  have hsw6 : w5.heap.size ≤ w6.heap.size := hbel.size
  have HB := Lib.hid (HB.out.trans (hbel.mono (by omega)))
  have Ca0_0 := Lib.hid ((hbel.cell (p := ⟨w.heap.size, 0, none⟩) (by simp only []; omega)).trans Ca0_0.out)
  have Ca0_1 := Lib.hid ((hbel.cell (p := ⟨w.heap.size, 1, none⟩) (by simp only []; omega)).trans Ca0_1.out)
  have Ca0_2 := Lib.hid ((hbel.cell (p := ⟨w.heap.size, 2, none⟩) (by simp only []; omega)).trans Ca0_2.out)
  have Ca0_3 := Lib.hid ((hbel.cell (p := ⟨w.heap.size, 3, none⟩) (by simp only []; omega)).trans Ca0_3.out)
  have Cw0_0 := Lib.hid ((hbel.cell (p := ⟨w4.heap.size, 0, none⟩) (by simp only []; omega)).trans Cw0_0.out)
  have Cw0_1 := Lib.hid ((hbel.cell (p := ⟨w4.heap.size, 1, none⟩) (by simp only []; omega)).trans Cw0_1.out)
  have Cw0_2 := Lib.hid ((hbel.cell (p := ⟨w4.heap.size, 2, none⟩) (by simp only []; omega)).trans Cw0_2.out)
  have Cw0_3 := Lib.hid ((hbel.cell (p := ⟨w4.heap.size, 3, none⟩) (by simp only []; omega)).trans Cw0_3.out)
  have Ow0 := Lib.hid (show OwC w6 w3.heap.size wA0 wB0 wG0 wc0 wd0 wg0 U0 from OwC.below Ow0.out hbel)
  clear hbel
  have Ox0 := Lib.hid (show OwC w6 w5.heap.size xA0 xB0 xG0 xc0 xd0 xg0 q0 from Ox0'.out)
  have Ux0 := Lib.hid (show (∀ k, (Value.slice xA0 q0.i.length xc0).ownBlock = some k → k < w6.heap.size) ∧ (∀ k, (Value.slice xB0 q0.ops.length xd0).ownBlock = some k → k < w6.heap.size) ∧ (∀ k, (Value.slice xG0 q0.o.length xg0).ownBlock = some k → k < w6.heap.size) from ⟨fun k hk => (own_block (Ox0.out).1 k hk).2, fun k hk => (own_block (Ox0.out).2.1 k hk).2, fun k hk => (own_block (Ox0.out).2.2.1 k hk).2⟩)
  clear Ox0'
  go_wp2_with fail
  go_at_call 18
  generalize hww7 : World.alloc w6 _ = w7
  obtain ⟨x0', x1', x2', x3', hxw7, hbx⟩ := bx4 hww7
  clear hww7
  have hxP := hxw7
  have hsw7 : w6.heap.size ≤ w7.heap.size := hbx.size
  have HB := Lib.hid (HB.out.trans (hbx.mono (by omega)))
  have Ca0_0 := Lib.hid ((hbx.cell (p := ⟨w.heap.size, 0, none⟩) (by simp only []; omega)).trans Ca0_0.out)
  have Ca0_1 := Lib.hid ((hbx.cell (p := ⟨w.heap.size, 1, none⟩) (by simp only []; omega)).trans Ca0_1.out)
  have Ca0_2 := Lib.hid ((hbx.cell (p := ⟨w.heap.size, 2, none⟩) (by simp only []; omega)).trans Ca0_2.out)
  have Ca0_3 := Lib.hid ((hbx.cell (p := ⟨w.heap.size, 3, none⟩) (by simp only []; omega)).trans Ca0_3.out)
  have Cw0_0 := Lib.hid ((hbx.cell (p := ⟨w4.heap.size, 0, none⟩) (by simp only []; omega)).trans Cw0_0.out)
  have Cw0_1 := Lib.hid ((hbx.cell (p := ⟨w4.heap.size, 1, none⟩) (by simp only []; omega)).trans Cw0_1.out)
  have Cw0_2 := Lib.hid ((hbx.cell (p := ⟨w4.heap.size, 2, none⟩) (by simp only []; omega)).trans Cw0_2.out)
  have Cw0_3 := Lib.hid ((hbx.cell (p := ⟨w4.heap.size, 3, none⟩) (by simp only []; omega)).trans Cw0_3.out)
  have Ow0 := Lib.hid (show OwC w7 w3.heap.size wA0 wB0 wG0 wc0 wd0 wg0 U0 from OwC.below Ow0.out hbx)
  have Ox0 := Lib.hid (show OwC w7 w5.heap.size xA0 xB0 xG0 xc0 xd0 xg0 q0 from OwC.below Ox0.out hbx)
  clear hbx
  have Cx0_0 := Lib.hid x0'
  have Cx0_1 := Lib.hid x1'
  have Cx0_2 := Lib.hid x2'
  have Cx0_3 := Lib.hid x3'
  clear x0' x1' x2' x3'
  refine (HIMPL.out w7 xA0 xB0 xG0 xc0 xd0 xg0 (Ox0.out).cap (Ox0.out).rd).mono ?_
  rintro e w8 ⟨gA0, gB0, gG0, gc0, gd0, gg0, rfl, hown0, hbel⟩
  have Og0' := Lib.hid hown0
  clear hown0
  have hsw8 : w7.heap.size ≤ w8.heap.size := hbel.size
  have HB := Lib.hid (HB.out.trans (hbel.mono (by omega)))
  have Ca0_0 := Lib.hid ((hbel.cell (p := ⟨w.heap.size, 0, none⟩) (by simp only []; omega)).trans Ca0_0.out)
  have Ca0_1 := Lib.hid ((hbel.cell (p := ⟨w.heap.size, 1, none⟩) (by simp only []; omega)).trans Ca0_1.out)
  have Ca0_2 := Lib.hid ((hbel.cell (p := ⟨w.heap.size, 2, none⟩) (by simp only []; omega)).trans Ca0_2.out)
  have Ca0_3 := Lib.hid ((hbel.cell (p := ⟨w.heap.size, 3, none⟩) (by simp only []; omega)).trans Ca0_3.out)
  have Cw0_0 := Lib.hid ((hbel.cell (p := ⟨w4.heap.size, 0, none⟩) (by simp only []; omega)).trans Cw0_0.out)
  have Cw0_1 := Lib.hid ((hbel.cell (p := ⟨w4.heap.size, 1, none⟩) (by simp only []; omega)).trans Cw0_1.out)
  have Cw0_2 := Lib.hid ((hbel.cell (p := ⟨w4.heap.size, 2, none⟩) (by simp only []; omega)).trans Cw0_2.out)
  have Cw0_3 := Lib.hid ((hbel.cell (p := ⟨w4.heap.size, 3, none⟩) (by simp only []; omega)).trans Cw0_3.out)
  have Cx0_0 := Lib.hid ((hbel.cell (p := ⟨w6.heap.size, 0, none⟩) (by simp only []; omega)).trans Cx0_0.out)
  have Cx0_1 := Lib.hid ((hbel.cell (p := ⟨w6.heap.size, 1, none⟩) (by simp only []; omega)).trans Cx0_1.out)
  have Cx0_2 := Lib.hid ((hbel.cell (p := ⟨w6.heap.size, 2, none⟩) (by simp only []; omega)).trans Cx0_2.out)
  have Cx0_3 := Lib.hid ((hbel.cell (p := ⟨w6.heap.size, 3, none⟩) (by simp only []; omega)).trans Cx0_3.out)
  have Ow0 := Lib.hid (show OwC w8 w3.heap.size wA0 wB0 wG0 wc0 wd0 wg0 U0 from OwC.below Ow0.out hbel)
  have Ox0 := Lib.hid (show OwC w8 w5.heap.size xA0 xB0 xG0 xc0 xd0 xg0 q0 from OwC.below Ox0.out hbel)
  clear hbel
  have Og0 := Lib.hid (show OwC w8 w7.heap.size gA0 gB0 gG0 gc0 gd0 gg0 U0 from Og0'.out)
  have Ug0 := Lib.hid (show (∀ k, (Value.slice gA0 U0.i.length gc0).ownBlock = some k → k < w8.heap.size) ∧ (∀ k, (Value.slice gB0 U0.ops.length gd0).ownBlock = some k → k < w8.heap.size) ∧ (∀ k, (Value.slice gG0 U0.o.length gg0).ownBlock = some k → k < w8.heap.size) from ⟨fun k hk => (own_block (Og0.out).1 k hk).2, fun k hk => (own_block (Og0.out).2.1 k hk).2, fun k hk => (own_block (Og0.out).2.2.1 k hk).2⟩)
  clear Og0'
  have v9 := cell_kept Cw0_0.out
  have v10 := cell_kept Cw0_1.out
  have v11 := cell_kept Cw0_2.out
  have v12 := cell_kept Cw0_3.out
  go_wp2_with fail
  go_at_call 19
  clear v9 v10 v11 v12
  generalize hww9 : World.alloc w8 _ = w9
  obtain ⟨x0', x1', x2', x3', hxw9, hbx⟩ := bx4 hww9
  clear hww9
  have hxP := hxw9
  have hsw9 : w8.heap.size ≤ w9.heap.size := hbx.size
  have HB := Lib.hid (HB.out.trans (hbx.mono (by omega)))
  have Ca0_0 := Lib.hid ((hbx.cell (p := ⟨w.heap.size, 0, none⟩) (by simp only []; omega)).trans Ca0_0.out)
  have Ca0_1 := Lib.hid ((hbx.cell (p := ⟨w.heap.size, 1, none⟩) (by simp only []; omega)).trans Ca0_1.out)
  have Ca0_2 := Lib.hid ((hbx.cell (p := ⟨w.heap.size, 2, none⟩) (by simp only []; omega)).trans Ca0_2.out)
  have Ca0_3 := Lib.hid ((hbx.cell (p := ⟨w.heap.size, 3, none⟩) (by simp only []; omega)).trans Ca0_3.out)
  have Cw0_0 := Lib.hid ((hbx.cell (p := ⟨w4.heap.size, 0, none⟩) (by simp only []; omega)).trans Cw0_0.out)
  have Cw0_1 := Lib.hid ((hbx.cell (p := ⟨w4.heap.size, 1, none⟩) (by simp only []; omega)).trans Cw0_1.out)
  have Cw0_2 := Lib.hid ((hbx.cell (p := ⟨w4.heap.size, 2, none⟩) (by simp only []; omega)).trans Cw0_2.out)
  have Cw0_3 := Lib.hid ((hbx.cell (p := ⟨w4.heap.size, 3, none⟩) (by simp only []; omega)).trans Cw0_3.out)
  have Cx0_0 := Lib.hid ((hbx.cell (p := ⟨w6.heap.size, 0, none⟩) (by simp only []; omega)).trans Cx0_0.out)
  have Cx0_1 := Lib.hid ((hbx.cell (p := ⟨w6.heap.size, 1, none⟩) (by simp only []; omega)).trans Cx0_1.out)
  have Cx0_2 := Lib.hid ((hbx.cell (p := ⟨w6.heap.size, 2, none⟩) (by simp only []; omega)).trans Cx0_2.out)
  have Cx0_3 := Lib.hid ((hbx.cell (p := ⟨w6.heap.size, 3, none⟩) (by simp only []; omega)).trans Cx0_3.out)
  have Ow0 := Lib.hid (show OwC w9 w3.heap.size wA0 wB0 wG0 wc0 wd0 wg0 U0 from OwC.below Ow0.out hbx)
  have Ox0 := Lib.hid (show OwC w9 w5.heap.size xA0 xB0 xG0 xc0 xd0 xg0 q0 from OwC.below Ox0.out hbx)
  have Og0 := Lib.hid (show OwC w9 w7.heap.size gA0 gB0 gG0 gc0 gd0 gg0 U0 from OwC.below Og0.out hbx)
  clear hbx
  have Cg0_0 := Lib.hid x0'
  have Cg0_1 := Lib.hid x1'
  have Cg0_2 := Lib.hid x2'
  have Cg0_3 := Lib.hid x3'
  clear x0' x1' x2' x3'
  refine (eqRegCode_refl w9.heap.size w9.heap.size gA0 gB0 gG0 wA0 wB0 wG0 gc0 gd0 gg0 wc0 wd0 wg0 U0 w9 (by omega) (by omega) (by omega) (Nat.le_refl _) (Nat.le_refl _) (Og0.out).rd (Ow0.out).rd).mono ?_
  rintro e w10 ⟨rfl, hbel⟩
  have hsw10 : w9.heap.size ≤ w10.heap.size := hbel.size
  have HB := Lib.hid (HB.out.trans (hbel.mono (by omega)))
  have Ca0_0 := Lib.hid ((hbel.cell (p := ⟨w.heap.size, 0, none⟩) (by simp only []; omega)).trans Ca0_0.out)
  have Ca0_1 := Lib.hid ((hbel.cell (p := ⟨w.heap.size, 1, none⟩) (by simp only []; omega)).trans Ca0_1.out)
  have Ca0_2 := Lib.hid ((hbel.cell (p := ⟨w.heap.size, 2, none⟩) (by simp only []; omega)).trans Ca0_2.out)
  have Ca0_3 := Lib.hid ((hbel.cell (p := ⟨w.heap.size, 3, none⟩) (by simp only []; omega)).trans Ca0_3.out)
  have Cw0_0 := Lib.hid ((hbel.cell (p := ⟨w4.heap.size, 0, none⟩) (by simp only []; omega)).trans Cw0_0.out)
  have Cw0_1 := Lib.hid ((hbel.cell (p := ⟨w4.heap.size, 1, none⟩) (by simp only []; omega)).trans Cw0_1.out)
  have Cw0_2 := Lib.hid ((hbel.cell (p := ⟨w4.heap.size, 2, none⟩) (by simp only []; omega)).trans Cw0_2.out)
  have Cw0_3 := Lib.hid ((hbel.cell (p := ⟨w4.heap.size, 3, none⟩) (by simp only []; omega)).trans Cw0_3.out)
  have Cx0_0 := Lib.hid ((hbel.cell (p := ⟨w6.heap.size, 0, none⟩) (by simp only []; omega)).trans Cx0_0.out)
  have Cx0_1 := Lib.hid ((hbel.cell (p := ⟨w6.heap.size, 1, none⟩) (by simp only []; omega)).trans Cx0_1.out)
  have Cx0_2 := Lib.hid ((hbel.cell (p := ⟨w6.heap.size, 2, none⟩) (by simp only []; omega)).trans Cx0_2.out)
  have Cx0_3 := Lib.hid ((hbel.cell (p := ⟨w6.heap.size, 3, none⟩) (by simp only []; omega)).trans Cx0_3.out)
  have Cg0_0 := Lib.hid ((hbel.cell (p := ⟨w8.heap.size, 0, none⟩) (by simp only []; omega)).trans Cg0_0.out)
  have Cg0_1 := Lib.hid ((hbel.cell (p := ⟨w8.heap.size, 1, none⟩) (by simp only []; omega)).trans Cg0_1.out)
  have Cg0_2 := Lib.hid ((hbel.cell (p := ⟨w8.heap.size, 2, none⟩) (by simp only []; omega)).trans Cg0_2.out)
  have Cg0_3 := Lib.hid ((hbel.cell (p := ⟨w8.heap.size, 3, none⟩) (by simp only []; omega)).trans Cg0_3.out)
  have Ow0 := Lib.hid (show OwC w10 w3.heap.size wA0 wB0 wG0 wc0 wd0 wg0 U0 from OwC.below Ow0.out hbel)
  have Ox0 := Lib.hid (show OwC w10 w5.heap.size xA0 xB0 xG0 xc0 xd0 xg0 q0 from OwC.below Ox0.out hbel)
  have Og0 := Lib.hid (show OwC w10 w7.heap.size gA0 gB0 gG0 gc0 gd0 gg0 U0 from OwC.below Og0.out hbel)
  clear hbel
  go_wp2
  have Fx0_0 := Lib.hid (show ∀ x, Below w10.heap.size w10 x → x.cell? ⟨w6.heap.size, 0, none⟩ = some (.int .i64 q0.r) from fun x hx => (hx.cell (p := ⟨w6.heap.size, 0, none⟩) (by simp only []; omega)).trans Cx0_0.out)
  have Fx0_1 := Lib.hid (show ∀ x, Below w10.heap.size w10 x → x.cell? ⟨w6.heap.size, 1, none⟩ = some (.slice xA0 q0.i.length xc0) from fun x hx => (hx.cell (p := ⟨w6.heap.size, 1, none⟩) (by simp only []; omega)).trans Cx0_1.out)
  have Fx0_2 := Lib.hid (show ∀ x, Below w10.heap.size w10 x → x.cell? ⟨w6.heap.size, 2, none⟩ = some (.slice xB0 q0.ops.length xd0) from fun x hx => (hx.cell (p := ⟨w6.heap.size, 2, none⟩) (by simp only []; omega)).trans Cx0_2.out)
  have Fx0_3 := Lib.hid (show ∀ x, Below w10.heap.size w10 x → x.cell? ⟨w6.heap.size, 3, none⟩ = some (.slice xG0 q0.o.length xg0) from fun x hx => (hx.cell (p := ⟨w6.heap.size, 3, none⟩) (by simp only []; omega)).trans Cx0_3.out)
  have Fa0_0 := Lib.hid (show ∀ x, Below w10.heap.size w10 x → x.cell? ⟨w.heap.size, 0, none⟩ = some (.int .i64 q0.r) from fun x hx => (hx.cell (p := ⟨w.heap.size, 0, none⟩) (by simp only []; omega)).trans Ca0_0.out)
  have Fa0_1 := Lib.hid (show ∀ x, Below w10.heap.size w10 x → x.cell? ⟨w.heap.size, 1, none⟩ = some (.slice A0 q0.i.length c0) from fun x hx => (hx.cell (p := ⟨w.heap.size, 1, none⟩) (by simp only []; omega)).trans Ca0_1.out)
  have Fa0_2 := Lib.hid (show ∀ x, Below w10.heap.size w10 x → x.cell? ⟨w.heap.size, 2, none⟩ = some (.slice B0 q0.ops.length d0) from fun x hx => (hx.cell (p := ⟨w.heap.size, 2, none⟩) (by simp only []; omega)).trans Ca0_2.out)
  have Fa0_3 := Lib.hid (show ∀ x, Below w10.heap.size w10 x → x.cell? ⟨w.heap.size, 3, none⟩ = some (.slice G0 q0.o.length g0) from fun x hx => (hx.cell (p := ⟨w.heap.size, 3, none⟩) (by simp only []; omega)).trans Ca0_3.out)
  have SD := Lib.hid (show Below w10.heap.size w10 w10.drew from (Below.refl _ _).drew)
  refine wp_region_T (fun x : World => Below w10.heap.size w10 x) [0, 1, 4] [0, 1] (.ls 0 (.ls 1 (.hv 2 (.hv 3 (.lp 4 (.done)))))) (by kernel_rfl) (by kernel_rfl) ?_
  refine T_ls1 (v := .agg #[.int .i64 q0.r, .slice xA0 q0.i.length xc0, .slice xB0 q0.ops.length xd0, .slice xG0 q0.o.length xg0]) rfl rfl SD.out (fun x hx => (by have h1 := Fx0_0.out x hx; have h2 := Fx0_1.out x hx; have h3 := Fx0_2.out x hx; have h4 := Fx0_3.out x hx; go_simp)) (fun K hK => ?_)
  (go_simp; refine hK _ ?_; clear hK K)
  refine T_ls1 (v := .agg #[.int .i64 q0.r, .slice A0 q0.i.length c0, .slice B0 q0.ops.length d0, .slice G0 q0.o.length g0]) rfl rfl SD.out (fun x hx => (by have h1 := Fa0_0.out x hx; have h2 := Fa0_1.out x hx; have h3 := Fa0_2.out x hx; have h4 := Fa0_3.out x hx; go_simp)) (fun K hK => ?_)
  (go_simp; refine hK _ ?_; clear hK K)
  refine T_hvS rfl (fun K hK => ?_)
  go_simp
  go_at_call 17
  generalize hwd : w10.drew = w11 at SD ⊢
  clear hwd
  have hbd := SD.out
  have hsw11 : w10.heap.size ≤ w11.heap.size := hbd.size
  have HB := Lib.hid (HB.out.trans (hbd.mono (by omega)))
  have Ca0_0 := Lib.hid ((hbd.cell (p := ⟨w.heap.size, 0, none⟩) (by simp only []; omega)).trans Ca0_0.out)
  have Ca0_1 := Lib.hid ((hbd.cell (p := ⟨w.heap.size, 1, none⟩) (by simp only []; omega)).trans Ca0_1.out)
  have Ca0_2 := Lib.hid ((hbd.cell (p := ⟨w.heap.size, 2, none⟩) (by simp only []; omega)).trans Ca0_2.out)
  have Ca0_3 := Lib.hid ((hbd.cell (p := ⟨w.heap.size, 3, none⟩) (by simp only []; omega)).trans Ca0_3.out)
  have Cw0_0 := Lib.hid ((hbd.cell (p := ⟨w4.heap.size, 0, none⟩) (by simp only []; omega)).trans Cw0_0.out)
  have Cw0_1 := Lib.hid ((hbd.cell (p := ⟨w4.heap.size, 1, none⟩) (by simp only []; omega)).trans Cw0_1.out)
  have Cw0_2 := Lib.hid ((hbd.cell (p := ⟨w4.heap.size, 2, none⟩) (by simp only []; omega)).trans Cw0_2.out)
  have Cw0_3 := Lib.hid ((hbd.cell (p := ⟨w4.heap.size, 3, none⟩) (by simp only []; omega)).trans Cw0_3.out)
  have Cx0_0 := Lib.hid ((hbd.cell (p := ⟨w6.heap.size, 0, none⟩) (by simp only []; omega)).trans Cx0_0.out)
  have Cx0_1 := Lib.hid ((hbd.cell (p := ⟨w6.heap.size, 1, none⟩) (by simp only []; omega)).trans Cx0_1.out)
  have Cx0_2 := Lib.hid ((hbd.cell (p := ⟨w6.heap.size, 2, none⟩) (by simp only []; omega)).trans Cx0_2.out)
  have Cx0_3 := Lib.hid ((hbd.cell (p := ⟨w6.heap.size, 3, none⟩) (by simp only []; omega)).trans Cx0_3.out)
  have Cg0_0 := Lib.hid ((hbd.cell (p := ⟨w8.heap.size, 0, none⟩) (by simp only []; omega)).trans Cg0_0.out)
  have Cg0_1 := Lib.hid ((hbd.cell (p := ⟨w8.heap.size, 1, none⟩) (by simp only []; omega)).trans Cg0_1.out)
  have Cg0_2 := Lib.hid ((hbd.cell (p := ⟨w8.heap.size, 2, none⟩) (by simp only []; omega)).trans Cg0_2.out)
  have Cg0_3 := Lib.hid ((hbd.cell (p := ⟨w8.heap.size, 3, none⟩) (by simp only []; omega)).trans Cg0_3.out)
  have Ow0 := Lib.hid (show OwC w11 w3.heap.size wA0 wB0 wG0 wc0 wd0 wg0 U0 from OwC.below Ow0.out hbd)
  have Ox0 := Lib.hid (show OwC w11 w5.heap.size xA0 xB0 xG0 xc0 xd0 xg0 q0 from OwC.below Ox0.out hbd)
  have Og0 := Lib.hid (show OwC w11 w7.heap.size gA0 gB0 gG0 gc0 gd0 gg0 U0 from OwC.below Og0.out hbd)
  clear hbd
  have SBY := Lib.hid SD.out
  refine (toRegCode_any w.heap.size A0 B0 G0 c0 d0 g0 q0 w11 hli0 hlp0 hlo0 (by omega) (H0.out.below HB.out)).mono ?_
  rintro e w12 ⟨yA0, yB0, yG0, yc0, yd0, yg0, rfl, hown, hbel⟩
  have Oy0' := Lib.hid hown
  clear hown
  have hsw12 : w11.heap.size ≤ w12.heap.size := hbel.size
  have HB := Lib.hid (HB.out.trans (hbel.mono (by omega)))
  have Ca0_0 := Lib.hid ((hbel.cell (p := ⟨w.heap.size, 0, none⟩) (by simp only []; omega)).trans Ca0_0.out)
  have Ca0_1 := Lib.hid ((hbel.cell (p := ⟨w.heap.size, 1, none⟩) (by simp only []; omega)).trans Ca0_1.out)
  have Ca0_2 := Lib.hid ((hbel.cell (p := ⟨w.heap.size, 2, none⟩) (by simp only []; omega)).trans Ca0_2.out)
  have Ca0_3 := Lib.hid ((hbel.cell (p := ⟨w.heap.size, 3, none⟩) (by simp only []; omega)).trans Ca0_3.out)
  have Cw0_0 := Lib.hid ((hbel.cell (p := ⟨w4.heap.size, 0, none⟩) (by simp only []; omega)).trans Cw0_0.out)
  have Cw0_1 := Lib.hid ((hbel.cell (p := ⟨w4.heap.size, 1, none⟩) (by simp only []; omega)).trans Cw0_1.out)
  have Cw0_2 := Lib.hid ((hbel.cell (p := ⟨w4.heap.size, 2, none⟩) (by simp only []; omega)).trans Cw0_2.out)
  have Cw0_3 := Lib.hid ((hbel.cell (p := ⟨w4.heap.size, 3, none⟩) (by simp only []; omega)).trans Cw0_3.out)
  have Cx0_0 := Lib.hid ((hbel.cell (p := ⟨w6.heap.size, 0, none⟩) (by simp only []; omega)).trans Cx0_0.out)
  have Cx0_1 := Lib.hid ((hbel.cell (p := ⟨w6.heap.size, 1, none⟩) (by simp only []; omega)).trans Cx0_1.out)
  have Cx0_2 := Lib.hid ((hbel.cell (p := ⟨w6.heap.size, 2, none⟩) (by simp only []; omega)).trans Cx0_2.out)
  have Cx0_3 := Lib.hid ((hbel.cell (p := ⟨w6.heap.size, 3, none⟩) (by simp only []; omega)).trans Cx0_3.out)
  have Cg0_0 := Lib.hid ((hbel.cell (p := ⟨w8.heap.size, 0, none⟩) (by simp only []; omega)).trans Cg0_0.out)
  have Cg0_1 := Lib.hid ((hbel.cell (p := ⟨w8.heap.size, 1, none⟩) (by simp only []; omega)).trans Cg0_1.out)
  have Cg0_2 := Lib.hid ((hbel.cell (p := ⟨w8.heap.size, 2, none⟩) (by simp only []; omega)).trans Cg0_2.out)
  have Cg0_3 := Lib.hid ((hbel.cell (p := ⟨w8.heap.size, 3, none⟩) (by simp only []; omega)).trans Cg0_3.out)
  have Ow0 := Lib.hid (show OwC w12 w3.heap.size wA0 wB0 wG0 wc0 wd0 wg0 U0 from OwC.below Ow0.out hbel)
  have Ox0 := Lib.hid (show OwC w12 w5.heap.size xA0 xB0 xG0 xc0 xd0 xg0 q0 from OwC.below Ox0.out hbel)
  have Og0 := Lib.hid (show OwC w12 w7.heap.size gA0 gB0 gG0 gc0 gd0 gg0 U0 from OwC.below Og0.out hbel)
  have SBY := Lib.hid (SBY.out.trans (hbel.mono (by omega)))
  clear hbel
  have Oy0 := Lib.hid (show OwC w12 w11.heap.size yA0 yB0 yG0 yc0 yd0 yg0 q0 from Oy0'.out)
  have Uy0 := Lib.hid (show (∀ k, (Value.slice yA0 q0.i.length yc0).ownBlock = some k → k < w12.heap.size) ∧ (∀ k, (Value.slice yB0 q0.ops.length yd0).ownBlock = some k → k < w12.heap.size) ∧ (∀ k, (Value.slice yG0 q0.o.length yg0).ownBlock = some k → k < w12.heap.size) from ⟨fun k hk => (own_block (Oy0.out).1 k hk).2, fun k hk => (own_block (Oy0.out).2.1 k hk).2, fun k hk => (own_block (Oy0.out).2.2.1 k hk).2⟩)
  clear Oy0'
  go_simp
  refine hK _ _ (SBY.out) ?_
  clear hK K
  (refine T_hv rfl (by kernel_rfl) (fun K hK => ?_); go_simp)
  go_at_call 19
  refine (eqRegCode_refl w12.heap.size w12.heap.size xA0 xB0 xG0 yA0 yB0 yG0 xc0 xd0 xg0 yc0 yd0 yg0 q0 w12 (by omega) (by omega) (by omega) (Nat.le_refl _) (Nat.le_refl _) (Ox0.out).rd (Oy0.out).rd).mono ?_
  rintro e w13 ⟨rfl, hbel⟩
  have hsw13 : w12.heap.size ≤ w13.heap.size := hbel.size
  have HB := Lib.hid (HB.out.trans (hbel.mono (by omega)))
  have Ca0_0 := Lib.hid ((hbel.cell (p := ⟨w.heap.size, 0, none⟩) (by simp only []; omega)).trans Ca0_0.out)
  have Ca0_1 := Lib.hid ((hbel.cell (p := ⟨w.heap.size, 1, none⟩) (by simp only []; omega)).trans Ca0_1.out)
  have Ca0_2 := Lib.hid ((hbel.cell (p := ⟨w.heap.size, 2, none⟩) (by simp only []; omega)).trans Ca0_2.out)
  have Ca0_3 := Lib.hid ((hbel.cell (p := ⟨w.heap.size, 3, none⟩) (by simp only []; omega)).trans Ca0_3.out)
  have Cw0_0 := Lib.hid ((hbel.cell (p := ⟨w4.heap.size, 0, none⟩) (by simp only []; omega)).trans Cw0_0.out)
  have Cw0_1 := Lib.hid ((hbel.cell (p := ⟨w4.heap.size, 1, none⟩) (by simp only []; omega)).trans Cw0_1.out)
  have Cw0_2 := Lib.hid ((hbel.cell (p := ⟨w4.heap.size, 2, none⟩) (by simp only []; omega)).trans Cw0_2.out)
  have Cw0_3 := Lib.hid ((hbel.cell (p := ⟨w4.heap.size, 3, none⟩) (by simp only []; omega)).trans Cw0_3.out)
  have Cx0_0 := Lib.hid ((hbel.cell (p := ⟨w6.heap.size, 0, none⟩) (by simp only []; omega)).trans Cx0_0.out)
  have Cx0_1 := Lib.hid ((hbel.cell (p := ⟨w6.heap.size, 1, none⟩) (by simp only []; omega)).trans Cx0_1.out)
  have Cx0_2 := Lib.hid ((hbel.cell (p := ⟨w6.heap.size, 2, none⟩) (by simp only []; omega)).trans Cx0_2.out)
  have Cx0_3 := Lib.hid ((hbel.cell (p := ⟨w6.heap.size, 3, none⟩) (by simp only []; omega)).trans Cx0_3.out)
  have Cg0_0 := Lib.hid ((hbel.cell (p := ⟨w8.heap.size, 0, none⟩) (by simp only []; omega)).trans Cg0_0.out)
  have Cg0_1 := Lib.hid ((hbel.cell (p := ⟨w8.heap.size, 1, none⟩) (by simp only []; omega)).trans Cg0_1.out)
  have Cg0_2 := Lib.hid ((hbel.cell (p := ⟨w8.heap.size, 2, none⟩) (by simp only []; omega)).trans Cg0_2.out)
  have Cg0_3 := Lib.hid ((hbel.cell (p := ⟨w8.heap.size, 3, none⟩) (by simp only []; omega)).trans Cg0_3.out)
  have Ow0 := Lib.hid (show OwC w13 w3.heap.size wA0 wB0 wG0 wc0 wd0 wg0 U0 from OwC.below Ow0.out hbel)
  have Ox0 := Lib.hid (show OwC w13 w5.heap.size xA0 xB0 xG0 xc0 xd0 xg0 q0 from OwC.below Ox0.out hbel)
  have Og0 := Lib.hid (show OwC w13 w7.heap.size gA0 gB0 gG0 gc0 gd0 gg0 U0 from OwC.below Og0.out hbel)
  have Oy0 := Lib.hid (show OwC w13 w11.heap.size yA0 yB0 yG0 yc0 yd0 yg0 q0 from OwC.below Oy0.out hbel)
  clear hbel
  (go_simp; refine hK _ _ ?_; clear hK K)
  (repeat (first | (refine T_lp rfl (fun K hK => ?_); go_simp; refine hK _ ?_; clear hK K) | (refine T_ls rfl rfl (fun K hK => ?_); go_simp; refine hK _ ?_; clear hK K)))
  refine T_done ?_
  have v13 := Cx0_0.out
  have v14 := Cx0_1.out
  have v15 := Cx0_2.out
  have v16 := Cx0_3.out
  go_wp2_with fail
  go_at_call 20
  clear v13 v14 v15 v16
  have hwm := markRegCode_any (w5.heap.size) w6.heap.size xA0 xB0 xG0 xc0 xd0 xg0 q0 (1) w13 (by omega) (by omega) (by omega) (by omega) (by omega) (by omega) (by omega) Ox0.out Ux0.out.1 Ux0.out.2.1 Ux0.out.2.2
  refine hwm.mono ?_
  rintro e w14 ⟨rfl, hm1, hm2, hm3, hwn⟩
  clear hwm
  have Mx0 := Lib.hid (And.intro hm1 (And.intro hm2 hm3))
  clear hm1 hm2 hm3
  have hsw14 : w13.heap.size ≤ w14.heap.size := hwn.1.size
  have HB := Lib.hid (HB.out.trans (hwn.1.mono (by omega)))
  have Ca0_0 := Lib.hid ((hwn.1.cell (p := ⟨w.heap.size, 0, none⟩) (by simp only []; omega)).trans Ca0_0.out)
  have Ca0_1 := Lib.hid ((hwn.1.cell (p := ⟨w.heap.size, 1, none⟩) (by simp only []; omega)).trans Ca0_1.out)
  have Ca0_2 := Lib.hid ((hwn.1.cell (p := ⟨w.heap.size, 2, none⟩) (by simp only []; omega)).trans Ca0_2.out)
  have Ca0_3 := Lib.hid ((hwn.1.cell (p := ⟨w.heap.size, 3, none⟩) (by simp only []; omega)).trans Ca0_3.out)
  have Cw0_0 := Lib.hid ((hwn.1.cell (p := ⟨w4.heap.size, 0, none⟩) (by simp only []; omega)).trans Cw0_0.out)
  have Cw0_1 := Lib.hid ((hwn.1.cell (p := ⟨w4.heap.size, 1, none⟩) (by simp only []; omega)).trans Cw0_1.out)
  have Cw0_2 := Lib.hid ((hwn.1.cell (p := ⟨w4.heap.size, 2, none⟩) (by simp only []; omega)).trans Cw0_2.out)
  have Cw0_3 := Lib.hid ((hwn.1.cell (p := ⟨w4.heap.size, 3, none⟩) (by simp only []; omega)).trans Cw0_3.out)
  have Cx0_0 := Lib.hid ((World.cell?_of_block (a := ⟨w6.heap.size, 0, none⟩) (hwn.2 (w6.heap.size) (by omega) (by omega))).trans Cx0_0.out)
  have Cx0_1 := Lib.hid ((World.cell?_of_block (a := ⟨w6.heap.size, 1, none⟩) (hwn.2 (w6.heap.size) (by omega) (by omega))).trans Cx0_1.out)
  have Cx0_2 := Lib.hid ((World.cell?_of_block (a := ⟨w6.heap.size, 2, none⟩) (hwn.2 (w6.heap.size) (by omega) (by omega))).trans Cx0_2.out)
  have Cx0_3 := Lib.hid ((World.cell?_of_block (a := ⟨w6.heap.size, 3, none⟩) (hwn.2 (w6.heap.size) (by omega) (by omega))).trans Cx0_3.out)
  have Cg0_0 := Lib.hid ((World.cell?_of_block (a := ⟨w8.heap.size, 0, none⟩) (hwn.2 (w8.heap.size) (by omega) (by omega))).trans Cg0_0.out)
  have Cg0_1 := Lib.hid ((World.cell?_of_block (a := ⟨w8.heap.size, 1, none⟩) (hwn.2 (w8.heap.size) (by omega) (by omega))).trans Cg0_1.out)
  have Cg0_2 := Lib.hid ((World.cell?_of_block (a := ⟨w8.heap.size, 2, none⟩) (hwn.2 (w8.heap.size) (by omega) (by omega))).trans Cg0_2.out)
  have Cg0_3 := Lib.hid ((World.cell?_of_block (a := ⟨w8.heap.size, 3, none⟩) (hwn.2 (w8.heap.size) (by omega) (by omega))).trans Cg0_3.out)
  have Ow0 := Lib.hid (show OwC w14 w3.heap.size wA0 wB0 wG0 wc0 wd0 wg0 U0 from ⟨own_win_lo (Ow0.out).1 hwn (fun k hk => Nat.lt_of_lt_of_le ((Uw0.out).1 k hk) (by omega)), own_win_lo (Ow0.out).2.1 hwn (fun k hk => Nat.lt_of_lt_of_le ((Uw0.out).2.1 k hk) (by omega)), own_win_lo (Ow0.out).2.2.1 hwn (fun k hk => Nat.lt_of_lt_of_le ((Uw0.out).2.2 k hk) (by omega)), (Ow0.out).2.2.2⟩)
  have Og0 := Lib.hid (show OwC w14 w7.heap.size gA0 gB0 gG0 gc0 gd0 gg0 U0 from ⟨Win.own hwn (Og0.out).1 (by omega), Win.own hwn (Og0.out).2.1 (by omega), Win.own hwn (Og0.out).2.2.1 (by omega), (Og0.out).2.2.2⟩)
  clear hwn
  have hkk1 : ¬ (1 + (q0.i.length : Int) + 3 * (q0.ops.length : Int) + (q0.o.length : Int) < 0) := by omega
  have v17 := Cg0_0.out
  have v18 := Cg0_1.out
  have v19 := Cg0_2.out
  have v20 := Cg0_3.out
  have v21 := Cw0_0.out
  have v22 := Cw0_1.out
  have v23 := Cw0_2.out
  have v24 := Cw0_3.out
  go_wp2_with fail
  go_at_call 19
  clear v17 v18 v19 v20 v21 v22 v23 v24
  refine (eqRegCode_refl w14.heap.size w14.heap.size gA0 gB0 gG0 wA0 wB0 wG0 gc0 gd0 gg0 wc0 wd0 wg0 U0 w14 (by omega) (by omega) (by omega) (Nat.le_refl _) (Nat.le_refl _) (Og0.out).rd (Ow0.out).rd).mono ?_
  rintro e w15 ⟨rfl, hbel⟩
  have hsw15 : w14.heap.size ≤ w15.heap.size := hbel.size
  have HB := Lib.hid (HB.out.trans (hbel.mono (by omega)))
  have Ca0_0 := Lib.hid ((hbel.cell (p := ⟨w.heap.size, 0, none⟩) (by simp only []; omega)).trans Ca0_0.out)
  have Ca0_1 := Lib.hid ((hbel.cell (p := ⟨w.heap.size, 1, none⟩) (by simp only []; omega)).trans Ca0_1.out)
  have Ca0_2 := Lib.hid ((hbel.cell (p := ⟨w.heap.size, 2, none⟩) (by simp only []; omega)).trans Ca0_2.out)
  have Ca0_3 := Lib.hid ((hbel.cell (p := ⟨w.heap.size, 3, none⟩) (by simp only []; omega)).trans Ca0_3.out)
  have Cw0_0 := Lib.hid ((hbel.cell (p := ⟨w4.heap.size, 0, none⟩) (by simp only []; omega)).trans Cw0_0.out)
  have Cw0_1 := Lib.hid ((hbel.cell (p := ⟨w4.heap.size, 1, none⟩) (by simp only []; omega)).trans Cw0_1.out)
  have Cw0_2 := Lib.hid ((hbel.cell (p := ⟨w4.heap.size, 2, none⟩) (by simp only []; omega)).trans Cw0_2.out)
  have Cw0_3 := Lib.hid ((hbel.cell (p := ⟨w4.heap.size, 3, none⟩) (by simp only []; omega)).trans Cw0_3.out)
  have Cg0_0 := Lib.hid ((hbel.cell (p := ⟨w8.heap.size, 0, none⟩) (by simp only []; omega)).trans Cg0_0.out)
  have Cg0_1 := Lib.hid ((hbel.cell (p := ⟨w8.heap.size, 1, none⟩) (by simp only []; omega)).trans Cg0_1.out)
  have Cg0_2 := Lib.hid ((hbel.cell (p := ⟨w8.heap.size, 2, none⟩) (by simp only []; omega)).trans Cg0_2.out)
  have Cg0_3 := Lib.hid ((hbel.cell (p := ⟨w8.heap.size, 3, none⟩) (by simp only []; omega)).trans Cg0_3.out)
  have Ow0 := Lib.hid (show OwC w15 w3.heap.size wA0 wB0 wG0 wc0 wd0 wg0 U0 from OwC.below Ow0.out hbel)
  have Og0 := Lib.hid (show OwC w15 w7.heap.size gA0 gB0 gG0 gc0 gd0 gg0 U0 from OwC.below Og0.out hbel)
  clear hbel
  have v25 := Cg0_0.out
  have v26 := Cg0_1.out
  have v27 := Cg0_2.out
  have v28 := Cg0_3.out
  go_wp2_with fail
  go_at_call 20
  clear v25 v26 v27 v28
  have hwm := markRegCode_any (w7.heap.size) w8.heap.size gA0 gB0 gG0 gc0 gd0 gg0 U0 (1) w15 (by omega) (by omega) (by omega) (by omega) (by omega) (by omega) (by omega) Og0.out Ug0.out.1 Ug0.out.2.1 Ug0.out.2.2
  refine hwm.mono ?_
  rintro e w16 ⟨rfl, hm1, hm2, hm3, hwn⟩
  clear hwm
  have Mg0 := Lib.hid (And.intro hm1 (And.intro hm2 hm3))
  clear hm1 hm2 hm3
  have hsw16 : w15.heap.size ≤ w16.heap.size := hwn.1.size
  have HB := Lib.hid (HB.out.trans (hwn.1.mono (by omega)))
  have Ca0_0 := Lib.hid ((hwn.1.cell (p := ⟨w.heap.size, 0, none⟩) (by simp only []; omega)).trans Ca0_0.out)
  have Ca0_1 := Lib.hid ((hwn.1.cell (p := ⟨w.heap.size, 1, none⟩) (by simp only []; omega)).trans Ca0_1.out)
  have Ca0_2 := Lib.hid ((hwn.1.cell (p := ⟨w.heap.size, 2, none⟩) (by simp only []; omega)).trans Ca0_2.out)
  have Ca0_3 := Lib.hid ((hwn.1.cell (p := ⟨w.heap.size, 3, none⟩) (by simp only []; omega)).trans Ca0_3.out)
  have Cw0_0 := Lib.hid ((hwn.1.cell (p := ⟨w4.heap.size, 0, none⟩) (by simp only []; omega)).trans Cw0_0.out)
  have Cw0_1 := Lib.hid ((hwn.1.cell (p := ⟨w4.heap.size, 1, none⟩) (by simp only []; omega)).trans Cw0_1.out)
  have Cw0_2 := Lib.hid ((hwn.1.cell (p := ⟨w4.heap.size, 2, none⟩) (by simp only []; omega)).trans Cw0_2.out)
  have Cw0_3 := Lib.hid ((hwn.1.cell (p := ⟨w4.heap.size, 3, none⟩) (by simp only []; omega)).trans Cw0_3.out)
  have Cg0_0 := Lib.hid ((World.cell?_of_block (a := ⟨w8.heap.size, 0, none⟩) (hwn.2 (w8.heap.size) (by omega) (by omega))).trans Cg0_0.out)
  have Cg0_1 := Lib.hid ((World.cell?_of_block (a := ⟨w8.heap.size, 1, none⟩) (hwn.2 (w8.heap.size) (by omega) (by omega))).trans Cg0_1.out)
  have Cg0_2 := Lib.hid ((World.cell?_of_block (a := ⟨w8.heap.size, 2, none⟩) (hwn.2 (w8.heap.size) (by omega) (by omega))).trans Cg0_2.out)
  have Cg0_3 := Lib.hid ((World.cell?_of_block (a := ⟨w8.heap.size, 3, none⟩) (hwn.2 (w8.heap.size) (by omega) (by omega))).trans Cg0_3.out)
  have Ow0 := Lib.hid (show OwC w16 w3.heap.size wA0 wB0 wG0 wc0 wd0 wg0 U0 from ⟨own_win_lo (Ow0.out).1 hwn (fun k hk => Nat.lt_of_lt_of_le ((Uw0.out).1 k hk) (by omega)), own_win_lo (Ow0.out).2.1 hwn (fun k hk => Nat.lt_of_lt_of_le ((Uw0.out).2.1 k hk) (by omega)), own_win_lo (Ow0.out).2.2.1 hwn (fun k hk => Nat.lt_of_lt_of_le ((Uw0.out).2.2 k hk) (by omega)), (Ow0.out).2.2.2⟩)
  clear hwn
  have hkm1 : ¬ (1 + (U0.i.length : Int) + 3 * (U0.ops.length : Int) + (U0.o.length : Int) < 0) := by omega
  have HM := Lib.hid (And.intro (own_rd_marks Mg0.out.1) (And.intro (own_rd_marksO Mg0.out.2.1) (own_rd_marks Mg0.out.2.2)))
  have HBM := Lib.hid (Below.refl w16.heap.size w16)
  have v29 := Cg0_0.out
  have v30 := Cg0_1.out
  have v31 := Cg0_2.out
  have v32 := Cg0_3.out
  go_wp2_with fail
  go_at_call 21
  clear v29 v30 v31 v32
  refine (heldRegCode_any w16.heap.size gA0 gB0 gG0 gc0 gd0 gg0 U0.i.length U0.ops.length U0.o.length U0.r 1 w16 (by omega) (by omega) (by omega) (by omega) (by omega) (by omega) (HM.out.1.below HBM.out) (HM.out.2.1.below HBM.out) (HM.out.2.2.below HBM.out)).mono ?_
  rintro e w17 ⟨rfl, hbel⟩
  have HBM := Lib.hid (HBM.out.trans (hbel.mono (by omega)))
  have hsw17 : w16.heap.size ≤ w17.heap.size := hbel.size
  have HB := Lib.hid (HB.out.trans (hbel.mono (by omega)))
  have Ca0_0 := Lib.hid ((hbel.cell (p := ⟨w.heap.size, 0, none⟩) (by simp only []; omega)).trans Ca0_0.out)
  have Ca0_1 := Lib.hid ((hbel.cell (p := ⟨w.heap.size, 1, none⟩) (by simp only []; omega)).trans Ca0_1.out)
  have Ca0_2 := Lib.hid ((hbel.cell (p := ⟨w.heap.size, 2, none⟩) (by simp only []; omega)).trans Ca0_2.out)
  have Ca0_3 := Lib.hid ((hbel.cell (p := ⟨w.heap.size, 3, none⟩) (by simp only []; omega)).trans Ca0_3.out)
  have Cw0_0 := Lib.hid ((hbel.cell (p := ⟨w4.heap.size, 0, none⟩) (by simp only []; omega)).trans Cw0_0.out)
  have Cw0_1 := Lib.hid ((hbel.cell (p := ⟨w4.heap.size, 1, none⟩) (by simp only []; omega)).trans Cw0_1.out)
  have Cw0_2 := Lib.hid ((hbel.cell (p := ⟨w4.heap.size, 2, none⟩) (by simp only []; omega)).trans Cw0_2.out)
  have Cw0_3 := Lib.hid ((hbel.cell (p := ⟨w4.heap.size, 3, none⟩) (by simp only []; omega)).trans Cw0_3.out)
  have Cg0_0 := Lib.hid ((hbel.cell (p := ⟨w8.heap.size, 0, none⟩) (by simp only []; omega)).trans Cg0_0.out)
  have Cg0_1 := Lib.hid ((hbel.cell (p := ⟨w8.heap.size, 1, none⟩) (by simp only []; omega)).trans Cg0_1.out)
  have Cg0_2 := Lib.hid ((hbel.cell (p := ⟨w8.heap.size, 2, none⟩) (by simp only []; omega)).trans Cg0_2.out)
  have Cg0_3 := Lib.hid ((hbel.cell (p := ⟨w8.heap.size, 3, none⟩) (by simp only []; omega)).trans Cg0_3.out)
  have Ow0 := Lib.hid (show OwC w17 w3.heap.size wA0 wB0 wG0 wc0 wd0 wg0 U0 from OwC.below Ow0.out hbel)
  clear hbel
  have v33 := Ca0_0.out
  have v34 := Ca0_1.out
  have v35 := Ca0_2.out
  have v36 := Ca0_3.out
  go_wp2_with fail
  go_at_call 17
  clear v33 v34 v35 v36
  refine (toRegCode_any w.heap.size A0 B0 G0 c0 d0 g0 q0 w17 hli0 hlp0 hlo0 (by omega) (H0.out.below HB.out)).mono ?_
  rintro e w18 ⟨zA0, zB0, zG0, zc0, zd0, zg0, rfl, hown, hbel⟩
  have Oz0' := Lib.hid hown
  clear hown
  have hsw18 : w17.heap.size ≤ w18.heap.size := hbel.size
  have HB := Lib.hid (HB.out.trans (hbel.mono (by omega)))
  have Ca0_0 := Lib.hid ((hbel.cell (p := ⟨w.heap.size, 0, none⟩) (by simp only []; omega)).trans Ca0_0.out)
  have Ca0_1 := Lib.hid ((hbel.cell (p := ⟨w.heap.size, 1, none⟩) (by simp only []; omega)).trans Ca0_1.out)
  have Ca0_2 := Lib.hid ((hbel.cell (p := ⟨w.heap.size, 2, none⟩) (by simp only []; omega)).trans Ca0_2.out)
  have Ca0_3 := Lib.hid ((hbel.cell (p := ⟨w.heap.size, 3, none⟩) (by simp only []; omega)).trans Ca0_3.out)
  have Cw0_0 := Lib.hid ((hbel.cell (p := ⟨w4.heap.size, 0, none⟩) (by simp only []; omega)).trans Cw0_0.out)
  have Cw0_1 := Lib.hid ((hbel.cell (p := ⟨w4.heap.size, 1, none⟩) (by simp only []; omega)).trans Cw0_1.out)
  have Cw0_2 := Lib.hid ((hbel.cell (p := ⟨w4.heap.size, 2, none⟩) (by simp only []; omega)).trans Cw0_2.out)
  have Cw0_3 := Lib.hid ((hbel.cell (p := ⟨w4.heap.size, 3, none⟩) (by simp only []; omega)).trans Cw0_3.out)
  have Cg0_0 := Lib.hid ((hbel.cell (p := ⟨w8.heap.size, 0, none⟩) (by simp only []; omega)).trans Cg0_0.out)
  have Cg0_1 := Lib.hid ((hbel.cell (p := ⟨w8.heap.size, 1, none⟩) (by simp only []; omega)).trans Cg0_1.out)
  have Cg0_2 := Lib.hid ((hbel.cell (p := ⟨w8.heap.size, 2, none⟩) (by simp only []; omega)).trans Cg0_2.out)
  have Cg0_3 := Lib.hid ((hbel.cell (p := ⟨w8.heap.size, 3, none⟩) (by simp only []; omega)).trans Cg0_3.out)
  have Ow0 := Lib.hid (show OwC w18 w3.heap.size wA0 wB0 wG0 wc0 wd0 wg0 U0 from OwC.below Ow0.out hbel)
  have HBM := Lib.hid (HBM.out.trans (hbel.mono (by omega)))
  clear hbel
  have Oz0 := Lib.hid (show OwC w18 w17.heap.size zA0 zB0 zG0 zc0 zd0 zg0 q0 from Oz0'.out)
  have Uz0 := Lib.hid (show (∀ k, (Value.slice zA0 q0.i.length zc0).ownBlock = some k → k < w18.heap.size) ∧ (∀ k, (Value.slice zB0 q0.ops.length zd0).ownBlock = some k → k < w18.heap.size) ∧ (∀ k, (Value.slice zG0 q0.o.length zg0).ownBlock = some k → k < w18.heap.size) from ⟨fun k hk => (own_block (Oz0.out).1 k hk).2, fun k hk => (own_block (Oz0.out).2.1 k hk).2, fun k hk => (own_block (Oz0.out).2.2.1 k hk).2⟩)
  clear Oz0'
  go_wp2_with fail
  go_at_call 18
  refine (HIMPL.out w18 zA0 zB0 zG0 zc0 zd0 zg0 (Oz0.out).cap (Oz0.out).rd).mono ?_
  rintro e w19 ⟨hA0, hB0, hG0, hc0, hd0, hg0, rfl, hown0, hbel⟩
  have Oh0' := Lib.hid hown0
  clear hown0
  have hsw19 : w18.heap.size ≤ w19.heap.size := hbel.size
  have HB := Lib.hid (HB.out.trans (hbel.mono (by omega)))
  have Ca0_0 := Lib.hid ((hbel.cell (p := ⟨w.heap.size, 0, none⟩) (by simp only []; omega)).trans Ca0_0.out)
  have Ca0_1 := Lib.hid ((hbel.cell (p := ⟨w.heap.size, 1, none⟩) (by simp only []; omega)).trans Ca0_1.out)
  have Ca0_2 := Lib.hid ((hbel.cell (p := ⟨w.heap.size, 2, none⟩) (by simp only []; omega)).trans Ca0_2.out)
  have Ca0_3 := Lib.hid ((hbel.cell (p := ⟨w.heap.size, 3, none⟩) (by simp only []; omega)).trans Ca0_3.out)
  have Cw0_0 := Lib.hid ((hbel.cell (p := ⟨w4.heap.size, 0, none⟩) (by simp only []; omega)).trans Cw0_0.out)
  have Cw0_1 := Lib.hid ((hbel.cell (p := ⟨w4.heap.size, 1, none⟩) (by simp only []; omega)).trans Cw0_1.out)
  have Cw0_2 := Lib.hid ((hbel.cell (p := ⟨w4.heap.size, 2, none⟩) (by simp only []; omega)).trans Cw0_2.out)
  have Cw0_3 := Lib.hid ((hbel.cell (p := ⟨w4.heap.size, 3, none⟩) (by simp only []; omega)).trans Cw0_3.out)
  have Cg0_0 := Lib.hid ((hbel.cell (p := ⟨w8.heap.size, 0, none⟩) (by simp only []; omega)).trans Cg0_0.out)
  have Cg0_1 := Lib.hid ((hbel.cell (p := ⟨w8.heap.size, 1, none⟩) (by simp only []; omega)).trans Cg0_1.out)
  have Cg0_2 := Lib.hid ((hbel.cell (p := ⟨w8.heap.size, 2, none⟩) (by simp only []; omega)).trans Cg0_2.out)
  have Cg0_3 := Lib.hid ((hbel.cell (p := ⟨w8.heap.size, 3, none⟩) (by simp only []; omega)).trans Cg0_3.out)
  have Ow0 := Lib.hid (show OwC w19 w3.heap.size wA0 wB0 wG0 wc0 wd0 wg0 U0 from OwC.below Ow0.out hbel)
  have Oz0 := Lib.hid (show OwC w19 w17.heap.size zA0 zB0 zG0 zc0 zd0 zg0 q0 from OwC.below Oz0.out hbel)
  have HBM := Lib.hid (HBM.out.trans (hbel.mono (by omega)))
  clear hbel
  have Oh0 := Lib.hid (show OwC w19 w18.heap.size hA0 hB0 hG0 hc0 hd0 hg0 U0 from Oh0'.out)
  have Uh0 := Lib.hid (show (∀ k, (Value.slice hA0 U0.i.length hc0).ownBlock = some k → k < w19.heap.size) ∧ (∀ k, (Value.slice hB0 U0.ops.length hd0).ownBlock = some k → k < w19.heap.size) ∧ (∀ k, (Value.slice hG0 U0.o.length hg0).ownBlock = some k → k < w19.heap.size) from ⟨fun k hk => (own_block (Oh0.out).1 k hk).2, fun k hk => (own_block (Oh0.out).2.1 k hk).2, fun k hk => (own_block (Oh0.out).2.2.1 k hk).2⟩)
  clear Oh0'
  have v37 := cell_kept Cw0_0.out
  have v38 := cell_kept Cw0_1.out
  have v39 := cell_kept Cw0_2.out
  have v40 := cell_kept Cw0_3.out
  go_wp2_with fail
  go_at_call 19
  clear v37 v38 v39 v40
  generalize hww20 : World.alloc w19 _ = w20
  obtain ⟨x0', x1', x2', x3', hxw20, hbx⟩ := bx4 hww20
  clear hww20
  have hxP := hxw20
  have hsw20 : w19.heap.size ≤ w20.heap.size := hbx.size
  have HB := Lib.hid (HB.out.trans (hbx.mono (by omega)))
  have Ca0_0 := Lib.hid ((hbx.cell (p := ⟨w.heap.size, 0, none⟩) (by simp only []; omega)).trans Ca0_0.out)
  have Ca0_1 := Lib.hid ((hbx.cell (p := ⟨w.heap.size, 1, none⟩) (by simp only []; omega)).trans Ca0_1.out)
  have Ca0_2 := Lib.hid ((hbx.cell (p := ⟨w.heap.size, 2, none⟩) (by simp only []; omega)).trans Ca0_2.out)
  have Ca0_3 := Lib.hid ((hbx.cell (p := ⟨w.heap.size, 3, none⟩) (by simp only []; omega)).trans Ca0_3.out)
  have Cw0_0 := Lib.hid ((hbx.cell (p := ⟨w4.heap.size, 0, none⟩) (by simp only []; omega)).trans Cw0_0.out)
  have Cw0_1 := Lib.hid ((hbx.cell (p := ⟨w4.heap.size, 1, none⟩) (by simp only []; omega)).trans Cw0_1.out)
  have Cw0_2 := Lib.hid ((hbx.cell (p := ⟨w4.heap.size, 2, none⟩) (by simp only []; omega)).trans Cw0_2.out)
  have Cw0_3 := Lib.hid ((hbx.cell (p := ⟨w4.heap.size, 3, none⟩) (by simp only []; omega)).trans Cw0_3.out)
  have Cg0_0 := Lib.hid ((hbx.cell (p := ⟨w8.heap.size, 0, none⟩) (by simp only []; omega)).trans Cg0_0.out)
  have Cg0_1 := Lib.hid ((hbx.cell (p := ⟨w8.heap.size, 1, none⟩) (by simp only []; omega)).trans Cg0_1.out)
  have Cg0_2 := Lib.hid ((hbx.cell (p := ⟨w8.heap.size, 2, none⟩) (by simp only []; omega)).trans Cg0_2.out)
  have Cg0_3 := Lib.hid ((hbx.cell (p := ⟨w8.heap.size, 3, none⟩) (by simp only []; omega)).trans Cg0_3.out)
  have Ow0 := Lib.hid (show OwC w20 w3.heap.size wA0 wB0 wG0 wc0 wd0 wg0 U0 from OwC.below Ow0.out hbx)
  have Oz0 := Lib.hid (show OwC w20 w17.heap.size zA0 zB0 zG0 zc0 zd0 zg0 q0 from OwC.below Oz0.out hbx)
  have Oh0 := Lib.hid (show OwC w20 w18.heap.size hA0 hB0 hG0 hc0 hd0 hg0 U0 from OwC.below Oh0.out hbx)
  have HBM := Lib.hid (HBM.out.trans (hbx.mono (by omega)))
  clear hbx
  have Ch0_0 := Lib.hid x0'
  have Ch0_1 := Lib.hid x1'
  have Ch0_2 := Lib.hid x2'
  have Ch0_3 := Lib.hid x3'
  clear x0' x1' x2' x3'
  refine (eqRegCode_refl w20.heap.size w20.heap.size hA0 hB0 hG0 wA0 wB0 wG0 hc0 hd0 hg0 wc0 wd0 wg0 U0 w20 (by omega) (by omega) (by omega) (Nat.le_refl _) (Nat.le_refl _) (Oh0.out).rd (Ow0.out).rd).mono ?_
  rintro e w21 ⟨rfl, hbel⟩
  have hsw21 : w20.heap.size ≤ w21.heap.size := hbel.size
  have HB := Lib.hid (HB.out.trans (hbel.mono (by omega)))
  have Ca0_0 := Lib.hid ((hbel.cell (p := ⟨w.heap.size, 0, none⟩) (by simp only []; omega)).trans Ca0_0.out)
  have Ca0_1 := Lib.hid ((hbel.cell (p := ⟨w.heap.size, 1, none⟩) (by simp only []; omega)).trans Ca0_1.out)
  have Ca0_2 := Lib.hid ((hbel.cell (p := ⟨w.heap.size, 2, none⟩) (by simp only []; omega)).trans Ca0_2.out)
  have Ca0_3 := Lib.hid ((hbel.cell (p := ⟨w.heap.size, 3, none⟩) (by simp only []; omega)).trans Ca0_3.out)
  have Cw0_0 := Lib.hid ((hbel.cell (p := ⟨w4.heap.size, 0, none⟩) (by simp only []; omega)).trans Cw0_0.out)
  have Cw0_1 := Lib.hid ((hbel.cell (p := ⟨w4.heap.size, 1, none⟩) (by simp only []; omega)).trans Cw0_1.out)
  have Cw0_2 := Lib.hid ((hbel.cell (p := ⟨w4.heap.size, 2, none⟩) (by simp only []; omega)).trans Cw0_2.out)
  have Cw0_3 := Lib.hid ((hbel.cell (p := ⟨w4.heap.size, 3, none⟩) (by simp only []; omega)).trans Cw0_3.out)
  have Cg0_0 := Lib.hid ((hbel.cell (p := ⟨w8.heap.size, 0, none⟩) (by simp only []; omega)).trans Cg0_0.out)
  have Cg0_1 := Lib.hid ((hbel.cell (p := ⟨w8.heap.size, 1, none⟩) (by simp only []; omega)).trans Cg0_1.out)
  have Cg0_2 := Lib.hid ((hbel.cell (p := ⟨w8.heap.size, 2, none⟩) (by simp only []; omega)).trans Cg0_2.out)
  have Cg0_3 := Lib.hid ((hbel.cell (p := ⟨w8.heap.size, 3, none⟩) (by simp only []; omega)).trans Cg0_3.out)
  have Ch0_0 := Lib.hid ((hbel.cell (p := ⟨w19.heap.size, 0, none⟩) (by simp only []; omega)).trans Ch0_0.out)
  have Ch0_1 := Lib.hid ((hbel.cell (p := ⟨w19.heap.size, 1, none⟩) (by simp only []; omega)).trans Ch0_1.out)
  have Ch0_2 := Lib.hid ((hbel.cell (p := ⟨w19.heap.size, 2, none⟩) (by simp only []; omega)).trans Ch0_2.out)
  have Ch0_3 := Lib.hid ((hbel.cell (p := ⟨w19.heap.size, 3, none⟩) (by simp only []; omega)).trans Ch0_3.out)
  have Ow0 := Lib.hid (show OwC w21 w3.heap.size wA0 wB0 wG0 wc0 wd0 wg0 U0 from OwC.below Ow0.out hbel)
  have Oz0 := Lib.hid (show OwC w21 w17.heap.size zA0 zB0 zG0 zc0 zd0 zg0 q0 from OwC.below Oz0.out hbel)
  have Oh0 := Lib.hid (show OwC w21 w18.heap.size hA0 hB0 hG0 hc0 hd0 hg0 U0 from OwC.below Oh0.out hbel)
  have HBM := Lib.hid (HBM.out.trans (hbel.mono (by omega)))
  clear hbel
  have v41 := Cg0_0.out
  have v42 := Cg0_1.out
  have v43 := Cg0_2.out
  have v44 := Cg0_3.out
  go_wp2_with fail
  go_at_call 21
  clear v41 v42 v43 v44
  refine (heldRegCode_any w16.heap.size gA0 gB0 gG0 gc0 gd0 gg0 U0.i.length U0.ops.length U0.o.length U0.r 1 w21 (by omega) (by omega) (by omega) (by omega) (by omega) (by omega) (HM.out.1.below HBM.out) (HM.out.2.1.below HBM.out) (HM.out.2.2.below HBM.out)).mono ?_
  rintro e w22 ⟨rfl, hbel⟩
  have hsw22 : w21.heap.size ≤ w22.heap.size := hbel.size
  have HB := Lib.hid (HB.out.trans (hbel.mono (by omega)))
  have Ca0_0 := Lib.hid ((hbel.cell (p := ⟨w.heap.size, 0, none⟩) (by simp only []; omega)).trans Ca0_0.out)
  have Ca0_1 := Lib.hid ((hbel.cell (p := ⟨w.heap.size, 1, none⟩) (by simp only []; omega)).trans Ca0_1.out)
  have Ca0_2 := Lib.hid ((hbel.cell (p := ⟨w.heap.size, 2, none⟩) (by simp only []; omega)).trans Ca0_2.out)
  have Ca0_3 := Lib.hid ((hbel.cell (p := ⟨w.heap.size, 3, none⟩) (by simp only []; omega)).trans Ca0_3.out)
  have Cw0_0 := Lib.hid ((hbel.cell (p := ⟨w4.heap.size, 0, none⟩) (by simp only []; omega)).trans Cw0_0.out)
  have Cw0_1 := Lib.hid ((hbel.cell (p := ⟨w4.heap.size, 1, none⟩) (by simp only []; omega)).trans Cw0_1.out)
  have Cw0_2 := Lib.hid ((hbel.cell (p := ⟨w4.heap.size, 2, none⟩) (by simp only []; omega)).trans Cw0_2.out)
  have Cw0_3 := Lib.hid ((hbel.cell (p := ⟨w4.heap.size, 3, none⟩) (by simp only []; omega)).trans Cw0_3.out)
  have Cg0_0 := Lib.hid ((hbel.cell (p := ⟨w8.heap.size, 0, none⟩) (by simp only []; omega)).trans Cg0_0.out)
  have Cg0_1 := Lib.hid ((hbel.cell (p := ⟨w8.heap.size, 1, none⟩) (by simp only []; omega)).trans Cg0_1.out)
  have Cg0_2 := Lib.hid ((hbel.cell (p := ⟨w8.heap.size, 2, none⟩) (by simp only []; omega)).trans Cg0_2.out)
  have Cg0_3 := Lib.hid ((hbel.cell (p := ⟨w8.heap.size, 3, none⟩) (by simp only []; omega)).trans Cg0_3.out)
  have Ch0_0 := Lib.hid ((hbel.cell (p := ⟨w19.heap.size, 0, none⟩) (by simp only []; omega)).trans Ch0_0.out)
  have Ch0_1 := Lib.hid ((hbel.cell (p := ⟨w19.heap.size, 1, none⟩) (by simp only []; omega)).trans Ch0_1.out)
  have Ch0_2 := Lib.hid ((hbel.cell (p := ⟨w19.heap.size, 2, none⟩) (by simp only []; omega)).trans Ch0_2.out)
  have Ch0_3 := Lib.hid ((hbel.cell (p := ⟨w19.heap.size, 3, none⟩) (by simp only []; omega)).trans Ch0_3.out)
  have Ow0 := Lib.hid (show OwC w22 w3.heap.size wA0 wB0 wG0 wc0 wd0 wg0 U0 from OwC.below Ow0.out hbel)
  have Oz0 := Lib.hid (show OwC w22 w17.heap.size zA0 zB0 zG0 zc0 zd0 zg0 q0 from OwC.below Oz0.out hbel)
  have Oh0 := Lib.hid (show OwC w22 w18.heap.size hA0 hB0 hG0 hc0 hd0 hg0 U0 from OwC.below Oh0.out hbel)
  have HBM := Lib.hid (HBM.out.trans (hbel.mono (by omega)))
  clear hbel
  go_wp2
  go_ret
  exact ⟨rfl, HB.out⟩

set_option maxRecDepth 100000 in
theorem packRegisters_lifted (os : Os) (started : os.Started) (H : Type) (enc : TypeId × Value → H) :
    ReturnsInHanded {} Try.checked os 3 .any (Rows.fnExactPackRegistersSpec.pre6 enc Try.prog Try.f3 Rows.fnExactPackRegistersRow.domain false) (Rows.fnExactPackRegistersSpec.post enc Try.prog Try.f3 false true false false) := by
  refine returnsInHanded_of_change (C := Try.checked) own started (by kernel_rfl) Try.func3
    (ChangeSpec.witness6 (enc := enc) (C := Try.checked) false ⟨#[], #[.agg #[.int .i64 0, .slice none 0 0, .slice none 0 0, .slice none 0 0]], []⟩ 8 (by kernel_rfl) (by kernel_rfl) (by kernel_rfl) (by kernel_rfl)) ?_
  intro W base args ds gs before hval0 hW _ _
  have hval : ∀ (j : Nat) t v, Try.f3.params[j]? = some t → args[j]? = some v → Value.okWide Try.prog W .any base t v := hval0
  have hW' := hW
  obtain ⟨p, q, hA0, hV, rfl, hfz, hnd⟩ := hW
  have hA : DataW.TrodAll enc Try.prog W 0 (fun _ => true) true Try.f3.params.toList args.toList ds p := hA0
  rw [Try.params3] at hA hval
  obtain ⟨v0, d0, rfl, rfl, h0⟩ := trodAll_one hA
  obtain ⟨rfl, rfl⟩ := trodVars_none hV
  have h0k := h0
  obtain ⟨A0, B0, G0, c0, d0', g0, q0, hx0, ln0, lo0, lp0, hrd0⟩ := open_code (hval 0 25 v0 rfl rfl) h0
  subst hx0
  clear hA0 hval0
  simp only [List.append_nil] at hW'
  refine (lawPackRegisters A0 B0 G0 c0 d0' g0 q0 W ln0 lo0 lp0 hrd0).mono fun e W' ⟨he, hb⟩ => ?_
  subst he
  have hlt : ∀ x ∈ p, x.block < W.heap.size := fun x hx => by simpa using hW'.lt x hx
  refine ⟨_, rfl, _, _, _, [], p, [], hW', trodAll_mk1 (shut_bool Try.underlying4 _), ?_, rfl, hb.frame _, fun h => by cases h⟩
  exact trodAll_mk1 (Below.trod laidOut (by kernel_rfl) (of_decide_eq_true (by kernel_rfl)) h0k hb hlt)

theorem packRegisters_holds : Rows.FnExactPackRegistersSaid :=
  OpenClaim.holds_of_wide 3 Try.f3 rfl rfl rfl rfl rfl rfl rfl ⟨rfl, rfl, rfl, rfl, rfl⟩ rfl rfl rfl rfl rfl (by kernel_rfl) Try.func3 (by kernel_rfl)
    (of_decide_eq_true (by kernel_rfl)) (by unfold Func.isWrapper; rw [if_neg (of_decide_eq_false (by kernel_rfl))]; exact ⟨rfl, rfl⟩)
    (fun os started H enc _ => packRegisters_lifted os started H enc)
end Go.Proofs.Ytbbjgcagkmlngab
