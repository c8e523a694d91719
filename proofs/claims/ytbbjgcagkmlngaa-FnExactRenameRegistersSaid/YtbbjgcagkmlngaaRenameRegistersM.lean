/- The law FnExactRenameRegisters holds: for every argument, valid or not, RenameRegisters of the program answers as RenameRegisters of the model, writes into no argument, and its answer owns its memory. No condition. -/
import Derived.Test.YtbbjgcagkmlngaaPR0
import Derived.Test.YtbbjgcagkmlngaaPR1
import Derived.Test.YtbbjgcagkmlngaaPY0
namespace Go.Proofs.Ytbbjgcagkmlngaa
open Go.ChangeShapes Go.WideShapes Go.ChangeAt Go.RowKit Go.Deep Go.Joins

set_option maxRecDepth 100000 in
set_option maxHeartbeats 8000000 in
theorem lawRenameRegisters (A0 : Option Addr) (B0 : Option Addr) (G0 : Option Addr) (c0 : Nat) (d0 : Nat) (g0 : Nat) (q0 : Rc) (A1 : Option Addr) (c1 : Nat) (l1 : List Int) (w : World) (hn0 : q0.i.length ≤ 9223372036854775807) (hm0 : q0.ops.length ≤ 9223372036854775807) (ho0 : q0.o.length ≤ 9223372036854775807) (hr0 : RdC w w.heap.size A0 B0 G0 q0) (hn1 : l1.length ≤ 9223372036854775807) (hr1 : Rd w w.heap.size 1 A1 l1.length (l1.map I)) :
    Calls Try.prog 14 #[.agg #[.int .i64 q0.r, .slice A0 q0.i.length c0, .slice B0 q0.ops.length d0, .slice G0 q0.o.length g0], .slice A1 l1.length c1] w fun e w' => e = .returned (.bool true) ∧ Below w.heap.size w w' := by
  have H0 := Lib.hid hr0
  clear hr0
  have H1 := Lib.hid hr1
  clear hr1
  by_cases hbig1 : 1048576 < l1.length
  · have ibig : (1048576 : Int) < (l1.length : Int) := by omega
    go_enter Try.func14, Try.ntmps14
    go_wp2
    go_ret
    exact ⟨rfl, (Below.refl _ _).alloc (Nat.le_refl _) _⟩
  have hl1 : l1.length ≤ 1048576 := by omega
  have il1 : ¬ (1048576 : Int) < (l1.length : Int) := by omega
  clear hbig1
  obtain ⟨sz0, hsz0⟩ : ∃ qx, szRc q0 1048576 = qx := ⟨_, rfl⟩
  have hsc0 := fun W => szRegCode_any A0 B0 G0 c0 d0 g0 q0 1048576 W (by omega) (by omega) hn0 hm0 ho0
  rw [hsz0] at hsc0
  have SZ0 := Lib.hid hsc0
  have SX0 := Lib.hid hsz0
  clear hsz0 hsc0
  go_enter Try.func14, Try.ntmps14
  go_wp2_with fail
  go_at_call 15
  generalize hww1 : World.alloc w _ = w1
  obtain ⟨x0', x1', x2', x3', hxw1, hbx⟩ := bx4 hww1
  clear hww1
  have hxP := hxw1
  have hsw1 : w.heap.size ≤ w1.heap.size := hbx.size
  have HB := Lib.hid hbx
  clear hbx
  have Ca0_0 := Lib.hid x0'
  have Ca0_1 := Lib.hid x1'
  have Ca0_2 := Lib.hid x2'
  have Ca0_3 := Lib.hid x3'
  clear x0' x1' x2' x3'
  refine (SZ0.out _).mono ?_
  rintro e w2 ⟨rfl, hbel⟩
  have hsw2 : w1.heap.size ≤ w2.heap.size := hbel.size
  have HB := Lib.hid (HB.out.trans (hbel.mono (by omega)))
  have Ca0_0 := Lib.hid ((hbel.cell (p := ⟨w.heap.size, 0, none⟩) (by simp only []; omega)).trans Ca0_0.out)
  have Ca0_1 := Lib.hid ((hbel.cell (p := ⟨w.heap.size, 1, none⟩) (by simp only []; omega)).trans Ca0_1.out)
  have Ca0_2 := Lib.hid ((hbel.cell (p := ⟨w.heap.size, 2, none⟩) (by simp only []; omega)).trans Ca0_2.out)
  have Ca0_3 := Lib.hid ((hbel.cell (p := ⟨w.heap.size, 3, none⟩) (by simp only []; omega)).trans Ca0_3.out)
  clear hbel
  by_cases hneg0 : sz0 < 0
  · go_wp2
    go_ret
    exact ⟨rfl, HB.out⟩
  obtain ⟨hli0, hlp0, hlo0⟩ := szRc_ok (c := q0) (left := 1048576) (by omega) (by rw [SX0.out]; exact hneg0)
  obtain ⟨U0, hU0⟩ : ∃ gx, rnR q0 l1 = gx := ⟨_, rfl⟩
  have hUl0 : U0.i.length ≤ 1000 ∧ U0.ops.length ≤ 1000 ∧ U0.o.length ≤ 1000 := by rw [← hU0]; exact rnR_len q0 l1
  obtain ⟨hUi0, hUp0, hUo0⟩ := hUl0
  obtain ⟨U1, hU1⟩ : ∃ gx, rnB q0 l1 = gx := ⟨_, rfl⟩
  have hspec := fun (W : World) A0' B0' G0' c0' d0' g0' A1' c1' => specRename_any (World.heap W).size A0' B0' G0' c0' d0' g0' q0 A1' c1' l1 W (Nat.le_refl _) hli0 hlp0 hlo0 hl1
  have himpl := fun (W : World) A0' B0' G0' c0' d0' g0' A1' c1' => implRename_any (World.heap W).size A0' B0' G0' c0' d0' g0' q0 A1' c1' l1 W (Nat.le_refl _) hli0 hlp0 hlo0 hl1
  rw [hU0, hU1] at hspec himpl
  have HSPEC := Lib.hid hspec
  have HIMPL := Lib.hid himpl
  clear hU0 hU1 hspec himpl
  have v1 := Ca0_0.out
  have v2 := Ca0_1.out
  have v3 := Ca0_2.out
  have v4 := Ca0_3.out
  go_wp2_with fail
  go_at_call 17
  clear v1 v2 v3 v4
  refine (toRegCode_any w.heap.size A0 B0 G0 c0 d0 g0 q0 w2 hli0 hlp0 hlo0 (by omega) (H0.out.below HB.out)).mono ?_
  rintro e w3 ⟨sA0, sB0, sG0, sc0, sd0, sg0, rfl, hown, hbel⟩
  have Os0' := Lib.hid hown
  clear hown
  have hsw3 : w2.heap.size ≤ w3.heap.size := hbel.size
  have HB := Lib.hid (HB.out.trans (hbel.mono (by omega)))
  have Ca0_0 := Lib.hid ((hbel.cell (p := ⟨w.heap.size, 0, none⟩) (by simp only []; omega)).trans Ca0_0.out)
  have Ca0_1 := Lib.hid ((hbel.cell (p := ⟨w.heap.size, 1, none⟩) (by simp only []; omega)).trans Ca0_1.out)
  have Ca0_2 := Lib.hid ((hbel.cell (p := ⟨w.heap.size, 2, none⟩) (by simp only []; omega)).trans Ca0_2.out)
  have Ca0_3 := Lib.hid ((hbel.cell (p := ⟨w.heap.size, 3, none⟩) (by simp only []; omega)).trans Ca0_3.out)
  clear hbel
  have Os0 := Lib.hid (show OwC w3 w2.heap.size sA0 sB0 sG0 sc0 sd0 sg0 q0 from Os0'.out)
  have Us0 := Lib.hid (show (∀ k, (Value.slice sA0 q0.i.length sc0).ownBlock = some k → k < w3.heap.size) ∧ (∀ k, (Value.slice sB0 q0.ops.length sd0).ownBlock = some k → k < w3.heap.size) ∧ (∀ k, (Value.slice sG0 q0.o.length sg0).ownBlock = some k → k < w3.heap.size) from ⟨fun k hk => (own_block (Os0.out).1 k hk).2, fun k hk => (own_block (Os0.out).2.1 k hk).2, fun k hk => (own_block (Os0.out).2.2.1 k hk).2⟩)
  clear Os0'
  go_wp2_with fail
  go_at_call 27
  refine (toIntS_any w.heap.size A1 c1 l1 w3 hl1 (by omega) (H1.out.below HB.out)).mono ?_
  rintro e w4 ⟨sA1, sc1, rfl, hown, hbel⟩
  have Os1' := Lib.hid hown
  clear hown
  have hsw4 : w3.heap.size ≤ w4.heap.size := hbel.size
  have HB := Lib.hid (HB.out.trans (hbel.mono (by omega)))
  have Ca0_0 := Lib.hid ((hbel.cell (p := ⟨w.heap.size, 0, none⟩) (by simp only []; omega)).trans Ca0_0.out)
  have Ca0_1 := Lib.hid ((hbel.cell (p := ⟨w.heap.size, 1, none⟩) (by simp only []; omega)).trans Ca0_1.out)
  have Ca0_2 := Lib.hid ((hbel.cell (p := ⟨w.heap.size, 2, none⟩) (by simp only []; omega)).trans Ca0_2.out)
  have Ca0_3 := Lib.hid ((hbel.cell (p := ⟨w.heap.size, 3, none⟩) (by simp only []; omega)).trans Ca0_3.out)
  have Os0 := Lib.hid (show OwC w4 w2.heap.size sA0 sB0 sG0 sc0 sd0 sg0 q0 from OwC.below Os0.out hbel)
  clear hbel
  have Os1 := Lib.hid (show OwI w4 w3.heap.size (.slice sA1 l1.length sc1) l1 from Os1'.out)
  have Us1 := Lib.hid (show ∀ k, (Value.slice sA1 l1.length sc1).ownBlock = some k → k < w4.heap.size from fun k hk => (own_block Os1.out k hk).2)
  clear Os1'
  go_wp2_with fail
  go_at_call 51
  refine (HSPEC.out w4 sA0 sB0 sG0 sc0 sd0 sg0 sA1 sc1 (Os0.out).cap (Os1.out).cap (Os0.out).rd (Os1.out).rd).mono ?_
  rintro e w5 ⟨wA0, wB0, wG0, wc0, wd0, wg0, rfl, hown0, hbel⟩
  have Ow0' := Lib.hid hown0
  clear hown0
  have hsw5 : w4.heap.size ≤ w5.heap.size := hbel.size
  have HB := Lib.hid (HB.out.trans (hbel.mono (by omega)))
  have Ca0_0 := Lib.hid ((hbel.cell (p := ⟨w.heap.size, 0, none⟩) (by simp only []; omega)).trans Ca0_0.out)
  have Ca0_1 := Lib.hid ((hbel.cell (p := ⟨w.heap.size, 1, none⟩) (by simp only []; omega)).trans Ca0_1.out)
  have Ca0_2 := Lib.hid ((hbel.cell (p := ⟨w.heap.size, 2, none⟩) (by simp only []; omega)).trans Ca0_2.out)
  have Ca0_3 := Lib.hid ((hbel.cell (p := ⟨w.heap.size, 3, none⟩) (by simp only []; omega)).trans Ca0_3.out)
  have Os0 := Lib.hid (show OwC w5 w2.heap.size sA0 sB0 sG0 sc0 sd0 sg0 q0 from OwC.below Os0.out hbel)
  have Os1 := Lib.hid (show OwI w5 w3.heap.size (.slice sA1 l1.length sc1) l1 from OwI.below Os1.out hbel)
  clear hbel
  have Ow0 := Lib.hid (show OwC w5 w4.heap.size wA0 wB0 wG0 wc0 wd0 wg0 U0 from Ow0'.out)
  have Uw0 := Lib.hid (show (∀ k, (Value.slice wA0 U0.i.length wc0).ownBlock = some k → k < w5.heap.size) ∧ (∀ k, (Value.slice wB0 U0.ops.length wd0).ownBlock = some k → k < w5.heap.size) ∧ (∀ k, (Value.slice wG0 U0.o.length wg0).ownBlock = some k → k < w5.heap.size) from ⟨fun k hk => (own_block (Ow0.out).1 k hk).2, fun k hk => (own_block (Ow0.out).2.1 k hk).2, fun k hk => (own_block (Ow0.out).2.2.1 k hk).2⟩)
  clear Ow0'
  have v5 := cell_kept Ca0_0.out
  have v6 := cell_kept Ca0_1.out
  have v7 := cell_kept Ca0_2.out
  have v8 := cell_kept Ca0_3.out
  go_wp2_with fail
  go_at_call 17
  clear v5 v6 v7 v8
  generalize hww6 : World.alloc w5 _ = w6
  obtain ⟨x0', x1', x2', x3', hxw6, hbx⟩ := bx4 hww6
  clear hww6
  have hxP := hxw6
  have hsw6 : w5.heap.size ≤ w6.heap.size := hbx.size
  have HB := Lib.hid (HB.out.trans (hbx.mono (by omega)))
  have Ca0_0 := Lib.hid ((hbx.cell (p := ⟨w.heap.size, 0, none⟩) (by simp only []; omega)).trans Ca0_0.out)
  have Ca0_1 := Lib.hid ((hbx.cell (p := ⟨w.heap.size, 1, none⟩) (by simp only []; omega)).trans Ca0_1.out)
  have Ca0_2 := Lib.hid ((hbx.cell (p := ⟨w.heap.size, 2, none⟩) (by simp only []; omega)).trans Ca0_2.out)
  have Ca0_3 := Lib.hid ((hbx.cell (p := ⟨w.heap.size, 3, none⟩) (by simp only []; omega)).trans Ca0_3.out)
  have Ow0 := Lib.hid (show OwC w6 w4.heap.size wA0 wB0 wG0 wc0 wd0 wg0 U0 from OwC.below Ow0.out hbx)
  clear hbx
  have Cw0_0 := Lib.hid x0'
  have Cw0_1 := Lib.hid x1'
  have Cw0_2 := Lib.hid x2'
  have Cw0_3 := Lib.hid x3'
  clear x0' x1' x2' x3'
  refine (toRegCode_any w.heap.size A0 B0 G0 c0 d0 g0 q0 w6 hli0 hlp0 hlo0 (by omega) (H0.out.below HB.out)).mono ?_
  rintro e w7 ⟨xA0, xB0, xG0, xc0, xd0, xg0, rfl, hown, hbel⟩
  have Ox0' := Lib.hid hown
  clear hown
  have hsw7 : w6.heap.size ≤ w7.heap.size := hbel.size
  have HB := Lib.hid (HB.out.trans (hbel.mono (by omega)))
  have Ca0_0 := Lib.hid ((hbel.cell (p := ⟨w.heap.size, 0, none⟩) (by simp only []; omega)).trans Ca0_0.out)
  have Ca0_1 := Lib.hid ((hbel.cell (p := ⟨w.heap.size, 1, none⟩) (by simp only []; omega)).trans Ca0_1.out)
  have Ca0_2 := Lib.hid ((hbel.cell (p := ⟨w.heap.size, 2, none⟩) (by simp only []; omega)).trans Ca0_2.out)
  have Ca0_3 := Lib.hid ((hbel.cell (p := ⟨w.heap.size, 3, none⟩) (by simp only []; omega)).trans Ca0_3.out)
  have Cw0_0 := Lib.hid ((hbel.cell (p := ⟨w5.heap.size, 0, none⟩) (by simp only []; omega)).trans Cw0_0.out)
  have Cw0_1 := Lib.hid ((hbel.cell (p := ⟨w5.heap.size, 1, none⟩) (by simp only []; omega)).trans Cw0_1.out)
  have Cw0_2 := Lib.hid ((hbel.cell (p := ⟨w5.heap.size, 2, none⟩) (by simp only []; omega)).trans Cw0_2.out)
  have Cw0_3 := Lib.hid ((hbel.cell (p := ⟨w5.heap.size, 3, none⟩) (by simp only []; omega)).trans Cw0_3.out)
  have Ow0 := Lib.hid (show OwC w7 w4.heap.size wA0 wB0 wG0 wc0 wd0 wg0 U0 from OwC.below Ow0.out hbel)
  clear hbel
  have Ox0 := Lib.hid (show OwC w7 w6.heap.size xA0 xB0 xG0 xc0 xd0 xg0 q0 from Ox0'.out)
  have Ux0 := Lib.hid (show (∀ k, (Value.slice xA0 q0.i.length xc0).ownBlock = some k → k < w7.heap.size) ∧ (∀ k, (Value.slice xB0 q0.ops.length xd0).ownBlock = some k → k < w7.heap.size) ∧ (∀ k, (Value.slice xG0 q0.o.length xg0).ownBlock = some k → k < w7.heap.size) from ⟨fun k hk => (own_block (Ox0.out).1 k hk).2, fun k hk => (own_block (Ox0.out).2.1 k hk).2, fun k hk => (own_block (Ox0.out).2.2.1 k hk).2⟩)
  clear Ox0'
  go_wp2_with fail
  go_at_call 27
  generalize hww8 : World.alloc w7 _ = w8
  obtain ⟨x0', x1', x2', x3', hxw8, hbx⟩ := bx4 hww8
  clear hww8
  have hxP := hxw8
  have hsw8 : w7.heap.size ≤ w8.heap.size := hbx.size
  have HB := Lib.hid (HB.out.trans (hbx.mono (by omega)))
  have Ca0_0 := Lib.hid ((hbx.cell (p := ⟨w.heap.size, 0, none⟩) (by simp only []; omega)).trans Ca0_0.out)
  have Ca0_1 := Lib.hid ((hbx.cell (p := ⟨w.heap.size, 1, none⟩) (by simp only []; omega)).trans Ca0_1.out)
  have Ca0_2 := Lib.hid ((hbx.cell (p := ⟨w.heap.size, 2, none⟩) (by simp only []; omega)).trans Ca0_2.out)
  have Ca0_3 := Lib.hid ((hbx.cell (p := ⟨w.heap.size, 3, none⟩) (by simp only []; omega)).trans Ca0_3.out)
  have Cw0_0 := Lib.hid ((hbx.cell (p := ⟨w5.heap.size, 0, none⟩) (by simp only []; omega)).trans Cw0_0.out)
  have Cw0_1 := Lib.hid ((hbx.cell (p := ⟨w5.heap.size, 1, none⟩) (by simp only []; omega)).trans Cw0_1.out)
  have Cw0_2 := Lib.hid ((hbx.cell (p := ⟨w5.heap.size, 2, none⟩) (by simp only []; omega)).trans Cw0_2.out)
  have Cw0_3 := Lib.hid ((hbx.cell (p := ⟨w5.heap.size, 3, none⟩) (by simp only []; omega)).trans Cw0_3.out)
  have Ow0 := Lib.hid (show OwC w8 w4.heap.size wA0 wB0 wG0 wc0 wd0 wg0 U0 from OwC.below Ow0.out hbx)
  have Ox0 := Lib.hid (show OwC w8 w6.heap.size xA0 xB0 xG0 xc0 xd0 xg0 q0 from OwC.below Ox0.out hbx)
  clear hbx
  have Cx0_0 := Lib.hid x0'
  have Cx0_1 := Lib.hid x1'
  have Cx0_2 := Lib.hid x2'
  have Cx0_3 := Lib.hid x3'
  clear x0' x1' x2' x3'
  refine (toIntS_any w.heap.size A1 c1 l1 w8 hl1 (by omega) (H1.out.below HB.out)).mono ?_
  rintro e w9 ⟨xA1, xc1, rfl, hown, hbel⟩
  have Ox1' := Lib.hid hown
  clear hown
  have hsw9 : w8.heap.size ≤ w9.heap.size := hbel.size
  have HB := Lib.hid (HB.out.trans (hbel.mono (by omega)))
  have Ca0_0 := Lib.hid ((hbel.cell (p := ⟨w.heap.size, 0, none⟩) (by simp only []; omega)).trans Ca0_0.out)
  have Ca0_1 := Lib.hid ((hbel.cell (p := ⟨w.heap.size, 1, none⟩) (by simp only []; omega)).trans Ca0_1.out)
  have Ca0_2 := Lib.hid ((hbel.cell (p := ⟨w.heap.size, 2, none⟩) (by simp only []; omega)).trans Ca0_2.out)
  have Ca0_3 := Lib.hid ((hbel.cell (p := ⟨w.heap.size, 3, none⟩) (by simp only []; omega)).trans Ca0_3.out)
  have Cw0_0 := Lib.hid ((hbel.cell (p := ⟨w5.heap.size, 0, none⟩) (by simp only []; omega)).trans Cw0_0.out)
  have Cw0_1 := Lib.hid ((hbel.cell (p := ⟨w5.heap.size, 1, none⟩) (by simp only []; omega)).trans Cw0_1.out)
  have Cw0_2 := Lib.hid ((hbel.cell (p := ⟨w5.heap.size, 2, none⟩) (by simp only []; omega)).trans Cw0_2.out)
  have Cw0_3 := Lib.hid ((hbel.cell (p := ⟨w5.heap.size, 3, none⟩) (by simp only []; omega)).trans Cw0_3.out)
  have Cx0_0 := Lib.hid ((hbel.cell (p := ⟨w7.heap.size, 0, none⟩) (by simp only []; omega)).trans Cx0_0.out)
  have Cx0_1 := Lib.hid ((hbel.cell (p := ⟨w7.heap.size, 1, none⟩) (by simp only []; omega)).trans Cx0_1.out)
  have Cx0_2 := Lib.hid ((hbel.cell (p := ⟨w7.heap.size, 2, none⟩) (by simp only []; omega)).trans Cx0_2.out)
  have Cx0_3 := Lib.hid ((hbel.cell (p := ⟨w7.heap.size, 3, none⟩) (by simp only []; omega)).trans Cx0_3.out)
  have Ow0 := Lib.hid (show OwC w9 w4.heap.size wA0 wB0 wG0 wc0 wd0 wg0 U0 from OwC.below Ow0.out hbel)
  have Ox0 := Lib.hid (show OwC w9 w6.heap.size xA0 xB0 xG0 xc0 xd0 xg0 q0 from OwC.below Ox0.out hbel)
  clear hbel
  have Ox1 := Lib.hid (show OwI w9 w8.heap.size (.slice xA1 l1.length xc1) l1 from Ox1'.out)
  have Ux1 := Lib.hid (show ∀ k, (Value.slice xA1 l1.length xc1).ownBlock = some k → k < w9.heap.size from fun k hk => (own_block Ox1.out k hk).2)
  clear Ox1'
  have v9 := Cx0_0.out
  have v10 := Cx0_1.out
  have v11 := Cx0_2.out
  have v12 := Cx0_3.out
  go_wp2_with fail
  go_at_call 52
  clear v9 v10 v11 v12
  refine (HIMPL.out w9 xA0 xB0 xG0 xc0 xd0 xg0 xA1 xc1 (Ox0.out).cap (Ox1.out).cap (Ox0.out).rd (Ox1.out).rd).mono ?_
  rintro e w10 ⟨gA0, gB0, gG0, gc0, gd0, gg0, rfl, hown0, hbel⟩
  have Og0' := Lib.hid hown0
  clear hown0
  have hsw10 : w9.heap.size ≤ w10.heap.size := hbel.size
  have HB := Lib.hid (HB.out.trans (hbel.mono (by omega)))
  have Ca0_0 := Lib.hid ((hbel.cell (p := ⟨w.heap.size, 0, none⟩) (by simp only []; omega)).trans Ca0_0.out)
  have Ca0_1 := Lib.hid ((hbel.cell (p := ⟨w.heap.size, 1, none⟩) (by simp only []; omega)).trans Ca0_1.out)
  have Ca0_2 := Lib.hid ((hbel.cell (p := ⟨w.heap.size, 2, none⟩) (by simp only []; omega)).trans Ca0_2.out)
  have Ca0_3 := Lib.hid ((hbel.cell (p := ⟨w.heap.size, 3, none⟩) (by simp only []; omega)).trans Ca0_3.out)
  have Cw0_0 := Lib.hid ((hbel.cell (p := ⟨w5.heap.size, 0, none⟩) (by simp only []; omega)).trans Cw0_0.out)
  have Cw0_1 := Lib.hid ((hbel.cell (p := ⟨w5.heap.size, 1, none⟩) (by simp only []; omega)).trans Cw0_1.out)
  have Cw0_2 := Lib.hid ((hbel.cell (p := ⟨w5.heap.size, 2, none⟩) (by simp only []; omega)).trans Cw0_2.out)
  have Cw0_3 := Lib.hid ((hbel.cell (p := ⟨w5.heap.size, 3, none⟩) (by simp only []; omega)).trans Cw0_3.out)
  have Cx0_0 := Lib.hid ((hbel.cell (p := ⟨w7.heap.size, 0, none⟩) (by simp only []; omega)).trans Cx0_0.out)
  have Cx0_1 := Lib.hid ((hbel.cell (p := ⟨w7.heap.size, 1, none⟩) (by simp only []; omega)).trans Cx0_1.out)
  have Cx0_2 := Lib.hid ((hbel.cell (p := ⟨w7.heap.size, 2, none⟩) (by simp only []; omega)).trans Cx0_2.out)
  have Cx0_3 := Lib.hid ((hbel.cell (p := ⟨w7.heap.size, 3, none⟩) (by simp only []; omega)).trans Cx0_3.out)
  have Ow0 := Lib.hid (show OwC w10 w4.heap.size wA0 wB0 wG0 wc0 wd0 wg0 U0 from OwC.below Ow0.out hbel)
  have Ox0 := Lib.hid (show OwC w10 w6.heap.size xA0 xB0 xG0 xc0 xd0 xg0 q0 from OwC.below Ox0.out hbel)
  have Ox1 := Lib.hid (show OwI w10 w8.heap.size (.slice xA1 l1.length xc1) l1 from OwI.below Ox1.out hbel)
  clear hbel
  have Og0 := Lib.hid (show OwC w10 w9.heap.size gA0 gB0 gG0 gc0 gd0 gg0 U0 from Og0'.out)
  have Ug0 := Lib.hid (show (∀ k, (Value.slice gA0 U0.i.length gc0).ownBlock = some k → k < w10.heap.size) ∧ (∀ k, (Value.slice gB0 U0.ops.length gd0).ownBlock = some k → k < w10.heap.size) ∧ (∀ k, (Value.slice gG0 U0.o.length gg0).ownBlock = some k → k < w10.heap.size) from ⟨fun k hk => (own_block (Og0.out).1 k hk).2, fun k hk => (own_block (Og0.out).2.1 k hk).2, fun k hk => (own_block (Og0.out).2.2.1 k hk).2⟩)
  clear Og0'
  have v13 := cell_kept Cw0_0.out
  have v14 := cell_kept Cw0_1.out
  have v15 := cell_kept Cw0_2.out
  have v16 := cell_kept Cw0_3.out
  go_wp2_with fail
  go_at_call 19
  clear v13 v14 v15 v16
  generalize hww11 : World.alloc w10 _ = w11
  obtain ⟨x0', x1', x2', x3', hxw11, hbx⟩ := bx4 hww11
  clear hww11
  have hxP := hxw11
  have hsw11 : w10.heap.size ≤ w11.heap.size := hbx.size
  have HB := Lib.hid (HB.out.trans (hbx.mono (by omega)))
  have Ca0_0 := Lib.hid ((hbx.cell (p := ⟨w.heap.size, 0, none⟩) (by simp only []; omega)).trans Ca0_0.out)
  have Ca0_1 := Lib.hid ((hbx.cell (p := ⟨w.heap.size, 1, none⟩) (by simp only []; omega)).trans Ca0_1.out)
  have Ca0_2 := Lib.hid ((hbx.cell (p := ⟨w.heap.size, 2, none⟩) (by simp only []; omega)).trans Ca0_2.out)
  have Ca0_3 := Lib.hid ((hbx.cell (p := ⟨w.heap.size, 3, none⟩) (by simp only []; omega)).trans Ca0_3.out)
  have Cw0_0 := Lib.hid ((hbx.cell (p := ⟨w5.heap.size, 0, none⟩) (by simp only []; omega)).trans Cw0_0.out)
  have Cw0_1 := Lib.hid ((hbx.cell (p := ⟨w5.heap.size, 1, none⟩) (by simp only []; omega)).trans Cw0_1.out)
  have Cw0_2 := Lib.hid ((hbx.cell (p := ⟨w5.heap.size, 2, none⟩) (by simp only []; omega)).trans Cw0_2.out)
  have Cw0_3 := Lib.hid ((hbx.cell (p := ⟨w5.heap.size, 3, none⟩) (by simp only []; omega)).trans Cw0_3.out)
  have Cx0_0 := Lib.hid ((hbx.cell (p := ⟨w7.heap.size, 0, none⟩) (by simp only []; omega)).trans Cx0_0.out)
  have Cx0_1 := Lib.hid ((hbx.cell (p := ⟨w7.heap.size, 1, none⟩) (by simp only []; omega)).trans Cx0_1.out)
  have Cx0_2 := Lib.hid ((hbx.cell (p := ⟨w7.heap.size, 2, none⟩) (by simp only []; omega)).trans Cx0_2.out)
  have Cx0_3 := Lib.hid ((hbx.cell (p := ⟨w7.heap.size, 3, none⟩) (by simp only []; omega)).trans Cx0_3.out)
  have Ow0 := Lib.hid (show OwC w11 w4.heap.size wA0 wB0 wG0 wc0 wd0 wg0 U0 from OwC.below Ow0.out hbx)
  have Ox0 := Lib.hid (show OwC w11 w6.heap.size xA0 xB0 xG0 xc0 xd0 xg0 q0 from OwC.below Ox0.out hbx)
  have Ox1 := Lib.hid (show OwI w11 w8.heap.size (.slice xA1 l1.length xc1) l1 from OwI.below Ox1.out hbx)
  have Og0 := Lib.hid (show OwC w11 w9.heap.size gA0 gB0 gG0 gc0 gd0 gg0 U0 from OwC.below Og0.out hbx)
  clear hbx
  have Cg0_0 := Lib.hid x0'
  have Cg0_1 := Lib.hid x1'
  have Cg0_2 := Lib.hid x2'
  have Cg0_3 := Lib.hid x3'
  clear x0' x1' x2' x3'
  refine (eqRegCode_refl w11.heap.size w11.heap.size gA0 gB0 gG0 wA0 wB0 wG0 gc0 gd0 gg0 wc0 wd0 wg0 U0 w11 (by omega) (by omega) (by omega) (Nat.le_refl _) (Nat.le_refl _) (Og0.out).rd (Ow0.out).rd).mono ?_
  rintro e w12 ⟨rfl, hbel⟩
  have hsw12 : w11.heap.size ≤ w12.heap.size := hbel.size
  have HB := Lib.hid (HB.out.trans (hbel.mono (by omega)))
  have Ca0_0 := Lib.hid ((hbel.cell (p := ⟨w.heap.size, 0, none⟩) (by simp only []; omega)).trans Ca0_0.out)
  have Ca0_1 := Lib.hid ((hbel.cell (p := ⟨w.heap.size, 1, none⟩) (by simp only []; omega)).trans Ca0_1.out)
  have Ca0_2 := Lib.hid ((hbel.cell (p := ⟨w.heap.size, 2, none⟩) (by simp only []; omega)).trans Ca0_2.out)
  have Ca0_3 := Lib.hid ((hbel.cell (p := ⟨w.heap.size, 3, none⟩) (by simp only []; omega)).trans Ca0_3.out)
  have Cw0_0 := Lib.hid ((hbel.cell (p := ⟨w5.heap.size, 0, none⟩) (by simp only []; omega)).trans Cw0_0.out)
  have Cw0_1 := Lib.hid ((hbel.cell (p := ⟨w5.heap.size, 1, none⟩) (by simp only []; omega)).trans Cw0_1.out)
  have Cw0_2 := Lib.hid ((hbel.cell (p := ⟨w5.heap.size, 2, none⟩) (by simp only []; omega)).trans Cw0_2.out)
  have Cw0_3 := Lib.hid ((hbel.cell (p := ⟨w5.heap.size, 3, none⟩) (by simp only []; omega)).trans Cw0_3.out)
  have Cx0_0 := Lib.hid ((hbel.cell (p := ⟨w7.heap.size, 0, none⟩) (by simp only []; omega)).trans Cx0_0.out)
  have Cx0_1 := Lib.hid ((hbel.cell (p := ⟨w7.heap.size, 1, none⟩) (by simp only []; omega)).trans Cx0_1.out)
  have Cx0_2 := Lib.hid ((hbel.cell (p := ⟨w7.heap.size, 2, none⟩) (by simp only []; omega)).trans Cx0_2.out)
  have Cx0_3 := Lib.hid ((hbel.cell (p := ⟨w7.heap.size, 3, none⟩) (by simp only []; omega)).trans Cx0_3.out)
  have Cg0_0 := Lib.hid ((hbel.cell (p := ⟨w10.heap.size, 0, none⟩) (by simp only []; omega)).trans Cg0_0.out)
  have Cg0_1 := Lib.hid ((hbel.cell (p := ⟨w10.heap.size, 1, none⟩) (by simp only []; omega)).trans Cg0_1.out)
  have Cg0_2 := Lib.hid ((hbel.cell (p := ⟨w10.heap.size, 2, none⟩) (by simp only []; omega)).trans Cg0_2.out)
  have Cg0_3 := Lib.hid ((hbel.cell (p := ⟨w10.heap.size, 3, none⟩) (by simp only []; omega)).trans Cg0_3.out)
  have Ow0 := Lib.hid (show OwC w12 w4.heap.size wA0 wB0 wG0 wc0 wd0 wg0 U0 from OwC.below Ow0.out hbel)
  have Ox0 := Lib.hid (show OwC w12 w6.heap.size xA0 xB0 xG0 xc0 xd0 xg0 q0 from OwC.below Ox0.out hbel)
  have Ox1 := Lib.hid (show OwI w12 w8.heap.size (.slice xA1 l1.length xc1) l1 from OwI.below Ox1.out hbel)
  have Og0 := Lib.hid (show OwC w12 w9.heap.size gA0 gB0 gG0 gc0 gd0 gg0 U0 from OwC.below Og0.out hbel)
  clear hbel
  go_wp2
  have Fx0_0 := Lib.hid (show ∀ x, Below w12.heap.size w12 x → x.cell? ⟨w7.heap.size, 0, none⟩ = some (.int .i64 q0.r) from fun x hx => (hx.cell (p := ⟨w7.heap.size, 0, none⟩) (by simp only []; omega)).trans Cx0_0.out)
  have Fx0_1 := Lib.hid (show ∀ x, Below w12.heap.size w12 x → x.cell? ⟨w7.heap.size, 1, none⟩ = some (.slice xA0 q0.i.length xc0) from fun x hx => (hx.cell (p := ⟨w7.heap.size, 1, none⟩) (by simp only []; omega)).trans Cx0_1.out)
  have Fx0_2 := Lib.hid (show ∀ x, Below w12.heap.size w12 x → x.cell? ⟨w7.heap.size, 2, none⟩ = some (.slice xB0 q0.ops.length xd0) from fun x hx => (hx.cell (p := ⟨w7.heap.size, 2, none⟩) (by simp only []; omega)).trans Cx0_2.out)
  have Fx0_3 := Lib.hid (show ∀ x, Below w12.heap.size w12 x → x.cell? ⟨w7.heap.size, 3, none⟩ = some (.slice xG0 q0.o.length xg0) from fun x hx => (hx.cell (p := ⟨w7.heap.size, 3, none⟩) (by simp only []; omega)).trans Cx0_3.out)
  have Fa0_0 := Lib.hid (show ∀ x, Below w12.heap.size w12 x → x.cell? ⟨w.heap.size, 0, none⟩ = some (.int .i64 q0.r) from fun x hx => (hx.cell (p := ⟨w.heap.size, 0, none⟩) (by simp only []; omega)).trans Ca0_0.out)
  have Fa0_1 := Lib.hid (show ∀ x, Below w12.heap.size w12 x → x.cell? ⟨w.heap.size, 1, none⟩ = some (.slice A0 q0.i.length c0) from fun x hx => (hx.cell (p := ⟨w.heap.size, 1, none⟩) (by simp only []; omega)).trans Ca0_1.out)
  have Fa0_2 := Lib.hid (show ∀ x, Below w12.heap.size w12 x → x.cell? ⟨w.heap.size, 2, none⟩ = some (.slice B0 q0.ops.length d0) from fun x hx => (hx.cell (p := ⟨w.heap.size, 2, none⟩) (by simp only []; omega)).trans Ca0_2.out)
  have Fa0_3 := Lib.hid (show ∀ x, Below w12.heap.size w12 x → x.cell? ⟨w.heap.size, 3, none⟩ = some (.slice G0 q0.o.length g0) from fun x hx => (hx.cell (p := ⟨w.heap.size, 3, none⟩) (by simp only []; omega)).trans Ca0_3.out)
  have SD := Lib.hid (show Below w12.heap.size w12 w12.drew from (Below.refl _ _).drew)
  refine wp_region_T (fun x : World => Below w12.heap.size w12 x) [0, 1, 4] [0, 1] (.ls 0 (.ls 1 (.hv 2 (.hv 3 (.lp 4 (.done)))))) (by kernel_rfl) (by kernel_rfl) ?_
  refine T_ls1 (v := .agg #[.int .i64 q0.r, .slice xA0 q0.i.length xc0, .slice xB0 q0.ops.length xd0, .slice xG0 q0.o.length xg0]) rfl rfl SD.out (fun x hx => (by have h1 := Fx0_0.out x hx; have h2 := Fx0_1.out x hx; have h3 := Fx0_2.out x hx; have h4 := Fx0_3.out x hx; go_simp)) (fun K hK => ?_)
  (go_simp; refine hK _ ?_; clear hK K)
  refine T_ls1 (v := .agg #[.int .i64 q0.r, .slice A0 q0.i.length c0, .slice B0 q0.ops.length d0, .slice G0 q0.o.length g0]) rfl rfl SD.out (fun x hx => (by have h1 := Fa0_0.out x hx; have h2 := Fa0_1.out x hx; have h3 := Fa0_2.out x hx; have h4 := Fa0_3.out x hx; go_simp)) (fun K hK => ?_)
  (go_simp; refine hK _ ?_; clear hK K)
  refine T_hvS rfl (fun K hK => ?_)
  go_simp
  go_at_call 17
  generalize hwd : w12.drew = w13 at SD ⊢
  clear hwd
  have hbd := SD.out
  have hsw13 : w12.heap.size ≤ w13.heap.size := hbd.size
  have HB := Lib.hid (HB.out.trans (hbd.mono (by omega)))
  have Ca0_0 := Lib.hid ((hbd.cell (p := ⟨w.heap.size, 0, none⟩) (by simp only []; omega)).trans Ca0_0.out)
  have Ca0_1 := Lib.hid ((hbd.cell (p := ⟨w.heap.size, 1, none⟩) (by simp only []; omega)).trans Ca0_1.out)
  have Ca0_2 := Lib.hid ((hbd.cell (p := ⟨w.heap.size, 2, none⟩) (by simp only []; omega)).trans Ca0_2.out)
  have Ca0_3 := Lib.hid ((hbd.cell (p := ⟨w.heap.size, 3, none⟩) (by simp only []; omega)).trans Ca0_3.out)
  have Cw0_0 := Lib.hid ((hbd.cell (p := ⟨w5.heap.size, 0, none⟩) (by simp only []; omega)).trans Cw0_0.out)
  have Cw0_1 := Lib.hid ((hbd.cell (p := ⟨w5.heap.size, 1, none⟩) (by simp only []; omega)).trans Cw0_1.out)
  have Cw0_2 := Lib.hid ((hbd.cell (p := ⟨w5.heap.size, 2, none⟩) (by simp only []; omega)).trans Cw0_2.out)
  have Cw0_3 := Lib.hid ((hbd.cell (p := ⟨w5.heap.size, 3, none⟩) (by simp only []; omega)).trans Cw0_3.out)
  have Cx0_0 := Lib.hid ((hbd.cell (p := ⟨w7.heap.size, 0, none⟩) (by simp only []; omega)).trans Cx0_0.out)
  have Cx0_1 := Lib.hid ((hbd.cell (p := ⟨w7.heap.size, 1, none⟩) (by simp only []; omega)).trans Cx0_1.out)
  have Cx0_2 := Lib.hid ((hbd.cell (p := ⟨w7.heap.size, 2, none⟩) (by simp only []; omega)).trans Cx0_2.out)
  have Cx0_3 := Lib.hid ((hbd.cell (p := ⟨w7.heap.size, 3, none⟩) (by simp only []; omega)).trans Cx0_3.out)
  have Cg0_0 := Lib.hid ((hbd.cell (p := ⟨w10.heap.size, 0, none⟩) (by simp only []; omega)).trans Cg0_0.out)
  have Cg0_1 := Lib.hid ((hbd.cell (p := ⟨w10.heap.size, 1, none⟩) (by simp only []; omega)).trans Cg0_1.out)
  have Cg0_2 := Lib.hid ((hbd.cell (p := ⟨w10.heap.size, 2, none⟩) (by simp only []; omega)).trans Cg0_2.out)
  have Cg0_3 := Lib.hid ((hbd.cell (p := ⟨w10.heap.size, 3, none⟩) (by simp only []; omega)).trans Cg0_3.out)
  have Ow0 := Lib.hid (show OwC w13 w4.heap.size wA0 wB0 wG0 wc0 wd0 wg0 U0 from OwC.below Ow0.out hbd)
  have Ox0 := Lib.hid (show OwC w13 w6.heap.size xA0 xB0 xG0 xc0 xd0 xg0 q0 from OwC.below Ox0.out hbd)
  have Ox1 := Lib.hid (show OwI w13 w8.heap.size (.slice xA1 l1.length xc1) l1 from OwI.below Ox1.out hbd)
  have Og0 := Lib.hid (show OwC w13 w9.heap.size gA0 gB0 gG0 gc0 gd0 gg0 U0 from OwC.below Og0.out hbd)
  clear hbd
  have SBY := Lib.hid SD.out
  refine (toRegCode_any w.heap.size A0 B0 G0 c0 d0 g0 q0 w13 hli0 hlp0 hlo0 (by omega) (H0.out.below HB.out)).mono ?_
  rintro e w14 ⟨yA0, yB0, yG0, yc0, yd0, yg0, rfl, hown, hbel⟩
  have Oy0' := Lib.hid hown
  clear hown
  have hsw14 : w13.heap.size ≤ w14.heap.size := hbel.size
  have HB := Lib.hid (HB.out.trans (hbel.mono (by omega)))
  have Ca0_0 := Lib.hid ((hbel.cell (p := ⟨w.heap.size, 0, none⟩) (by simp only []; omega)).trans Ca0_0.out)
  have Ca0_1 := Lib.hid ((hbel.cell (p := ⟨w.heap.size, 1, none⟩) (by simp only []; omega)).trans Ca0_1.out)
  have Ca0_2 := Lib.hid ((hbel.cell (p := ⟨w.heap.size, 2, none⟩) (by simp only []; omega)).trans Ca0_2.out)
  have Ca0_3 := Lib.hid ((hbel.cell (p := ⟨w.heap.size, 3, none⟩) (by simp only []; omega)).trans Ca0_3.out)
  have Cw0_0 := Lib.hid ((hbel.cell (p := ⟨w5.heap.size, 0, none⟩) (by simp only []; omega)).trans Cw0_0.out)
  have Cw0_1 := Lib.hid ((hbel.cell (p := ⟨w5.heap.size, 1, none⟩) (by simp only []; omega)).trans Cw0_1.out)
  have Cw0_2 := Lib.hid ((hbel.cell (p := ⟨w5.heap.size, 2, none⟩) (by simp only []; omega)).trans Cw0_2.out)
  have Cw0_3 := Lib.hid ((hbel.cell (p := ⟨w5.heap.size, 3, none⟩) (by simp only []; omega)).trans Cw0_3.out)
  have Cx0_0 := Lib.hid ((hbel.cell (p := ⟨w7.heap.size, 0, none⟩) (by simp only []; omega)).trans Cx0_0.out)
  have Cx0_1 := Lib.hid ((hbel.cell (p := ⟨w7.heap.size, 1, none⟩) (by simp only []; omega)).trans Cx0_1.out)
  have Cx0_2 := Lib.hid ((hbel.cell (p := ⟨w7.heap.size, 2, none⟩) (by simp only []; omega)).trans Cx0_2.out)
  have Cx0_3 := Lib.hid ((hbel.cell (p := ⟨w7.heap.size, 3, none⟩) (by simp only []; omega)).trans Cx0_3.out)
  have Cg0_0 := Lib.hid ((hbel.cell (p := ⟨w10.heap.size, 0, none⟩) (by simp only []; omega)).trans Cg0_0.out)
  have Cg0_1 := Lib.hid ((hbel.cell (p := ⟨w10.heap.size, 1, none⟩) (by simp only []; omega)).trans Cg0_1.out)
  have Cg0_2 := Lib.hid ((hbel.cell (p := ⟨w10.heap.size, 2, none⟩) (by simp only []; omega)).trans Cg0_2.out)
  have Cg0_3 := Lib.hid ((hbel.cell (p := ⟨w10.heap.size, 3, none⟩) (by simp only []; omega)).trans Cg0_3.out)
  have Ow0 := Lib.hid (show OwC w14 w4.heap.size wA0 wB0 wG0 wc0 wd0 wg0 U0 from OwC.below Ow0.out hbel)
  have Ox0 := Lib.hid (show OwC w14 w6.heap.size xA0 xB0 xG0 xc0 xd0 xg0 q0 from OwC.below Ox0.out hbel)
  have Ox1 := Lib.hid (show OwI w14 w8.heap.size (.slice xA1 l1.length xc1) l1 from OwI.below Ox1.out hbel)
  have Og0 := Lib.hid (show OwC w14 w9.heap.size gA0 gB0 gG0 gc0 gd0 gg0 U0 from OwC.below Og0.out hbel)
  have SBY := Lib.hid (SBY.out.trans (hbel.mono (by omega)))
  clear hbel
  have Oy0 := Lib.hid (show OwC w14 w13.heap.size yA0 yB0 yG0 yc0 yd0 yg0 q0 from Oy0'.out)
  have Uy0 := Lib.hid (show (∀ k, (Value.slice yA0 q0.i.length yc0).ownBlock = some k → k < w14.heap.size) ∧ (∀ k, (Value.slice yB0 q0.ops.length yd0).ownBlock = some k → k < w14.heap.size) ∧ (∀ k, (Value.slice yG0 q0.o.length yg0).ownBlock = some k → k < w14.heap.size) from ⟨fun k hk => (own_block (Oy0.out).1 k hk).2, fun k hk => (own_block (Oy0.out).2.1 k hk).2, fun k hk => (own_block (Oy0.out).2.2.1 k hk).2⟩)
  clear Oy0'
  go_simp
  refine hK _ _ (SBY.out) ?_
  clear hK K
  (refine T_hv rfl (by kernel_rfl) (fun K hK => ?_); go_simp)
  go_at_call 19
  refine (eqRegCode_refl w14.heap.size w14.heap.size xA0 xB0 xG0 yA0 yB0 yG0 xc0 xd0 xg0 yc0 yd0 yg0 q0 w14 (by omega) (by omega) (by omega) (Nat.le_refl _) (Nat.le_refl _) (Ox0.out).rd (Oy0.out).rd).mono ?_
  rintro e w15 ⟨rfl, hbel⟩
  have hsw15 : w14.heap.size ≤ w15.heap.size := hbel.size
  have HB := Lib.hid (HB.out.trans (hbel.mono (by omega)))
  have Ca0_0 := Lib.hid ((hbel.cell (p := ⟨w.heap.size, 0, none⟩) (by simp only []; omega)).trans Ca0_0.out)
  have Ca0_1 := Lib.hid ((hbel.cell (p := ⟨w.heap.size, 1, none⟩) (by simp only []; omega)).trans Ca0_1.out)
  have Ca0_2 := Lib.hid ((hbel.cell (p := ⟨w.heap.size, 2, none⟩) (by simp only []; omega)).trans Ca0_2.out)
  have Ca0_3 := Lib.hid ((hbel.cell (p := ⟨w.heap.size, 3, none⟩) (by simp only []; omega)).trans Ca0_3.out)
  have Cw0_0 := Lib.hid ((hbel.cell (p := ⟨w5.heap.size, 0, none⟩) (by simp only []; omega)).trans Cw0_0.out)
  have Cw0_1 := Lib.hid ((hbel.cell (p := ⟨w5.heap.size, 1, none⟩) (by simp only []; omega)).trans Cw0_1.out)
  have Cw0_2 := Lib.hid ((hbel.cell (p := ⟨w5.heap.size, 2, none⟩) (by simp only []; omega)).trans Cw0_2.out)
  have Cw0_3 := Lib.hid ((hbel.cell (p := ⟨w5.heap.size, 3, none⟩) (by simp only []; omega)).trans Cw0_3.out)
  have Cx0_0 := Lib.hid ((hbel.cell (p := ⟨w7.heap.size, 0, none⟩) (by simp only []; omega)).trans Cx0_0.out)
  have Cx0_1 := Lib.hid ((hbel.cell (p := ⟨w7.heap.size, 1, none⟩) (by simp only []; omega)).trans Cx0_1.out)
  have Cx0_2 := Lib.hid ((hbel.cell (p := ⟨w7.heap.size, 2, none⟩) (by simp only []; omega)).trans Cx0_2.out)
  have Cx0_3 := Lib.hid ((hbel.cell (p := ⟨w7.heap.size, 3, none⟩) (by simp only []; omega)).trans Cx0_3.out)
  have Cg0_0 := Lib.hid ((hbel.cell (p := ⟨w10.heap.size, 0, none⟩) (by simp only []; omega)).trans Cg0_0.out)
  have Cg0_1 := Lib.hid ((hbel.cell (p := ⟨w10.heap.size, 1, none⟩) (by simp only []; omega)).trans Cg0_1.out)
  have Cg0_2 := Lib.hid ((hbel.cell (p := ⟨w10.heap.size, 2, none⟩) (by simp only []; omega)).trans Cg0_2.out)
  have Cg0_3 := Lib.hid ((hbel.cell (p := ⟨w10.heap.size, 3, none⟩) (by simp only []; omega)).trans Cg0_3.out)
  have Ow0 := Lib.hid (show OwC w15 w4.heap.size wA0 wB0 wG0 wc0 wd0 wg0 U0 from OwC.below Ow0.out hbel)
  have Ox0 := Lib.hid (show OwC w15 w6.heap.size xA0 xB0 xG0 xc0 xd0 xg0 q0 from OwC.below Ox0.out hbel)
  have Ox1 := Lib.hid (show OwI w15 w8.heap.size (.slice xA1 l1.length xc1) l1 from OwI.below Ox1.out hbel)
  have Og0 := Lib.hid (show OwC w15 w9.heap.size gA0 gB0 gG0 gc0 gd0 gg0 U0 from OwC.below Og0.out hbel)
  have Oy0 := Lib.hid (show OwC w15 w13.heap.size yA0 yB0 yG0 yc0 yd0 yg0 q0 from OwC.below Oy0.out hbel)
  clear hbel
  (go_simp; refine hK _ _ ?_; clear hK K)
  (repeat (first | (refine T_lp rfl (fun K hK => ?_); go_simp; refine hK _ ?_; clear hK K) | (refine T_ls rfl rfl (fun K hK => ?_); go_simp; refine hK _ ?_; clear hK K)))
  refine T_done ?_
  go_wp2_with fail
  go_at_call 27
  refine (toIntS_any w.heap.size A1 c1 l1 w15 hl1 (by omega) (H1.out.below HB.out)).mono ?_
  rintro e w16 ⟨yA1, yc1, rfl, hown, hbel⟩
  have Oy1' := Lib.hid hown
  clear hown
  have hsw16 : w15.heap.size ≤ w16.heap.size := hbel.size
  have HB := Lib.hid (HB.out.trans (hbel.mono (by omega)))
  have Ca0_0 := Lib.hid ((hbel.cell (p := ⟨w.heap.size, 0, none⟩) (by simp only []; omega)).trans Ca0_0.out)
  have Ca0_1 := Lib.hid ((hbel.cell (p := ⟨w.heap.size, 1, none⟩) (by simp only []; omega)).trans Ca0_1.out)
  have Ca0_2 := Lib.hid ((hbel.cell (p := ⟨w.heap.size, 2, none⟩) (by simp only []; omega)).trans Ca0_2.out)
  have Ca0_3 := Lib.hid ((hbel.cell (p := ⟨w.heap.size, 3, none⟩) (by simp only []; omega)).trans Ca0_3.out)
  have Cw0_0 := Lib.hid ((hbel.cell (p := ⟨w5.heap.size, 0, none⟩) (by simp only []; omega)).trans Cw0_0.out)
  have Cw0_1 := Lib.hid ((hbel.cell (p := ⟨w5.heap.size, 1, none⟩) (by simp only []; omega)).trans Cw0_1.out)
  have Cw0_2 := Lib.hid ((hbel.cell (p := ⟨w5.heap.size, 2, none⟩) (by simp only []; omega)).trans Cw0_2.out)
  have Cw0_3 := Lib.hid ((hbel.cell (p := ⟨w5.heap.size, 3, none⟩) (by simp only []; omega)).trans Cw0_3.out)
  have Cx0_0 := Lib.hid ((hbel.cell (p := ⟨w7.heap.size, 0, none⟩) (by simp only []; omega)).trans Cx0_0.out)
  have Cx0_1 := Lib.hid ((hbel.cell (p := ⟨w7.heap.size, 1, none⟩) (by simp only []; omega)).trans Cx0_1.out)
  have Cx0_2 := Lib.hid ((hbel.cell (p := ⟨w7.heap.size, 2, none⟩) (by simp only []; omega)).trans Cx0_2.out)
  have Cx0_3 := Lib.hid ((hbel.cell (p := ⟨w7.heap.size, 3, none⟩) (by simp only []; omega)).trans Cx0_3.out)
  have Cg0_0 := Lib.hid ((hbel.cell (p := ⟨w10.heap.size, 0, none⟩) (by simp only []; omega)).trans Cg0_0.out)
  have Cg0_1 := Lib.hid ((hbel.cell (p := ⟨w10.heap.size, 1, none⟩) (by simp only []; omega)).trans Cg0_1.out)
  have Cg0_2 := Lib.hid ((hbel.cell (p := ⟨w10.heap.size, 2, none⟩) (by simp only []; omega)).trans Cg0_2.out)
  have Cg0_3 := Lib.hid ((hbel.cell (p := ⟨w10.heap.size, 3, none⟩) (by simp only []; omega)).trans Cg0_3.out)
  have Ow0 := Lib.hid (show OwC w16 w4.heap.size wA0 wB0 wG0 wc0 wd0 wg0 U0 from OwC.below Ow0.out hbel)
  have Ox0 := Lib.hid (show OwC w16 w6.heap.size xA0 xB0 xG0 xc0 xd0 xg0 q0 from OwC.below Ox0.out hbel)
  have Ox1 := Lib.hid (show OwI w16 w8.heap.size (.slice xA1 l1.length xc1) l1 from OwI.below Ox1.out hbel)
  have Og0 := Lib.hid (show OwC w16 w9.heap.size gA0 gB0 gG0 gc0 gd0 gg0 U0 from OwC.below Og0.out hbel)
  clear hbel
  have Oy1 := Lib.hid (show OwI w16 w15.heap.size (.slice yA1 l1.length yc1) l1 from Oy1'.out)
  have Uy1 := Lib.hid (show ∀ k, (Value.slice yA1 l1.length yc1).ownBlock = some k → k < w16.heap.size from fun k hk => (own_block Oy1.out k hk).2)
  clear Oy1'
  go_wp2_with fail
  go_at_call 29
  have hE := eqIntS_any w16.heap.size w16.heap.size xA1 yA1 xc1 yc1 l1 l1 w16 (by omega) (by omega) (Ox1.out).rd (Oy1.out).rd
  rw [eqI_refl] at hE
  refine hE.mono ?_
  rintro e w17 ⟨rfl, hdr⟩
  clear hE
  have hbel := hdr.below w16.heap.size
  clear hdr
  have hsw17 : w16.heap.size ≤ w17.heap.size := hbel.size
  have HB := Lib.hid (HB.out.trans (hbel.mono (by omega)))
  have Ca0_0 := Lib.hid ((hbel.cell (p := ⟨w.heap.size, 0, none⟩) (by simp only []; omega)).trans Ca0_0.out)
  have Ca0_1 := Lib.hid ((hbel.cell (p := ⟨w.heap.size, 1, none⟩) (by simp only []; omega)).trans Ca0_1.out)
  have Ca0_2 := Lib.hid ((hbel.cell (p := ⟨w.heap.size, 2, none⟩) (by simp only []; omega)).trans Ca0_2.out)
  have Ca0_3 := Lib.hid ((hbel.cell (p := ⟨w.heap.size, 3, none⟩) (by simp only []; omega)).trans Ca0_3.out)
  have Cw0_0 := Lib.hid ((hbel.cell (p := ⟨w5.heap.size, 0, none⟩) (by simp only []; omega)).trans Cw0_0.out)
  have Cw0_1 := Lib.hid ((hbel.cell (p := ⟨w5.heap.size, 1, none⟩) (by simp only []; omega)).trans Cw0_1.out)
  have Cw0_2 := Lib.hid ((hbel.cell (p := ⟨w5.heap.size, 2, none⟩) (by simp only []; omega)).trans Cw0_2.out)
  have Cw0_3 := Lib.hid ((hbel.cell (p := ⟨w5.heap.size, 3, none⟩) (by simp only []; omega)).trans Cw0_3.out)
  have Cx0_0 := Lib.hid ((hbel.cell (p := ⟨w7.heap.size, 0, none⟩) (by simp only []; omega)).trans Cx0_0.out)
  have Cx0_1 := Lib.hid ((hbel.cell (p := ⟨w7.heap.size, 1, none⟩) (by simp only []; omega)).trans Cx0_1.out)
  have Cx0_2 := Lib.hid ((hbel.cell (p := ⟨w7.heap.size, 2, none⟩) (by simp only []; omega)).trans Cx0_2.out)
  have Cx0_3 := Lib.hid ((hbel.cell (p := ⟨w7.heap.size, 3, none⟩) (by simp only []; omega)).trans Cx0_3.out)
  have Cg0_0 := Lib.hid ((hbel.cell (p := ⟨w10.heap.size, 0, none⟩) (by simp only []; omega)).trans Cg0_0.out)
  have Cg0_1 := Lib.hid ((hbel.cell (p := ⟨w10.heap.size, 1, none⟩) (by simp only []; omega)).trans Cg0_1.out)
  have Cg0_2 := Lib.hid ((hbel.cell (p := ⟨w10.heap.size, 2, none⟩) (by simp only []; omega)).trans Cg0_2.out)
  have Cg0_3 := Lib.hid ((hbel.cell (p := ⟨w10.heap.size, 3, none⟩) (by simp only []; omega)).trans Cg0_3.out)
  have Ow0 := Lib.hid (show OwC w17 w4.heap.size wA0 wB0 wG0 wc0 wd0 wg0 U0 from OwC.below Ow0.out hbel)
  have Ox0 := Lib.hid (show OwC w17 w6.heap.size xA0 xB0 xG0 xc0 xd0 xg0 q0 from OwC.below Ox0.out hbel)
  have Ox1 := Lib.hid (show OwI w17 w8.heap.size (.slice xA1 l1.length xc1) l1 from OwI.below Ox1.out hbel)
  have Og0 := Lib.hid (show OwC w17 w9.heap.size gA0 gB0 gG0 gc0 gd0 gg0 U0 from OwC.below Og0.out hbel)
  have Oy1 := Lib.hid (show OwI w17 w15.heap.size (.slice yA1 l1.length yc1) l1 from OwI.below Oy1.out hbel)
  clear hbel
  have v17 := Cx0_0.out
  have v18 := Cx0_1.out
  have v19 := Cx0_2.out
  have v20 := Cx0_3.out
  go_wp2_with fail
  go_at_call 23
  clear v17 v18 v19 v20
  have hwm := markRegCode_any (w6.heap.size) w7.heap.size xA0 xB0 xG0 xc0 xd0 xg0 q0 (1) w17 (by omega) (by omega) (by omega) (by omega) (by omega) (by omega) (by omega) Ox0.out Ux0.out.1 Ux0.out.2.1 Ux0.out.2.2
  refine hwm.mono ?_
  rintro e w18 ⟨rfl, hm1, hm2, hm3, hwn⟩
  clear hwm
  have Mx0 := Lib.hid (And.intro hm1 (And.intro hm2 hm3))
  clear hm1 hm2 hm3
  have hsw18 : w17.heap.size ≤ w18.heap.size := hwn.1.size
  have HB := Lib.hid (HB.out.trans (hwn.1.mono (by omega)))
  have Ca0_0 := Lib.hid ((hwn.1.cell (p := ⟨w.heap.size, 0, none⟩) (by simp only []; omega)).trans Ca0_0.out)
  have Ca0_1 := Lib.hid ((hwn.1.cell (p := ⟨w.heap.size, 1, none⟩) (by simp only []; omega)).trans Ca0_1.out)
  have Ca0_2 := Lib.hid ((hwn.1.cell (p := ⟨w.heap.size, 2, none⟩) (by simp only []; omega)).trans Ca0_2.out)
  have Ca0_3 := Lib.hid ((hwn.1.cell (p := ⟨w.heap.size, 3, none⟩) (by simp only []; omega)).trans Ca0_3.out)
  have Cw0_0 := Lib.hid ((hwn.1.cell (p := ⟨w5.heap.size, 0, none⟩) (by simp only []; omega)).trans Cw0_0.out)
  have Cw0_1 := Lib.hid ((hwn.1.cell (p := ⟨w5.heap.size, 1, none⟩) (by simp only []; omega)).trans Cw0_1.out)
  have Cw0_2 := Lib.hid ((hwn.1.cell (p := ⟨w5.heap.size, 2, none⟩) (by simp only []; omega)).trans Cw0_2.out)
  have Cw0_3 := Lib.hid ((hwn.1.cell (p := ⟨w5.heap.size, 3, none⟩) (by simp only []; omega)).trans Cw0_3.out)
  have Cx0_0 := Lib.hid ((World.cell?_of_block (a := ⟨w7.heap.size, 0, none⟩) (hwn.2 (w7.heap.size) (by omega) (by omega))).trans Cx0_0.out)
  have Cx0_1 := Lib.hid ((World.cell?_of_block (a := ⟨w7.heap.size, 1, none⟩) (hwn.2 (w7.heap.size) (by omega) (by omega))).trans Cx0_1.out)
  have Cx0_2 := Lib.hid ((World.cell?_of_block (a := ⟨w7.heap.size, 2, none⟩) (hwn.2 (w7.heap.size) (by omega) (by omega))).trans Cx0_2.out)
  have Cx0_3 := Lib.hid ((World.cell?_of_block (a := ⟨w7.heap.size, 3, none⟩) (hwn.2 (w7.heap.size) (by omega) (by omega))).trans Cx0_3.out)
  have Cg0_0 := Lib.hid ((World.cell?_of_block (a := ⟨w10.heap.size, 0, none⟩) (hwn.2 (w10.heap.size) (by omega) (by omega))).trans Cg0_0.out)
  have Cg0_1 := Lib.hid ((World.cell?_of_block (a := ⟨w10.heap.size, 1, none⟩) (hwn.2 (w10.heap.size) (by omega) (by omega))).trans Cg0_1.out)
  have Cg0_2 := Lib.hid ((World.cell?_of_block (a := ⟨w10.heap.size, 2, none⟩) (hwn.2 (w10.heap.size) (by omega) (by omega))).trans Cg0_2.out)
  have Cg0_3 := Lib.hid ((World.cell?_of_block (a := ⟨w10.heap.size, 3, none⟩) (hwn.2 (w10.heap.size) (by omega) (by omega))).trans Cg0_3.out)
  have Ow0 := Lib.hid (show OwC w18 w4.heap.size wA0 wB0 wG0 wc0 wd0 wg0 U0 from ⟨own_win_lo (Ow0.out).1 hwn (fun k hk => Nat.lt_of_lt_of_le ((Uw0.out).1 k hk) (by omega)), own_win_lo (Ow0.out).2.1 hwn (fun k hk => Nat.lt_of_lt_of_le ((Uw0.out).2.1 k hk) (by omega)), own_win_lo (Ow0.out).2.2.1 hwn (fun k hk => Nat.lt_of_lt_of_le ((Uw0.out).2.2 k hk) (by omega)), (Ow0.out).2.2.2⟩)
  have Ox1 := Lib.hid (show OwI w18 w8.heap.size (.slice xA1 l1.length xc1) l1 from Win.own hwn Ox1.out (by omega))
  have Og0 := Lib.hid (show OwC w18 w9.heap.size gA0 gB0 gG0 gc0 gd0 gg0 U0 from ⟨Win.own hwn (Og0.out).1 (by omega), Win.own hwn (Og0.out).2.1 (by omega), Win.own hwn (Og0.out).2.2.1 (by omega), (Og0.out).2.2.2⟩)
  clear hwn
  have hkk1 : ¬ (1 + (q0.i.length : Int) + 3 * (q0.ops.length : Int) + (q0.o.length : Int) < 0) := by omega
  go_wp2_with fail
  go_at_call 30
  refine (markIntS_any (w8.heap.size) xA1 xc1 l1 (1 + (q0.i.length : Int) + 3 * (q0.ops.length : Int) + (q0.o.length : Int)) w18 (by omega) (by omega) (by omega) Ox1.out).mono ?_
  rintro e w19 ⟨rfl, hmk, hg⟩
  have hwn : Win w8.heap.size w9.heap.size w18 w19 := Win.of_grown hg (by omega) (fun k hk => ⟨(own_block Ox1.out k hk).1, Ux1.out k hk⟩)
  clear hg
  have Mx1 := Lib.hid hmk
  clear hmk
  have hsw19 : w18.heap.size ≤ w19.heap.size := hwn.1.size
  have HB := Lib.hid (HB.out.trans (hwn.1.mono (by omega)))
  have Ca0_0 := Lib.hid ((hwn.1.cell (p := ⟨w.heap.size, 0, none⟩) (by simp only []; omega)).trans Ca0_0.out)
  have Ca0_1 := Lib.hid ((hwn.1.cell (p := ⟨w.heap.size, 1, none⟩) (by simp only []; omega)).trans Ca0_1.out)
  have Ca0_2 := Lib.hid ((hwn.1.cell (p := ⟨w.heap.size, 2, none⟩) (by simp only []; omega)).trans Ca0_2.out)
  have Ca0_3 := Lib.hid ((hwn.1.cell (p := ⟨w.heap.size, 3, none⟩) (by simp only []; omega)).trans Ca0_3.out)
  have Cw0_0 := Lib.hid ((hwn.1.cell (p := ⟨w5.heap.size, 0, none⟩) (by simp only []; omega)).trans Cw0_0.out)
  have Cw0_1 := Lib.hid ((hwn.1.cell (p := ⟨w5.heap.size, 1, none⟩) (by simp only []; omega)).trans Cw0_1.out)
  have Cw0_2 := Lib.hid ((hwn.1.cell (p := ⟨w5.heap.size, 2, none⟩) (by simp only []; omega)).trans Cw0_2.out)
  have Cw0_3 := Lib.hid ((hwn.1.cell (p := ⟨w5.heap.size, 3, none⟩) (by simp only []; omega)).trans Cw0_3.out)
  have Cx0_0 := Lib.hid ((hwn.1.cell (p := ⟨w7.heap.size, 0, none⟩) (by simp only []; omega)).trans Cx0_0.out)
  have Cx0_1 := Lib.hid ((hwn.1.cell (p := ⟨w7.heap.size, 1, none⟩) (by simp only []; omega)).trans Cx0_1.out)
  have Cx0_2 := Lib.hid ((hwn.1.cell (p := ⟨w7.heap.size, 2, none⟩) (by simp only []; omega)).trans Cx0_2.out)
  have Cx0_3 := Lib.hid ((hwn.1.cell (p := ⟨w7.heap.size, 3, none⟩) (by simp only []; omega)).trans Cx0_3.out)
  have Cg0_0 := Lib.hid ((World.cell?_of_block (a := ⟨w10.heap.size, 0, none⟩) (hwn.2 (w10.heap.size) (by omega) (by omega))).trans Cg0_0.out)
  have Cg0_1 := Lib.hid ((World.cell?_of_block (a := ⟨w10.heap.size, 1, none⟩) (hwn.2 (w10.heap.size) (by omega) (by omega))).trans Cg0_1.out)
  have Cg0_2 := Lib.hid ((World.cell?_of_block (a := ⟨w10.heap.size, 2, none⟩) (hwn.2 (w10.heap.size) (by omega) (by omega))).trans Cg0_2.out)
  have Cg0_3 := Lib.hid ((World.cell?_of_block (a := ⟨w10.heap.size, 3, none⟩) (hwn.2 (w10.heap.size) (by omega) (by omega))).trans Cg0_3.out)
  have Ow0 := Lib.hid (show OwC w19 w4.heap.size wA0 wB0 wG0 wc0 wd0 wg0 U0 from ⟨own_win_lo (Ow0.out).1 hwn (fun k hk => Nat.lt_of_lt_of_le ((Uw0.out).1 k hk) (by omega)), own_win_lo (Ow0.out).2.1 hwn (fun k hk => Nat.lt_of_lt_of_le ((Uw0.out).2.1 k hk) (by omega)), own_win_lo (Ow0.out).2.2.1 hwn (fun k hk => Nat.lt_of_lt_of_le ((Uw0.out).2.2 k hk) (by omega)), (Ow0.out).2.2.2⟩)
  have Og0 := Lib.hid (show OwC w19 w9.heap.size gA0 gB0 gG0 gc0 gd0 gg0 U0 from ⟨Win.own hwn (Og0.out).1 (by omega), Win.own hwn (Og0.out).2.1 (by omega), Win.own hwn (Og0.out).2.2.1 (by omega), (Og0.out).2.2.2⟩)
  clear hwn
  have hkk2 : ¬ (1 + (q0.i.length : Int) + 3 * (q0.ops.length : Int) + (q0.o.length : Int) + (l1.length : Int) < 0) := by omega
  have v21 := Cg0_0.out
  have v22 := Cg0_1.out
  have v23 := Cg0_2.out
  have v24 := Cg0_3.out
  have v25 := Cw0_0.out
  have v26 := Cw0_1.out
  have v27 := Cw0_2.out
  have v28 := Cw0_3.out
  go_wp2_with fail
  go_at_call 19
  clear v21 v22 v23 v24 v25 v26 v27 v28
  refine (eqRegCode_refl w19.heap.size w19.heap.size gA0 gB0 gG0 wA0 wB0 wG0 gc0 gd0 gg0 wc0 wd0 wg0 U0 w19 (by omega) (by omega) (by omega) (Nat.le_refl _) (Nat.le_refl _) (Og0.out).rd (Ow0.out).rd).mono ?_
  rintro e w20 ⟨rfl, hbel⟩
  have hsw20 : w19.heap.size ≤ w20.heap.size := hbel.size
  have HB := Lib.hid (HB.out.trans (hbel.mono (by omega)))
  have Ca0_0 := Lib.hid ((hbel.cell (p := ⟨w.heap.size, 0, none⟩) (by simp only []; omega)).trans Ca0_0.out)
  have Ca0_1 := Lib.hid ((hbel.cell (p := ⟨w.heap.size, 1, none⟩) (by simp only []; omega)).trans Ca0_1.out)
  have Ca0_2 := Lib.hid ((hbel.cell (p := ⟨w.heap.size, 2, none⟩) (by simp only []; omega)).trans Ca0_2.out)
  have Ca0_3 := Lib.hid ((hbel.cell (p := ⟨w.heap.size, 3, none⟩) (by simp only []; omega)).trans Ca0_3.out)
  have Cw0_0 := Lib.hid ((hbel.cell (p := ⟨w5.heap.size, 0, none⟩) (by simp only []; omega)).trans Cw0_0.out)
  have Cw0_1 := Lib.hid ((hbel.cell (p := ⟨w5.heap.size, 1, none⟩) (by simp only []; omega)).trans Cw0_1.out)
  have Cw0_2 := Lib.hid ((hbel.cell (p := ⟨w5.heap.size, 2, none⟩) (by simp only []; omega)).trans Cw0_2.out)
  have Cw0_3 := Lib.hid ((hbel.cell (p := ⟨w5.heap.size, 3, none⟩) (by simp only []; omega)).trans Cw0_3.out)
  have Cg0_0 := Lib.hid ((hbel.cell (p := ⟨w10.heap.size, 0, none⟩) (by simp only []; omega)).trans Cg0_0.out)
  have Cg0_1 := Lib.hid ((hbel.cell (p := ⟨w10.heap.size, 1, none⟩) (by simp only []; omega)).trans Cg0_1.out)
  have Cg0_2 := Lib.hid ((hbel.cell (p := ⟨w10.heap.size, 2, none⟩) (by simp only []; omega)).trans Cg0_2.out)
  have Cg0_3 := Lib.hid ((hbel.cell (p := ⟨w10.heap.size, 3, none⟩) (by simp only []; omega)).trans Cg0_3.out)
  have Ow0 := Lib.hid (show OwC w20 w4.heap.size wA0 wB0 wG0 wc0 wd0 wg0 U0 from OwC.below Ow0.out hbel)
  have Og0 := Lib.hid (show OwC w20 w9.heap.size gA0 gB0 gG0 gc0 gd0 gg0 U0 from OwC.below Og0.out hbel)
  clear hbel
  have v29 := Cg0_0.out
  have v30 := Cg0_1.out
  have v31 := Cg0_2.out
  have v32 := Cg0_3.out
  go_wp2_with fail
  go_at_call 23
  clear v29 v30 v31 v32
  have hwm := markRegCode_any (w9.heap.size) w10.heap.size gA0 gB0 gG0 gc0 gd0 gg0 U0 (1) w20 (by omega) (by omega) (by omega) (by omega) (by omega) (by omega) (by omega) Og0.out Ug0.out.1 Ug0.out.2.1 Ug0.out.2.2
  refine hwm.mono ?_
  rintro e w21 ⟨rfl, hm1, hm2, hm3, hwn⟩
  clear hwm
  have Mg0 := Lib.hid (And.intro hm1 (And.intro hm2 hm3))
  clear hm1 hm2 hm3
  have hsw21 : w20.heap.size ≤ w21.heap.size := hwn.1.size
  have HB := Lib.hid (HB.out.trans (hwn.1.mono (by omega)))
  have Ca0_0 := Lib.hid ((hwn.1.cell (p := ⟨w.heap.size, 0, none⟩) (by simp only []; omega)).trans Ca0_0.out)
  have Ca0_1 := Lib.hid ((hwn.1.cell (p := ⟨w.heap.size, 1, none⟩) (by simp only []; omega)).trans Ca0_1.out)
  have Ca0_2 := Lib.hid ((hwn.1.cell (p := ⟨w.heap.size, 2, none⟩) (by simp only []; omega)).trans Ca0_2.out)
  have Ca0_3 := Lib.hid ((hwn.1.cell (p := ⟨w.heap.size, 3, none⟩) (by simp only []; omega)).trans Ca0_3.out)
  have Cw0_0 := Lib.hid ((hwn.1.cell (p := ⟨w5.heap.size, 0, none⟩) (by simp only []; omega)).trans Cw0_0.out)
  have Cw0_1 := Lib.hid ((hwn.1.cell (p := ⟨w5.heap.size, 1, none⟩) (by simp only []; omega)).trans Cw0_1.out)
  have Cw0_2 := Lib.hid ((hwn.1.cell (p := ⟨w5.heap.size, 2, none⟩) (by simp only []; omega)).trans Cw0_2.out)
  have Cw0_3 := Lib.hid ((hwn.1.cell (p := ⟨w5.heap.size, 3, none⟩) (by simp only []; omega)).trans Cw0_3.out)
  have Cg0_0 := Lib.hid ((World.cell?_of_block (a := ⟨w10.heap.size, 0, none⟩) (hwn.2 (w10.heap.size) (by omega) (by omega))).trans Cg0_0.out)
  have Cg0_1 := Lib.hid ((World.cell?_of_block (a := ⟨w10.heap.size, 1, none⟩) (hwn.2 (w10.heap.size) (by omega) (by omega))).trans Cg0_1.out)
  have Cg0_2 := Lib.hid ((World.cell?_of_block (a := ⟨w10.heap.size, 2, none⟩) (hwn.2 (w10.heap.size) (by omega) (by omega))).trans Cg0_2.out)
  have Cg0_3 := Lib.hid ((World.cell?_of_block (a := ⟨w10.heap.size, 3, none⟩) (hwn.2 (w10.heap.size) (by omega) (by omega))).trans Cg0_3.out)
  have Ow0 := Lib.hid (show OwC w21 w4.heap.size wA0 wB0 wG0 wc0 wd0 wg0 U0 from ⟨own_win_lo (Ow0.out).1 hwn (fun k hk => Nat.lt_of_lt_of_le ((Uw0.out).1 k hk) (by omega)), own_win_lo (Ow0.out).2.1 hwn (fun k hk => Nat.lt_of_lt_of_le ((Uw0.out).2.1 k hk) (by omega)), own_win_lo (Ow0.out).2.2.1 hwn (fun k hk => Nat.lt_of_lt_of_le ((Uw0.out).2.2 k hk) (by omega)), (Ow0.out).2.2.2⟩)
  clear hwn
  have hkm1 : ¬ (1 + (U0.i.length : Int) + 3 * (U0.ops.length : Int) + (U0.o.length : Int) < 0) := by omega
  have HM := Lib.hid (And.intro (own_rd_marks Mg0.out.1) (And.intro (own_rd_marksO Mg0.out.2.1) (own_rd_marks Mg0.out.2.2)))
  have HBM := Lib.hid (Below.refl w21.heap.size w21)
  have v33 := Cg0_0.out
  have v34 := Cg0_1.out
  have v35 := Cg0_2.out
  have v36 := Cg0_3.out
  go_wp2_with fail
  go_at_call 40
  clear v33 v34 v35 v36
  refine (heldRegCode_any w21.heap.size gA0 gB0 gG0 gc0 gd0 gg0 U0.i.length U0.ops.length U0.o.length U0.r 1 w21 (by omega) (by omega) (by omega) (by omega) (by omega) (by omega) (HM.out.1.below HBM.out) (HM.out.2.1.below HBM.out) (HM.out.2.2.below HBM.out)).mono ?_
  rintro e w22 ⟨rfl, hbel⟩
  have HBM := Lib.hid (HBM.out.trans (hbel.mono (by omega)))
  have hsw22 : w21.heap.size ≤ w22.heap.size := hbel.size
  have HB := Lib.hid (HB.out.trans (hbel.mono (by omega)))
  have Ca0_0 := Lib.hid ((hbel.cell (p := ⟨w.heap.size, 0, none⟩) (by simp only []; omega)).trans Ca0_0.out)
  have Ca0_1 := Lib.hid ((hbel.cell (p := ⟨w.heap.size, 1, none⟩) (by simp only []; omega)).trans Ca0_1.out)
  have Ca0_2 := Lib.hid ((hbel.cell (p := ⟨w.heap.size, 2, none⟩) (by simp only []; omega)).trans Ca0_2.out)
  have Ca0_3 := Lib.hid ((hbel.cell (p := ⟨w.heap.size, 3, none⟩) (by simp only []; omega)).trans Ca0_3.out)
  have Cw0_0 := Lib.hid ((hbel.cell (p := ⟨w5.heap.size, 0, none⟩) (by simp only []; omega)).trans Cw0_0.out)
  have Cw0_1 := Lib.hid ((hbel.cell (p := ⟨w5.heap.size, 1, none⟩) (by simp only []; omega)).trans Cw0_1.out)
  have Cw0_2 := Lib.hid ((hbel.cell (p := ⟨w5.heap.size, 2, none⟩) (by simp only []; omega)).trans Cw0_2.out)
  have Cw0_3 := Lib.hid ((hbel.cell (p := ⟨w5.heap.size, 3, none⟩) (by simp only []; omega)).trans Cw0_3.out)
  have Cg0_0 := Lib.hid ((hbel.cell (p := ⟨w10.heap.size, 0, none⟩) (by simp only []; omega)).trans Cg0_0.out)
  have Cg0_1 := Lib.hid ((hbel.cell (p := ⟨w10.heap.size, 1, none⟩) (by simp only []; omega)).trans Cg0_1.out)
  have Cg0_2 := Lib.hid ((hbel.cell (p := ⟨w10.heap.size, 2, none⟩) (by simp only []; omega)).trans Cg0_2.out)
  have Cg0_3 := Lib.hid ((hbel.cell (p := ⟨w10.heap.size, 3, none⟩) (by simp only []; omega)).trans Cg0_3.out)
  have Ow0 := Lib.hid (show OwC w22 w4.heap.size wA0 wB0 wG0 wc0 wd0 wg0 U0 from OwC.below Ow0.out hbel)
  clear hbel
  have v37 := Ca0_0.out
  have v38 := Ca0_1.out
  have v39 := Ca0_2.out
  have v40 := Ca0_3.out
  go_wp2_with fail
  go_at_call 17
  clear v37 v38 v39 v40
  refine (toRegCode_any w.heap.size A0 B0 G0 c0 d0 g0 q0 w22 hli0 hlp0 hlo0 (by omega) (H0.out.below HB.out)).mono ?_
  rintro e w23 ⟨zA0, zB0, zG0, zc0, zd0, zg0, rfl, hown, hbel⟩
  have Oz0' := Lib.hid hown
  clear hown
  have hsw23 : w22.heap.size ≤ w23.heap.size := hbel.size
  have HB := Lib.hid (HB.out.trans (hbel.mono (by omega)))
  have Ca0_0 := Lib.hid ((hbel.cell (p := ⟨w.heap.size, 0, none⟩) (by simp only []; omega)).trans Ca0_0.out)
  have Ca0_1 := Lib.hid ((hbel.cell (p := ⟨w.heap.size, 1, none⟩) (by simp only []; omega)).trans Ca0_1.out)
  have Ca0_2 := Lib.hid ((hbel.cell (p := ⟨w.heap.size, 2, none⟩) (by simp only []; omega)).trans Ca0_2.out)
  have Ca0_3 := Lib.hid ((hbel.cell (p := ⟨w.heap.size, 3, none⟩) (by simp only []; omega)).trans Ca0_3.out)
  have Cw0_0 := Lib.hid ((hbel.cell (p := ⟨w5.heap.size, 0, none⟩) (by simp only []; omega)).trans Cw0_0.out)
  have Cw0_1 := Lib.hid ((hbel.cell (p := ⟨w5.heap.size, 1, none⟩) (by simp only []; omega)).trans Cw0_1.out)
  have Cw0_2 := Lib.hid ((hbel.cell (p := ⟨w5.heap.size, 2, none⟩) (by simp only []; omega)).trans Cw0_2.out)
  have Cw0_3 := Lib.hid ((hbel.cell (p := ⟨w5.heap.size, 3, none⟩) (by simp only []; omega)).trans Cw0_3.out)
  have Cg0_0 := Lib.hid ((hbel.cell (p := ⟨w10.heap.size, 0, none⟩) (by simp only []; omega)).trans Cg0_0.out)
  have Cg0_1 := Lib.hid ((hbel.cell (p := ⟨w10.heap.size, 1, none⟩) (by simp only []; omega)).trans Cg0_1.out)
  have Cg0_2 := Lib.hid ((hbel.cell (p := ⟨w10.heap.size, 2, none⟩) (by simp only []; omega)).trans Cg0_2.out)
  have Cg0_3 := Lib.hid ((hbel.cell (p := ⟨w10.heap.size, 3, none⟩) (by simp only []; omega)).trans Cg0_3.out)
  have Ow0 := Lib.hid (show OwC w23 w4.heap.size wA0 wB0 wG0 wc0 wd0 wg0 U0 from OwC.below Ow0.out hbel)
  have HBM := Lib.hid (HBM.out.trans (hbel.mono (by omega)))
  clear hbel
  have Oz0 := Lib.hid (show OwC w23 w22.heap.size zA0 zB0 zG0 zc0 zd0 zg0 q0 from Oz0'.out)
  have Uz0 := Lib.hid (show (∀ k, (Value.slice zA0 q0.i.length zc0).ownBlock = some k → k < w23.heap.size) ∧ (∀ k, (Value.slice zB0 q0.ops.length zd0).ownBlock = some k → k < w23.heap.size) ∧ (∀ k, (Value.slice zG0 q0.o.length zg0).ownBlock = some k → k < w23.heap.size) from ⟨fun k hk => (own_block (Oz0.out).1 k hk).2, fun k hk => (own_block (Oz0.out).2.1 k hk).2, fun k hk => (own_block (Oz0.out).2.2.1 k hk).2⟩)
  clear Oz0'
  go_wp2_with fail
  go_at_call 27
  refine (toIntS_any w.heap.size A1 c1 l1 w23 hl1 (by omega) (H1.out.below HB.out)).mono ?_
  rintro e w24 ⟨zA1, zc1, rfl, hown, hbel⟩
  have Oz1' := Lib.hid hown
  clear hown
  have hsw24 : w23.heap.size ≤ w24.heap.size := hbel.size
  have HB := Lib.hid (HB.out.trans (hbel.mono (by omega)))
  have Ca0_0 := Lib.hid ((hbel.cell (p := ⟨w.heap.size, 0, none⟩) (by simp only []; omega)).trans Ca0_0.out)
  have Ca0_1 := Lib.hid ((hbel.cell (p := ⟨w.heap.size, 1, none⟩) (by simp only []; omega)).trans Ca0_1.out)
  have Ca0_2 := Lib.hid ((hbel.cell (p := ⟨w.heap.size, 2, none⟩) (by simp only []; omega)).trans Ca0_2.out)
  have Ca0_3 := Lib.hid ((hbel.cell (p := ⟨w.heap.size, 3, none⟩) (by simp only []; omega)).trans Ca0_3.out)
  have Cw0_0 := Lib.hid ((hbel.cell (p := ⟨w5.heap.size, 0, none⟩) (by simp only []; omega)).trans Cw0_0.out)
  have Cw0_1 := Lib.hid ((hbel.cell (p := ⟨w5.heap.size, 1, none⟩) (by simp only []; omega)).trans Cw0_1.out)
  have Cw0_2 := Lib.hid ((hbel.cell (p := ⟨w5.heap.size, 2, none⟩) (by simp only []; omega)).trans Cw0_2.out)
  have Cw0_3 := Lib.hid ((hbel.cell (p := ⟨w5.heap.size, 3, none⟩) (by simp only []; omega)).trans Cw0_3.out)
  have Cg0_0 := Lib.hid ((hbel.cell (p := ⟨w10.heap.size, 0, none⟩) (by simp only []; omega)).trans Cg0_0.out)
  have Cg0_1 := Lib.hid ((hbel.cell (p := ⟨w10.heap.size, 1, none⟩) (by simp only []; omega)).trans Cg0_1.out)
  have Cg0_2 := Lib.hid ((hbel.cell (p := ⟨w10.heap.size, 2, none⟩) (by simp only []; omega)).trans Cg0_2.out)
  have Cg0_3 := Lib.hid ((hbel.cell (p := ⟨w10.heap.size, 3, none⟩) (by simp only []; omega)).trans Cg0_3.out)
  have Ow0 := Lib.hid (show OwC w24 w4.heap.size wA0 wB0 wG0 wc0 wd0 wg0 U0 from OwC.below Ow0.out hbel)
  have Oz0 := Lib.hid (show OwC w24 w22.heap.size zA0 zB0 zG0 zc0 zd0 zg0 q0 from OwC.below Oz0.out hbel)
  have HBM := Lib.hid (HBM.out.trans (hbel.mono (by omega)))
  clear hbel
  have Oz1 := Lib.hid (show OwI w24 w23.heap.size (.slice zA1 l1.length zc1) l1 from Oz1'.out)
  have Uz1 := Lib.hid (show ∀ k, (Value.slice zA1 l1.length zc1).ownBlock = some k → k < w24.heap.size from fun k hk => (own_block Oz1.out k hk).2)
  clear Oz1'
  go_wp2_with fail
  go_at_call 52
  refine (HIMPL.out w24 zA0 zB0 zG0 zc0 zd0 zg0 zA1 zc1 (Oz0.out).cap (Oz1.out).cap (Oz0.out).rd (Oz1.out).rd).mono ?_
  rintro e w25 ⟨hA0, hB0, hG0, hc0, hd0, hg0, rfl, hown0, hbel⟩
  have Oh0' := Lib.hid hown0
  clear hown0
  have hsw25 : w24.heap.size ≤ w25.heap.size := hbel.size
  have HB := Lib.hid (HB.out.trans (hbel.mono (by omega)))
  have Ca0_0 := Lib.hid ((hbel.cell (p := ⟨w.heap.size, 0, none⟩) (by simp only []; omega)).trans Ca0_0.out)
  have Ca0_1 := Lib.hid ((hbel.cell (p := ⟨w.heap.size, 1, none⟩) (by simp only []; omega)).trans Ca0_1.out)
  have Ca0_2 := Lib.hid ((hbel.cell (p := ⟨w.heap.size, 2, none⟩) (by simp only []; omega)).trans Ca0_2.out)
  have Ca0_3 := Lib.hid ((hbel.cell (p := ⟨w.heap.size, 3, none⟩) (by simp only []; omega)).trans Ca0_3.out)
  have Cw0_0 := Lib.hid ((hbel.cell (p := ⟨w5.heap.size, 0, none⟩) (by simp only []; omega)).trans Cw0_0.out)
  have Cw0_1 := Lib.hid ((hbel.cell (p := ⟨w5.heap.size, 1, none⟩) (by simp only []; omega)).trans Cw0_1.out)
  have Cw0_2 := Lib.hid ((hbel.cell (p := ⟨w5.heap.size, 2, none⟩) (by simp only []; omega)).trans Cw0_2.out)
  have Cw0_3 := Lib.hid ((hbel.cell (p := ⟨w5.heap.size, 3, none⟩) (by simp only []; omega)).trans Cw0_3.out)
  have Cg0_0 := Lib.hid ((hbel.cell (p := ⟨w10.heap.size, 0, none⟩) (by simp only []; omega)).trans Cg0_0.out)
  have Cg0_1 := Lib.hid ((hbel.cell (p := ⟨w10.heap.size, 1, none⟩) (by simp only []; omega)).trans Cg0_1.out)
  have Cg0_2 := Lib.hid ((hbel.cell (p := ⟨w10.heap.size, 2, none⟩) (by simp only []; omega)).trans Cg0_2.out)
  have Cg0_3 := Lib.hid ((hbel.cell (p := ⟨w10.heap.size, 3, none⟩) (by simp only []; omega)).trans Cg0_3.out)
  have Ow0 := Lib.hid (show OwC w25 w4.heap.size wA0 wB0 wG0 wc0 wd0 wg0 U0 from OwC.below Ow0.out hbel)
  have Oz0 := Lib.hid (show OwC w25 w22.heap.size zA0 zB0 zG0 zc0 zd0 zg0 q0 from OwC.below Oz0.out hbel)
  have Oz1 := Lib.hid (show OwI w25 w23.heap.size (.slice zA1 l1.length zc1) l1 from OwI.below Oz1.out hbel)
  have HBM := Lib.hid (HBM.out.trans (hbel.mono (by omega)))
  clear hbel
  have Oh0 := Lib.hid (show OwC w25 w24.heap.size hA0 hB0 hG0 hc0 hd0 hg0 U0 from Oh0'.out)
  have Uh0 := Lib.hid (show (∀ k, (Value.slice hA0 U0.i.length hc0).ownBlock = some k → k < w25.heap.size) ∧ (∀ k, (Value.slice hB0 U0.ops.length hd0).ownBlock = some k → k < w25.heap.size) ∧ (∀ k, (Value.slice hG0 U0.o.length hg0).ownBlock = some k → k < w25.heap.size) from ⟨fun k hk => (own_block (Oh0.out).1 k hk).2, fun k hk => (own_block (Oh0.out).2.1 k hk).2, fun k hk => (own_block (Oh0.out).2.2.1 k hk).2⟩)
  clear Oh0'
  have v41 := cell_kept Cw0_0.out
  have v42 := cell_kept Cw0_1.out
  have v43 := cell_kept Cw0_2.out
  have v44 := cell_kept Cw0_3.out
  go_wp2_with fail
  go_at_call 19
  clear v41 v42 v43 v44
  generalize hww26 : World.alloc w25 _ = w26
  obtain ⟨x0', x1', x2', x3', hxw26, hbx⟩ := bx4 hww26
  clear hww26
  have hxP := hxw26
  have hsw26 : w25.heap.size ≤ w26.heap.size := hbx.size
  have HB := Lib.hid (HB.out.trans (hbx.mono (by omega)))
  have Ca0_0 := Lib.hid ((hbx.cell (p := ⟨w.heap.size, 0, none⟩) (by simp only []; omega)).trans Ca0_0.out)
  have Ca0_1 := Lib.hid ((hbx.cell (p := ⟨w.heap.size, 1, none⟩) (by simp only []; omega)).trans Ca0_1.out)
  have Ca0_2 := Lib.hid ((hbx.cell (p := ⟨w.heap.size, 2, none⟩) (by simp only []; omega)).trans Ca0_2.out)
  have Ca0_3 := Lib.hid ((hbx.cell (p := ⟨w.heap.size, 3, none⟩) (by simp only []; omega)).trans Ca0_3.out)
  have Cw0_0 := Lib.hid ((hbx.cell (p := ⟨w5.heap.size, 0, none⟩) (by simp only []; omega)).trans Cw0_0.out)
  have Cw0_1 := Lib.hid ((hbx.cell (p := ⟨w5.heap.size, 1, none⟩) (by simp only []; omega)).trans Cw0_1.out)
  have Cw0_2 := Lib.hid ((hbx.cell (p := ⟨w5.heap.size, 2, none⟩) (by simp only []; omega)).trans Cw0_2.out)
  have Cw0_3 := Lib.hid ((hbx.cell (p := ⟨w5.heap.size, 3, none⟩) (by simp only []; omega)).trans Cw0_3.out)
  have Cg0_0 := Lib.hid ((hbx.cell (p := ⟨w10.heap.size, 0, none⟩) (by simp only []; omega)).trans Cg0_0.out)
  have Cg0_1 := Lib.hid ((hbx.cell (p := ⟨w10.heap.size, 1, none⟩) (by simp only []; omega)).trans Cg0_1.out)
  have Cg0_2 := Lib.hid ((hbx.cell (p := ⟨w10.heap.size, 2, none⟩) (by simp only []; omega)).trans Cg0_2.out)
  have Cg0_3 := Lib.hid ((hbx.cell (p := ⟨w10.heap.size, 3, none⟩) (by simp only []; omega)).trans Cg0_3.out)
  have Ow0 := Lib.hid (show OwC w26 w4.heap.size wA0 wB0 wG0 wc0 wd0 wg0 U0 from OwC.below Ow0.out hbx)
  have Oz0 := Lib.hid (show OwC w26 w22.heap.size zA0 zB0 zG0 zc0 zd0 zg0 q0 from OwC.below Oz0.out hbx)
  have Oz1 := Lib.hid (show OwI w26 w23.heap.size (.slice zA1 l1.length zc1) l1 from OwI.below Oz1.out hbx)
  have Oh0 := Lib.hid (show OwC w26 w24.heap.size hA0 hB0 hG0 hc0 hd0 hg0 U0 from OwC.below Oh0.out hbx)
  have HBM := Lib.hid (HBM.out.trans (hbx.mono (by omega)))
  clear hbx
  have Ch0_0 := Lib.hid x0'
  have Ch0_1 := Lib.hid x1'
  have Ch0_2 := Lib.hid x2'
  have Ch0_3 := Lib.hid x3'
  clear x0' x1' x2' x3'
  refine (eqRegCode_refl w26.heap.size w26.heap.size hA0 hB0 hG0 wA0 wB0 wG0 hc0 hd0 hg0 wc0 wd0 wg0 U0 w26 (by omega) (by omega) (by omega) (Nat.le_refl _) (Nat.le_refl _) (Oh0.out).rd (Ow0.out).rd).mono ?_
  rintro e w27 ⟨rfl, hbel⟩
  have hsw27 : w26.heap.size ≤ w27.heap.size := hbel.size
  have HB := Lib.hid (HB.out.trans (hbel.mono (by omega)))
  have Ca0_0 := Lib.hid ((hbel.cell (p := ⟨w.heap.size, 0, none⟩) (by simp only []; omega)).trans Ca0_0.out)
  have Ca0_1 := Lib.hid ((hbel.cell (p := ⟨w.heap.size, 1, none⟩) (by simp only []; omega)).trans Ca0_1.out)
  have Ca0_2 := Lib.hid ((hbel.cell (p := ⟨w.heap.size, 2, none⟩) (by simp only []; omega)).trans Ca0_2.out)
  have Ca0_3 := Lib.hid ((hbel.cell (p := ⟨w.heap.size, 3, none⟩) (by simp only []; omega)).trans Ca0_3.out)
  have Cw0_0 := Lib.hid ((hbel.cell (p := ⟨w5.heap.size, 0, none⟩) (by simp only []; omega)).trans Cw0_0.out)
  have Cw0_1 := Lib.hid ((hbel.cell (p := ⟨w5.heap.size, 1, none⟩) (by simp only []; omega)).trans Cw0_1.out)
  have Cw0_2 := Lib.hid ((hbel.cell (p := ⟨w5.heap.size, 2, none⟩) (by simp only []; omega)).trans Cw0_2.out)
  have Cw0_3 := Lib.hid ((hbel.cell (p := ⟨w5.heap.size, 3, none⟩) (by simp only []; omega)).trans Cw0_3.out)
  have Cg0_0 := Lib.hid ((hbel.cell (p := ⟨w10.heap.size, 0, none⟩) (by simp only []; omega)).trans Cg0_0.out)
  have Cg0_1 := Lib.hid ((hbel.cell (p := ⟨w10.heap.size, 1, none⟩) (by simp only []; omega)).trans Cg0_1.out)
  have Cg0_2 := Lib.hid ((hbel.cell (p := ⟨w10.heap.size, 2, none⟩) (by simp only []; omega)).trans Cg0_2.out)
  have Cg0_3 := Lib.hid ((hbel.cell (p := ⟨w10.heap.size, 3, none⟩) (by simp only []; omega)).trans Cg0_3.out)
  have Ch0_0 := Lib.hid ((hbel.cell (p := ⟨w25.heap.size, 0, none⟩) (by simp only []; omega)).trans Ch0_0.out)
  have Ch0_1 := Lib.hid ((hbel.cell (p := ⟨w25.heap.size, 1, none⟩) (by simp only []; omega)).trans Ch0_1.out)
  have Ch0_2 := Lib.hid ((hbel.cell (p := ⟨w25.heap.size, 2, none⟩) (by simp only []; omega)).trans Ch0_2.out)
  have Ch0_3 := Lib.hid ((hbel.cell (p := ⟨w25.heap.size, 3, none⟩) (by simp only []; omega)).trans Ch0_3.out)
  have Ow0 := Lib.hid (show OwC w27 w4.heap.size wA0 wB0 wG0 wc0 wd0 wg0 U0 from OwC.below Ow0.out hbel)
  have Oz0 := Lib.hid (show OwC w27 w22.heap.size zA0 zB0 zG0 zc0 zd0 zg0 q0 from OwC.below Oz0.out hbel)
  have Oz1 := Lib.hid (show OwI w27 w23.heap.size (.slice zA1 l1.length zc1) l1 from OwI.below Oz1.out hbel)
  have Oh0 := Lib.hid (show OwC w27 w24.heap.size hA0 hB0 hG0 hc0 hd0 hg0 U0 from OwC.below Oh0.out hbel)
  have HBM := Lib.hid (HBM.out.trans (hbel.mono (by omega)))
  clear hbel
  have v45 := Cg0_0.out
  have v46 := Cg0_1.out
  have v47 := Cg0_2.out
  have v48 := Cg0_3.out
  go_wp2_with fail
  go_at_call 40
  clear v45 v46 v47 v48
  refine (heldRegCode_any w21.heap.size gA0 gB0 gG0 gc0 gd0 gg0 U0.i.length U0.ops.length U0.o.length U0.r 1 w27 (by omega) (by omega) (by omega) (by omega) (by omega) (by omega) (HM.out.1.below HBM.out) (HM.out.2.1.below HBM.out) (HM.out.2.2.below HBM.out)).mono ?_
  rintro e w28 ⟨rfl, hbel⟩
  have hsw28 : w27.heap.size ≤ w28.heap.size := hbel.size
  have HB := Lib.hid (HB.out.trans (hbel.mono (by omega)))
  have Ca0_0 := Lib.hid ((hbel.cell (p := ⟨w.heap.size, 0, none⟩) (by simp only []; omega)).trans Ca0_0.out)
  have Ca0_1 := Lib.hid ((hbel.cell (p := ⟨w.heap.size, 1, none⟩) (by simp only []; omega)).trans Ca0_1.out)
  have Ca0_2 := Lib.hid ((hbel.cell (p := ⟨w.heap.size, 2, none⟩) (by simp only []; omega)).trans Ca0_2.out)
  have Ca0_3 := Lib.hid ((hbel.cell (p := ⟨w.heap.size, 3, none⟩) (by simp only []; omega)).trans Ca0_3.out)
  have Cw0_0 := Lib.hid ((hbel.cell (p := ⟨w5.heap.size, 0, none⟩) (by simp only []; omega)).trans Cw0_0.out)
  have Cw0_1 := Lib.hid ((hbel.cell (p := ⟨w5.heap.size, 1, none⟩) (by simp only []; omega)).trans Cw0_1.out)
  have Cw0_2 := Lib.hid ((hbel.cell (p := ⟨w5.heap.size, 2, none⟩) (by simp only []; omega)).trans Cw0_2.out)
  have Cw0_3 := Lib.hid ((hbel.cell (p := ⟨w5.heap.size, 3, none⟩) (by simp only []; omega)).trans Cw0_3.out)
  have Cg0_0 := Lib.hid ((hbel.cell (p := ⟨w10.heap.size, 0, none⟩) (by simp only []; omega)).trans Cg0_0.out)
  have Cg0_1 := Lib.hid ((hbel.cell (p := ⟨w10.heap.size, 1, none⟩) (by simp only []; omega)).trans Cg0_1.out)
  have Cg0_2 := Lib.hid ((hbel.cell (p := ⟨w10.heap.size, 2, none⟩) (by simp only []; omega)).trans Cg0_2.out)
  have Cg0_3 := Lib.hid ((hbel.cell (p := ⟨w10.heap.size, 3, none⟩) (by simp only []; omega)).trans Cg0_3.out)
  have Ch0_0 := Lib.hid ((hbel.cell (p := ⟨w25.heap.size, 0, none⟩) (by simp only []; omega)).trans Ch0_0.out)
  have Ch0_1 := Lib.hid ((hbel.cell (p := ⟨w25.heap.size, 1, none⟩) (by simp only []; omega)).trans Ch0_1.out)
  have Ch0_2 := Lib.hid ((hbel.cell (p := ⟨w25.heap.size, 2, none⟩) (by simp only []; omega)).trans Ch0_2.out)
  have Ch0_3 := Lib.hid ((hbel.cell (p := ⟨w25.heap.size, 3, none⟩) (by simp only []; omega)).trans Ch0_3.out)
  have Ow0 := Lib.hid (show OwC w28 w4.heap.size wA0 wB0 wG0 wc0 wd0 wg0 U0 from OwC.below Ow0.out hbel)
  have Oz0 := Lib.hid (show OwC w28 w22.heap.size zA0 zB0 zG0 zc0 zd0 zg0 q0 from OwC.below Oz0.out hbel)
  have Oz1 := Lib.hid (show OwI w28 w23.heap.size (.slice zA1 l1.length zc1) l1 from OwI.below Oz1.out hbel)
  have Oh0 := Lib.hid (show OwC w28 w24.heap.size hA0 hB0 hG0 hc0 hd0 hg0 U0 from OwC.below Oh0.out hbel)
  have HBM := Lib.hid (HBM.out.trans (hbel.mono (by omega)))
  clear hbel
  go_wp2
  go_ret
  exact ⟨rfl, HB.out⟩

set_option maxRecDepth 100000 in
theorem renameRegisters_lifted (os : Os) (started : os.Started) (H : Type) (enc : TypeId × Value → H) :
    ReturnsInHanded {} Try.checked os 14 .any (Rows.fnExactRenameRegistersSpec.pre6 enc Try.prog Try.f14 Rows.fnExactRenameRegistersRow.domain false) (Rows.fnExactRenameRegistersSpec.post enc Try.prog Try.f14 false true false false) := by
  refine returnsInHanded_of_change (C := Try.checked) own started (by kernel_rfl) Try.func14
    (ChangeSpec.witness6 (enc := enc) (C := Try.checked) false ⟨#[], #[.agg #[.int .i64 0, .slice none 0 0, .slice none 0 0, .slice none 0 0], .slice none 0 0], []⟩ 8 (by kernel_rfl) (by kernel_rfl) (by kernel_rfl) (by kernel_rfl)) ?_
  intro W base args ds gs before hval0 hW _ _
  have hval : ∀ (j : Nat) t v, Try.f14.params[j]? = some t → args[j]? = some v → Value.okWide Try.prog W .any base t v := hval0
  have hW' := hW
  obtain ⟨p, q, hA0, hV, rfl, hfz, hnd⟩ := hW
  have hA : DataW.TrodAll enc Try.prog W 0 (fun _ => true) true Try.f14.params.toList args.toList ds p := hA0
  rw [Try.params14] at hA hval
  obtain ⟨v0, v1, d0, d1, pp0, pp1, rfl, rfl, rfl, h0, h1⟩ := trodAll_two hA
  obtain ⟨rfl, rfl⟩ := trodVars_none hV
  have h0k := h0
  have h1k := h1
  obtain ⟨A0, B0, G0, c0, d0', g0, q0, hx0, ln0, lo0, lp0, hrd0⟩ := open_code (hval 0 25 v0 rfl rfl) h0
  obtain ⟨A1, c1, l1, hx1, ln1, hrd1⟩ := open_list (hval 1 22 v1 rfl rfl) h1
  subst hx0
  subst hx1
  clear hA0 hval0
  simp only [List.append_nil] at hW'
  refine (lawRenameRegisters A0 B0 G0 c0 d0' g0 q0 A1 c1 l1 W ln0 lo0 lp0 hrd0 ln1 hrd1).mono fun e W' ⟨he, hb⟩ => ?_
  subst he
  have hlt : ∀ x ∈ pp0 ++ pp1, x.block < W.heap.size := fun x hx => by simpa using hW'.lt x hx
  refine ⟨_, rfl, _, _, _, [], pp0 ++ pp1, [], hW', trodAll_mk1 (shut_bool Try.underlying4 _), ?_, rfl, hb.frame _, fun h => by cases h⟩
  exact trodAll_mk2 (Below.trod laidOut (by kernel_rfl) (of_decide_eq_true (by kernel_rfl)) h0k hb fun x hx => hlt x (List.mem_append_left _ hx)) (Below.trod laidOut (by kernel_rfl) (of_decide_eq_true (by kernel_rfl)) h1k hb fun x hx => hlt x (List.mem_append_right _ hx))

theorem renameRegisters_holds : Rows.FnExactRenameRegistersSaid :=
  OpenClaim.holds_of_wide 14 Try.f14 rfl rfl rfl rfl rfl rfl rfl ⟨rfl, rfl, rfl, rfl, rfl⟩ rfl rfl rfl rfl rfl (by kernel_rfl) Try.func14 (by kernel_rfl)
    (of_decide_eq_true (by kernel_rfl)) (by unfold Func.isWrapper; rw [if_neg (of_decide_eq_false (by kernel_rfl))]; exact ⟨rfl, rfl⟩)
    (fun os started H enc _ => renameRegisters_lifted os started H enc)
end Go.Proofs.Ytbbjgcagkmlngaa
