/- The law FnExactRunRegCode holds: for every argument, valid or not, RunRegCode of the program answers as RunRegCode of the model, writes into no argument, and its answer owns its memory. No condition. -/
import Derived.Test.YtbbjgcagkmlngaaPR0
import Derived.Test.YtbbjgcagkmlngaaPR1
import Derived.Test.YtbbjgcagkmlngaaPT0
namespace Go.Proofs.Ytbbjgcagkmlngaa
open Go.ChangeShapes Go.WideShapes Go.ChangeAt Go.RowKit Go.Deep Go.Joins

set_option maxRecDepth 100000 in
set_option maxHeartbeats 8000000 in
theorem lawRunRegCode (A0 : Option Addr) (B0 : Option Addr) (G0 : Option Addr) (c0 : Nat) (d0 : Nat) (g0 : Nat) (q0 : Rc) (x1 : Int) (A2 : Option Addr) (c2 : Nat) (l2 : List Int) (w : World) (hn0 : q0.i.length ≤ 9223372036854775807) (hm0 : q0.ops.length ≤ 9223372036854775807) (ho0 : q0.o.length ≤ 9223372036854775807) (hr0 : RdC w w.heap.size A0 B0 G0 q0) (hn2 : l2.length ≤ 9223372036854775807) (hr2 : Rd w w.heap.size 1 A2 l2.length (l2.map I)) :
    Calls Try.prog 5 #[.agg #[.int .i64 q0.r, .slice A0 q0.i.length c0, .slice B0 q0.ops.length d0, .slice G0 q0.o.length g0], .int .i64 x1, .slice A2 l2.length c2] w fun e w' => e = .returned (.bool true) ∧ Below w.heap.size w w' := by
  have H0 := Lib.hid hr0
  clear hr0
  have H2 := Lib.hid hr2
  clear hr2
  by_cases hbig2 : 1048576 < l2.length
  · have ibig : (1048576 : Int) < (l2.length : Int) := by omega
    go_enter Try.func5, Try.ntmps5
    go_wp2
    go_ret
    exact ⟨rfl, (Below.refl _ _).alloc (Nat.le_refl _) _⟩
  have hl2 : l2.length ≤ 1048576 := by omega
  have il2 : ¬ (1048576 : Int) < (l2.length : Int) := by omega
  clear hbig2
  obtain ⟨sz0, hsz0⟩ : ∃ qx, szRc q0 1048576 = qx := ⟨_, rfl⟩
  have hsc0 := fun W => szRegCode_any A0 B0 G0 c0 d0 g0 q0 1048576 W (by omega) (by omega) hn0 hm0 ho0
  rw [hsz0] at hsc0
  have SZ0 := Lib.hid hsc0
  have SX0 := Lib.hid hsz0
  clear hsz0 hsc0
  go_enter Try.func5, Try.ntmps5
  go_wp2_with fail
  go_at_call 15
  generalize hww1 : World.alloc w _ = w1
  obtain ⟨x0', x1', x2', x3', hxw1, hbx⟩ := bx4 hww1
  clear hww1
  have hxP := hxw1
  have hsw1 : w.heap.size ≤ w1.heap.size := hbx.size
  have HB := Lib.hid hbx
  clear hbx
  have Ca0_0 := Lib.hid x0'
  have Ca0_1 := Lib.hid x1'
  have Ca0_2 := Lib.hid x2'
  have Ca0_3 := Lib.hid x3'
  clear x0' x1' x2' x3'
  refine (SZ0.out _).mono ?_
  rintro e w2 ⟨rfl, hbel⟩
  have hsw2 : w1.heap.size ≤ w2.heap.size := hbel.size
  have HB := Lib.hid (HB.out.trans (hbel.mono (by omega)))
  have Ca0_0 := Lib.hid ((hbel.cell (p := ⟨w.heap.size, 0, none⟩) (by simp only []; omega)).trans Ca0_0.out)
  have Ca0_1 := Lib.hid ((hbel.cell (p := ⟨w.heap.size, 1, none⟩) (by simp only []; omega)).trans Ca0_1.out)
  have Ca0_2 := Lib.hid ((hbel.cell (p := ⟨w.heap.size, 2, none⟩) (by simp only []; omega)).trans Ca0_2.out)
  have Ca0_3 := Lib.hid ((hbel.cell (p := ⟨w.heap.size, 3, none⟩) (by simp only []; omega)).trans Ca0_3.out)
  clear hbel
  by_cases hneg0 : sz0 < 0
  · go_wp2
    go_ret
    exact ⟨rfl, HB.out⟩
  obtain ⟨hli0, hlp0, hlo0⟩ := szRc_ok (c := q0) (left := 1048576) (by omega) (by rw [SX0.out]; exact hneg0)
  obtain ⟨U0, hU0⟩ : ∃ gx, rrV (rcR q0) x1 l2 = gx := ⟨_, rfl⟩
  have hUl0 : U0.length ≤ 1000 := by rw [← hU0]; exact rr_len (rcR q0) x1 l2
  obtain ⟨U1, hU1⟩ : ∃ gx, rrG (rcR q0) x1 l2 = gx := ⟨_, rfl⟩
  have hspec := fun (W : World) A0' B0' G0' c0' d0' g0' A2' c2' => specRunRc_any (World.heap W).size A0' B0' G0' c0' d0' g0' q0 x1 A2' c2' l2 W (Nat.le_refl _) hli0 hlp0 hlo0 hl2
  have himpl := fun (W : World) A0' B0' G0' c0' d0' g0' A2' c2' => implRunRc_any (World.heap W).size A0' B0' G0' c0' d0' g0' q0 x1 A2' c2' l2 W (Nat.le_refl _) hli0 hlp0 hlo0 hl2
  rw [hU0, hU1] at hspec himpl
  have HSPEC := Lib.hid hspec
  have HIMPL := Lib.hid himpl
  clear hU0 hU1 hspec himpl
  have v1 := Ca0_0.out
  have v2 := Ca0_1.out
  have v3 := Ca0_2.out
  have v4 := Ca0_3.out
  go_wp2_with fail
  go_at_call 17
  clear v1 v2 v3 v4
  refine (toRegCode_any w.heap.size A0 B0 G0 c0 d0 g0 q0 w2 hli0 hlp0 hlo0 (by omega) (H0.out.below HB.out)).mono ?_
  rintro e w3 ⟨sA0, sB0, sG0, sc0, sd0, sg0, rfl, hown, hbel⟩
  have Os0' := Lib.hid hown
  clear hown
  have hsw3 : w2.heap.size ≤ w3.heap.size := hbel.size
  have HB := Lib.hid (HB.out.trans (hbel.mono (by omega)))
  have Ca0_0 := Lib.hid ((hbel.cell (p := ⟨w.heap.size, 0, none⟩) (by simp only []; omega)).trans Ca0_0.out)
  have Ca0_1 := Lib.hid ((hbel.cell (p := ⟨w.heap.size, 1, none⟩) (by simp only []; omega)).trans Ca0_1.out)
  have Ca0_2 := Lib.hid ((hbel.cell (p := ⟨w.heap.size, 2, none⟩) (by simp only []; omega)).trans Ca0_2.out)
  have Ca0_3 := Lib.hid ((hbel.cell (p := ⟨w.heap.size, 3, none⟩) (by simp only []; omega)).trans Ca0_3.out)
  clear hbel
  have Os0 := Lib.hid (show OwC w3 w2.heap.size sA0 sB0 sG0 sc0 sd0 sg0 q0 from Os0'.out)
  have Us0 := Lib.hid (show (∀ k, (Value.slice sA0 q0.i.length sc0).ownBlock = some k → k < w3.heap.size) ∧ (∀ k, (Value.slice sB0 q0.ops.length sd0).ownBlock = some k → k < w3.heap.size) ∧ (∀ k, (Value.slice sG0 q0.o.length sg0).ownBlock = some k → k < w3.heap.size) from ⟨fun k hk => (own_block (Os0.out).1 k hk).2, fun k hk => (own_block (Os0.out).2.1 k hk).2, fun k hk => (own_block (Os0.out).2.2.1 k hk).2⟩)
  clear Os0'
  go_wp2_with fail
  go_at_call 27
  refine (toIntS_any w.heap.size A2 c2 l2 w3 hl2 (by omega) (H2.out.below HB.out)).mono ?_
  rintro e w4 ⟨sA2, sc2, rfl, hown, hbel⟩
  have Os2' := Lib.hid hown
  clear hown
  have hsw4 : w3.heap.size ≤ w4.heap.size := hbel.size
  have HB := Lib.hid (HB.out.trans (hbel.mono (by omega)))
  have Ca0_0 := Lib.hid ((hbel.cell (p := ⟨w.heap.size, 0, none⟩) (by simp only []; omega)).trans Ca0_0.out)
  have Ca0_1 := Lib.hid ((hbel.cell (p := ⟨w.heap.size, 1, none⟩) (by simp only []; omega)).trans Ca0_1.out)
  have Ca0_2 := Lib.hid ((hbel.cell (p := ⟨w.heap.size, 2, none⟩) (by simp only []; omega)).trans Ca0_2.out)
  have Ca0_3 := Lib.hid ((hbel.cell (p := ⟨w.heap.size, 3, none⟩) (by simp only []; omega)).trans Ca0_3.out)
  have Os0 := Lib.hid (show OwC w4 w2.heap.size sA0 sB0 sG0 sc0 sd0 sg0 q0 from OwC.below Os0.out hbel)
  clear hbel
  have Os2 := Lib.hid (show OwI w4 w3.heap.size (.slice sA2 l2.length sc2) l2 from Os2'.out)
  have Us2 := Lib.hid (show ∀ k, (Value.slice sA2 l2.length sc2).ownBlock = some k → k < w4.heap.size from fun k hk => (own_block Os2.out k hk).2)
  clear Os2'
  go_wp2_with fail
  go_at_call 26
  refine (HSPEC.out w4 sA0 sB0 sG0 sc0 sd0 sg0 sA2 sc2 (Os0.out).cap (Os2.out).cap (Os0.out).rd (Os2.out).rd).mono ?_
  rintro e w5 ⟨wA0, wc0, rfl, hown0, hbel⟩
  have Ow0' := Lib.hid hown0
  clear hown0
  have hsw5 : w4.heap.size ≤ w5.heap.size := hbel.size
  have HB := Lib.hid (HB.out.trans (hbel.mono (by omega)))
  have Ca0_0 := Lib.hid ((hbel.cell (p := ⟨w.heap.size, 0, none⟩) (by simp only []; omega)).trans Ca0_0.out)
  have Ca0_1 := Lib.hid ((hbel.cell (p := ⟨w.heap.size, 1, none⟩) (by simp only []; omega)).trans Ca0_1.out)
  have Ca0_2 := Lib.hid ((hbel.cell (p := ⟨w.heap.size, 2, none⟩) (by simp only []; omega)).trans Ca0_2.out)
  have Ca0_3 := Lib.hid ((hbel.cell (p := ⟨w.heap.size, 3, none⟩) (by simp only []; omega)).trans Ca0_3.out)
  have Os0 := Lib.hid (show OwC w5 w2.heap.size sA0 sB0 sG0 sc0 sd0 sg0 q0 from OwC.below Os0.out hbel)
  have Os2 := Lib.hid (show OwI w5 w3.heap.size (.slice sA2 l2.length sc2) l2 from OwI.below Os2.out hbel)
  clear hbel
  have Ow0 := Lib.hid (show OwI w5 w4.heap.size (.slice wA0 U0.length wc0) U0 from Ow0'.out)
  have Uw0 := Lib.hid (show ∀ k, (Value.slice wA0 U0.length wc0).ownBlock = some k → k < w5.heap.size from fun k hk => (own_block Ow0.out k hk).2)
  clear Ow0'
  have v5 := Ca0_0.out
  have v6 := Ca0_1.out
  have v7 := Ca0_2.out
  have v8 := Ca0_3.out
  go_wp2_with fail
  go_at_call 17
  clear v5 v6 v7 v8
  refine (toRegCode_any w.heap.size A0 B0 G0 c0 d0 g0 q0 w5 hli0 hlp0 hlo0 (by omega) (H0.out.below HB.out)).mono ?_
  rintro e w6 ⟨xA0, xB0, xG0, xc0, xd0, xg0, rfl, hown, hbel⟩
  have Ox0' := Lib.hid hown
  clear hown
  have hsw6 : w5.heap.size ≤ w6.heap.size := hbel.size
  have HB := Lib.hid (HB.out.trans (hbel.mono (by omega)))
  have Ca0_0 := Lib.hid ((hbel.cell (p := ⟨w.heap.size, 0, none⟩) (by simp only []; omega)).trans Ca0_0.out)
  have Ca0_1 := Lib.hid ((hbel.cell (p := ⟨w.heap.size, 1, none⟩) (by simp only []; omega)).trans Ca0_1.out)
  have Ca0_2 := Lib.hid ((hbel.cell (p := ⟨w.heap.size, 2, none⟩) (by simp only []; omega)).trans Ca0_2.out)
  have Ca0_3 := Lib.hid ((hbel.cell (p := ⟨w.heap.size, 3, none⟩) (by simp only []; omega)).trans Ca0_3.out)
  have Ow0 := Lib.hid (show OwI w6 w4.heap.size (.slice wA0 U0.length wc0) U0 from OwI.below Ow0.out hbel)
  clear hbel
  have Ox0 := Lib.hid (show OwC w6 w5.heap.size xA0 xB0 xG0 xc0 xd0 xg0 q0 from Ox0'.out)
  have Ux0 := Lib.hid (show (∀ k, (Value.slice xA0 q0.i.length xc0).ownBlock = some k → k < w6.heap.size) ∧ (∀ k, (Value.slice xB0 q0.ops.length xd0).ownBlock = some k → k < w6.heap.size) ∧ (∀ k, (Value.slice xG0 q0.o.length xg0).ownBlock = some k → k < w6.heap.size) from ⟨fun k hk => (own_block (Ox0.out).1 k hk).2, fun k hk => (own_block (Ox0.out).2.1 k hk).2, fun k hk => (own_block (Ox0.out).2.2.1 k hk).2⟩)
  clear Ox0'
  go_wp2_with fail
  go_at_call 27
  generalize hww7 : World.alloc w6 _ = w7
  obtain ⟨x0', x1', x2', x3', hxw7, hbx⟩ := bx4 hww7
  clear hww7
  have hxP := hxw7
  have hsw7 : w6.heap.size ≤ w7.heap.size := hbx.size
  have HB := Lib.hid (HB.out.trans (hbx.mono (by omega)))
  have Ca0_0 := Lib.hid ((hbx.cell (p := ⟨w.heap.size, 0, none⟩) (by simp only []; omega)).trans Ca0_0.out)
  have Ca0_1 := Lib.hid ((hbx.cell (p := ⟨w.heap.size, 1, none⟩) (by simp only []; omega)).trans Ca0_1.out)
  have Ca0_2 := Lib.hid ((hbx.cell (p := ⟨w.heap.size, 2, none⟩) (by simp only []; omega)).trans Ca0_2.out)
  have Ca0_3 := Lib.hid ((hbx.cell (p := ⟨w.heap.size, 3, none⟩) (by simp only []; omega)).trans Ca0_3.out)
  have Ow0 := Lib.hid (show OwI w7 w4.heap.size (.slice wA0 U0.length wc0) U0 from OwI.below Ow0.out hbx)
  have Ox0 := Lib.hid (show OwC w7 w5.heap.size xA0 xB0 xG0 xc0 xd0 xg0 q0 from OwC.below Ox0.out hbx)
  clear hbx
  have Cx0_0 := Lib.hid x0'
  have Cx0_1 := Lib.hid x1'
  have Cx0_2 := Lib.hid x2'
  have Cx0_3 := Lib.hid x3'
  clear x0' x1' x2' x3'
  refine (toIntS_any w.heap.size A2 c2 l2 w7 hl2 (by omega) (H2.out.below HB.out)).mono ?_
  rintro e w8 ⟨xA2, xc2, rfl, hown, hbel⟩
  have Ox2' := Lib.hid hown
  clear hown
  have hsw8 : w7.heap.size ≤ w8.heap.size := hbel.size
  have HB := Lib.hid (HB.out.trans (hbel.mono (by omega)))
  have Ca0_0 := Lib.hid ((hbel.cell (p := ⟨w.heap.size, 0, none⟩) (by simp only []; omega)).trans Ca0_0.out)
  have Ca0_1 := Lib.hid ((hbel.cell (p := ⟨w.heap.size, 1, none⟩) (by simp only []; omega)).trans Ca0_1.out)
  have Ca0_2 := Lib.hid ((hbel.cell (p := ⟨w.heap.size, 2, none⟩) (by simp only []; omega)).trans Ca0_2.out)
  have Ca0_3 := Lib.hid ((hbel.cell (p := ⟨w.heap.size, 3, none⟩) (by simp only []; omega)).trans Ca0_3.out)
  have Cx0_0 := Lib.hid ((hbel.cell (p := ⟨w6.heap.size, 0, none⟩) (by simp only []; omega)).trans Cx0_0.out)
  have Cx0_1 := Lib.hid ((hbel.cell (p := ⟨w6.heap.size, 1, none⟩) (by simp only []; omega)).trans Cx0_1.out)
  have Cx0_2 := Lib.hid ((hbel.cell (p := ⟨w6.heap.size, 2, none⟩) (by simp only []; omega)).trans Cx0_2.out)
  have Cx0_3 := Lib.hid ((hbel.cell (p := ⟨w6.heap.size, 3, none⟩) (by simp only []; omega)).trans Cx0_3.out)
  have Ow0 := Lib.hid (show OwI w8 w4.heap.size (.slice wA0 U0.length wc0) U0 from OwI.below Ow0.out hbel)
  have Ox0 := Lib.hid (show OwC w8 w5.heap.size xA0 xB0 xG0 xc0 xd0 xg0 q0 from OwC.below Ox0.out hbel)
  clear hbel
  have Ox2 := Lib.hid (show OwI w8 w7.heap.size (.slice xA2 l2.length xc2) l2 from Ox2'.out)
  have Ux2 := Lib.hid (show ∀ k, (Value.slice xA2 l2.length xc2).ownBlock = some k → k < w8.heap.size from fun k hk => (own_block Ox2.out k hk).2)
  clear Ox2'
  have v9 := Cx0_0.out
  have v10 := Cx0_1.out
  have v11 := Cx0_2.out
  have v12 := Cx0_3.out
  go_wp2_with fail
  go_at_call 28
  clear v9 v10 v11 v12
  refine (HIMPL.out w8 xA0 xB0 xG0 xc0 xd0 xg0 xA2 xc2 (Ox0.out).cap (Ox2.out).cap (Ox0.out).rd (Ox2.out).rd).mono ?_
  rintro e w9 ⟨gA0, gc0, rfl, hown0, hbel⟩
  have Og0' := Lib.hid hown0
  clear hown0
  have hsw9 : w8.heap.size ≤ w9.heap.size := hbel.size
  have HB := Lib.hid (HB.out.trans (hbel.mono (by omega)))
  have Ca0_0 := Lib.hid ((hbel.cell (p := ⟨w.heap.size, 0, none⟩) (by simp only []; omega)).trans Ca0_0.out)
  have Ca0_1 := Lib.hid ((hbel.cell (p := ⟨w.heap.size, 1, none⟩) (by simp only []; omega)).trans Ca0_1.out)
  have Ca0_2 := Lib.hid ((hbel.cell (p := ⟨w.heap.size, 2, none⟩) (by simp only []; omega)).trans Ca0_2.out)
  have Ca0_3 := Lib.hid ((hbel.cell (p := ⟨w.heap.size, 3, none⟩) (by simp only []; omega)).trans Ca0_3.out)
  have Cx0_0 := Lib.hid ((hbel.cell (p := ⟨w6.heap.size, 0, none⟩) (by simp only []; omega)).trans Cx0_0.out)
  have Cx0_1 := Lib.hid ((hbel.cell (p := ⟨w6.heap.size, 1, none⟩) (by simp only []; omega)).trans Cx0_1.out)
  have Cx0_2 := Lib.hid ((hbel.cell (p := ⟨w6.heap.size, 2, none⟩) (by simp only []; omega)).trans Cx0_2.out)
  have Cx0_3 := Lib.hid ((hbel.cell (p := ⟨w6.heap.size, 3, none⟩) (by simp only []; omega)).trans Cx0_3.out)
  have Ow0 := Lib.hid (show OwI w9 w4.heap.size (.slice wA0 U0.length wc0) U0 from OwI.below Ow0.out hbel)
  have Ox0 := Lib.hid (show OwC w9 w5.heap.size xA0 xB0 xG0 xc0 xd0 xg0 q0 from OwC.below Ox0.out hbel)
  have Ox2 := Lib.hid (show OwI w9 w7.heap.size (.slice xA2 l2.length xc2) l2 from OwI.below Ox2.out hbel)
  clear hbel
  have Og0 := Lib.hid (show OwI w9 w8.heap.size (.slice gA0 U0.length gc0) U0 from Og0'.out)
  have Ug0 := Lib.hid (show ∀ k, (Value.slice gA0 U0.length gc0).ownBlock = some k → k < w9.heap.size from fun k hk => (own_block Og0.out k hk).2)
  clear Og0'
  go_wp2_with fail
  go_at_call 29
  have hE := eqIntS_any w9.heap.size w9.heap.size gA0 wA0 gc0 wc0 U0 U0 w9 (by omega) (by omega) (Og0.out).rd (Ow0.out).rd
  rw [eqI_refl] at hE
  refine hE.mono ?_
  rintro e w10 ⟨rfl, hdr⟩
  clear hE
  have hbel := hdr.below w9.heap.size
  clear hdr
  have hsw10 : w9.heap.size ≤ w10.heap.size := hbel.size
  have HB := Lib.hid (HB.out.trans (hbel.mono (by omega)))
  have Ca0_0 := Lib.hid ((hbel.cell (p := ⟨w.heap.size, 0, none⟩) (by simp only []; omega)).trans Ca0_0.out)
  have Ca0_1 := Lib.hid ((hbel.cell (p := ⟨w.heap.size, 1, none⟩) (by simp only []; omega)).trans Ca0_1.out)
  have Ca0_2 := Lib.hid ((hbel.cell (p := ⟨w.heap.size, 2, none⟩) (by simp only []; omega)).trans Ca0_2.out)
  have Ca0_3 := Lib.hid ((hbel.cell (p := ⟨w.heap.size, 3, none⟩) (by simp only []; omega)).trans Ca0_3.out)
  have Cx0_0 := Lib.hid ((hbel.cell (p := ⟨w6.heap.size, 0, none⟩) (by simp only []; omega)).trans Cx0_0.out)
  have Cx0_1 := Lib.hid ((hbel.cell (p := ⟨w6.heap.size, 1, none⟩) (by simp only []; omega)).trans Cx0_1.out)
  have Cx0_2 := Lib.hid ((hbel.cell (p := ⟨w6.heap.size, 2, none⟩) (by simp only []; omega)).trans Cx0_2.out)
  have Cx0_3 := Lib.hid ((hbel.cell (p := ⟨w6.heap.size, 3, none⟩) (by simp only []; omega)).trans Cx0_3.out)
  have Ow0 := Lib.hid (show OwI w10 w4.heap.size (.slice wA0 U0.length wc0) U0 from OwI.below Ow0.out hbel)
  have Ox0 := Lib.hid (show OwC w10 w5.heap.size xA0 xB0 xG0 xc0 xd0 xg0 q0 from OwC.below Ox0.out hbel)
  have Ox2 := Lib.hid (show OwI w10 w7.heap.size (.slice xA2 l2.length xc2) l2 from OwI.below Ox2.out hbel)
  have Og0 := Lib.hid (show OwI w10 w8.heap.size (.slice gA0 U0.length gc0) U0 from OwI.below Og0.out hbel)
  clear hbel
  go_wp2
  have Fx0_0 := Lib.hid (show ∀ x, Below w10.heap.size w10 x → x.cell? ⟨w6.heap.size, 0, none⟩ = some (.int .i64 q0.r) from fun x hx => (hx.cell (p := ⟨w6.heap.size, 0, none⟩) (by simp only []; omega)).trans Cx0_0.out)
  have Fx0_1 := Lib.hid (show ∀ x, Below w10.heap.size w10 x → x.cell? ⟨w6.heap.size, 1, none⟩ = some (.slice xA0 q0.i.length xc0) from fun x hx => (hx.cell (p := ⟨w6.heap.size, 1, none⟩) (by simp only []; omega)).trans Cx0_1.out)
  have Fx0_2 := Lib.hid (show ∀ x, Below w10.heap.size w10 x → x.cell? ⟨w6.heap.size, 2, none⟩ = some (.slice xB0 q0.ops.length xd0) from fun x hx => (hx.cell (p := ⟨w6.heap.size, 2, none⟩) (by simp only []; omega)).trans Cx0_2.out)
  have Fx0_3 := Lib.hid (show ∀ x, Below w10.heap.size w10 x → x.cell? ⟨w6.heap.size, 3, none⟩ = some (.slice xG0 q0.o.length xg0) from fun x hx => (hx.cell (p := ⟨w6.heap.size, 3, none⟩) (by simp only []; omega)).trans Cx0_3.out)
  have Fa0_0 := Lib.hid (show ∀ x, Below w10.heap.size w10 x → x.cell? ⟨w.heap.size, 0, none⟩ = some (.int .i64 q0.r) from fun x hx => (hx.cell (p := ⟨w.heap.size, 0, none⟩) (by simp only []; omega)).trans Ca0_0.out)
  have Fa0_1 := Lib.hid (show ∀ x, Below w10.heap.size w10 x → x.cell? ⟨w.heap.size, 1, none⟩ = some (.slice A0 q0.i.length c0) from fun x hx => (hx.cell (p := ⟨w.heap.size, 1, none⟩) (by simp only []; omega)).trans Ca0_1.out)
  have Fa0_2 := Lib.hid (show ∀ x, Below w10.heap.size w10 x → x.cell? ⟨w.heap.size, 2, none⟩ = some (.slice B0 q0.ops.length d0) from fun x hx => (hx.cell (p := ⟨w.heap.size, 2, none⟩) (by simp only []; omega)).trans Ca0_2.out)
  have Fa0_3 := Lib.hid (show ∀ x, Below w10.heap.size w10 x → x.cell? ⟨w.heap.size, 3, none⟩ = some (.slice G0 q0.o.length g0) from fun x hx => (hx.cell (p := ⟨w.heap.size, 3, none⟩) (by simp only []; omega)).trans Ca0_3.out)
  have SD := Lib.hid (show Below w10.heap.size w10 w10.drew from (Below.refl _ _).drew)
  refine wp_region_T (fun x : World => Below w10.heap.size w10 x) [0, 1, 4] [0, 1] (.ls 0 (.ls 1 (.hv 2 (.hv 3 (.lp 4 (.done)))))) (by kernel_rfl) (by kernel_rfl) ?_
  refine T_ls1 (v := .agg #[.int .i64 q0.r, .slice xA0 q0.i.length xc0, .slice xB0 q0.ops.length xd0, .slice xG0 q0.o.length xg0]) rfl rfl SD.out (fun x hx => (by have h1 := Fx0_0.out x hx; have h2 := Fx0_1.out x hx; have h3 := Fx0_2.out x hx; have h4 := Fx0_3.out x hx; go_simp)) (fun K hK => ?_)
  (go_simp; refine hK _ ?_; clear hK K)
  refine T_ls1 (v := .agg #[.int .i64 q0.r, .slice A0 q0.i.length c0, .slice B0 q0.ops.length d0, .slice G0 q0.o.length g0]) rfl rfl SD.out (fun x hx => (by have h1 := Fa0_0.out x hx; have h2 := Fa0_1.out x hx; have h3 := Fa0_2.out x hx; have h4 := Fa0_3.out x hx; go_simp)) (fun K hK => ?_)
  (go_simp; refine hK _ ?_; clear hK K)
  refine T_hvS rfl (fun K hK => ?_)
  go_simp
  go_at_call 17
  generalize hwd : w10.drew = w11 at SD ⊢
  clear hwd
  have hbd := SD.out
  have hsw11 : w10.heap.size ≤ w11.heap.size := hbd.size
  have HB := Lib.hid (HB.out.trans (hbd.mono (by omega)))
  have Ca0_0 := Lib.hid ((hbd.cell (p := ⟨w.heap.size, 0, none⟩) (by simp only []; omega)).trans Ca0_0.out)
  have Ca0_1 := Lib.hid ((hbd.cell (p := ⟨w.heap.size, 1, none⟩) (by simp only []; omega)).trans Ca0_1.out)
  have Ca0_2 := Lib.hid ((hbd.cell (p := ⟨w.heap.size, 2, none⟩) (by simp only []; omega)).trans Ca0_2.out)
  have Ca0_3 := Lib.hid ((hbd.cell (p := ⟨w.heap.size, 3, none⟩) (by simp only []; omega)).trans Ca0_3.out)
  have Cx0_0 := Lib.hid ((hbd.cell (p := ⟨w6.heap.size, 0, none⟩) (by simp only []; omega)).trans Cx0_0.out)
  have Cx0_1 := Lib.hid ((hbd.cell (p := ⟨w6.heap.size, 1, none⟩) (by simp only []; omega)).trans Cx0_1.out)
  have Cx0_2 := Lib.hid ((hbd.cell (p := ⟨w6.heap.size, 2, none⟩) (by simp only []; omega)).trans Cx0_2.out)
  have Cx0_3 := Lib.hid ((hbd.cell (p := ⟨w6.heap.size, 3, none⟩) (by simp only []; omega)).trans Cx0_3.out)
  have Ow0 := Lib.hid (show OwI w11 w4.heap.size (.slice wA0 U0.length wc0) U0 from OwI.below Ow0.out hbd)
  have Ox0 := Lib.hid (show OwC w11 w5.heap.size xA0 xB0 xG0 xc0 xd0 xg0 q0 from OwC.below Ox0.out hbd)
  have Ox2 := Lib.hid (show OwI w11 w7.heap.size (.slice xA2 l2.length xc2) l2 from OwI.below Ox2.out hbd)
  have Og0 := Lib.hid (show OwI w11 w8.heap.size (.slice gA0 U0.length gc0) U0 from OwI.below Og0.out hbd)
  clear hbd
  have SBY := Lib.hid SD.out
  refine (toRegCode_any w.heap.size A0 B0 G0 c0 d0 g0 q0 w11 hli0 hlp0 hlo0 (by omega) (H0.out.below HB.out)).mono ?_
  rintro e w12 ⟨yA0, yB0, yG0, yc0, yd0, yg0, rfl, hown, hbel⟩
  have Oy0' := Lib.hid hown
  clear hown
  have hsw12 : w11.heap.size ≤ w12.heap.size := hbel.size
  have HB := Lib.hid (HB.out.trans (hbel.mono (by omega)))
  have Ca0_0 := Lib.hid ((hbel.cell (p := ⟨w.heap.size, 0, none⟩) (by simp only []; omega)).trans Ca0_0.out)
  have Ca0_1 := Lib.hid ((hbel.cell (p := ⟨w.heap.size, 1, none⟩) (by simp only []; omega)).trans Ca0_1.out)
  have Ca0_2 := Lib.hid ((hbel.cell (p := ⟨w.heap.size, 2, none⟩) (by simp only []; omega)).trans Ca0_2.out)
  have Ca0_3 := Lib.hid ((hbel.cell (p := ⟨w.heap.size, 3, none⟩) (by simp only []; omega)).trans Ca0_3.out)
  have Cx0_0 := Lib.hid ((hbel.cell (p := ⟨w6.heap.size, 0, none⟩) (by simp only []; omega)).trans Cx0_0.out)
  have Cx0_1 := Lib.hid ((hbel.cell (p := ⟨w6.heap.size, 1, none⟩) (by simp only []; omega)).trans Cx0_1.out)
  have Cx0_2 := Lib.hid ((hbel.cell (p := ⟨w6.heap.size, 2, none⟩) (by simp only []; omega)).trans Cx0_2.out)
  have Cx0_3 := Lib.hid ((hbel.cell (p := ⟨w6.heap.size, 3, none⟩) (by simp only []; omega)).trans Cx0_3.out)
  have Ow0 := Lib.hid (show OwI w12 w4.heap.size (.slice wA0 U0.length wc0) U0 from OwI.below Ow0.out hbel)
  have Ox0 := Lib.hid (show OwC w12 w5.heap.size xA0 xB0 xG0 xc0 xd0 xg0 q0 from OwC.below Ox0.out hbel)
  have Ox2 := Lib.hid (show OwI w12 w7.heap.size (.slice xA2 l2.length xc2) l2 from OwI.below Ox2.out hbel)
  have Og0 := Lib.hid (show OwI w12 w8.heap.size (.slice gA0 U0.length gc0) U0 from OwI.below Og0.out hbel)
  have SBY := Lib.hid (SBY.out.trans (hbel.mono (by omega)))
  clear hbel
  have Oy0 := Lib.hid (show OwC w12 w11.heap.size yA0 yB0 yG0 yc0 yd0 yg0 q0 from Oy0'.out)
  have Uy0 := Lib.hid (show (∀ k, (Value.slice yA0 q0.i.length yc0).ownBlock = some k → k < w12.heap.size) ∧ (∀ k, (Value.slice yB0 q0.ops.length yd0).ownBlock = some k → k < w12.heap.size) ∧ (∀ k, (Value.slice yG0 q0.o.length yg0).ownBlock = some k → k < w12.heap.size) from ⟨fun k hk => (own_block (Oy0.out).1 k hk).2, fun k hk => (own_block (Oy0.out).2.1 k hk).2, fun k hk => (own_block (Oy0.out).2.2.1 k hk).2⟩)
  clear Oy0'
  go_simp
  refine hK _ _ (SBY.out) ?_
  clear hK K
  (refine T_hv rfl (by kernel_rfl) (fun K hK => ?_); go_simp)
  go_at_call 19
  refine (eqRegCode_refl w12.heap.size w12.heap.size xA0 xB0 xG0 yA0 yB0 yG0 xc0 xd0 xg0 yc0 yd0 yg0 q0 w12 (by omega) (by omega) (by omega) (Nat.le_refl _) (Nat.le_refl _) (Ox0.out).rd (Oy0.out).rd).mono ?_
  rintro e w13 ⟨rfl, hbel⟩
  have hsw13 : w12.heap.size ≤ w13.heap.size := hbel.size
  have HB := Lib.hid (HB.out.trans (hbel.mono (by omega)))
  have Ca0_0 := Lib.hid ((hbel.cell (p := ⟨w.heap.size, 0, none⟩) (by simp only []; omega)).trans Ca0_0.out)
  have Ca0_1 := Lib.hid ((hbel.cell (p := ⟨w.heap.size, 1, none⟩) (by simp only []; omega)).trans Ca0_1.out)
  have Ca0_2 := Lib.hid ((hbel.cell (p := ⟨w.heap.size, 2, none⟩) (by simp only []; omega)).trans Ca0_2.out)
  have Ca0_3 := Lib.hid ((hbel.cell (p := ⟨w.heap.size, 3, none⟩) (by simp only []; omega)).trans Ca0_3.out)
  have Cx0_0 := Lib.hid ((hbel.cell (p := ⟨w6.heap.size, 0, none⟩) (by simp only []; omega)).trans Cx0_0.out)
  have Cx0_1 := Lib.hid ((hbel.cell (p := ⟨w6.heap.size, 1, none⟩) (by simp only []; omega)).trans Cx0_1.out)
  have Cx0_2 := Lib.hid ((hbel.cell (p := ⟨w6.heap.size, 2, none⟩) (by simp only []; omega)).trans Cx0_2.out)
  have Cx0_3 := Lib.hid ((hbel.cell (p := ⟨w6.heap.size, 3, none⟩) (by simp only []; omega)).trans Cx0_3.out)
  have Ow0 := Lib.hid (show OwI w13 w4.heap.size (.slice wA0 U0.length wc0) U0 from OwI.below Ow0.out hbel)
  have Ox0 := Lib.hid (show OwC w13 w5.heap.size xA0 xB0 xG0 xc0 xd0 xg0 q0 from OwC.below Ox0.out hbel)
  have Ox2 := Lib.hid (show OwI w13 w7.heap.size (.slice xA2 l2.length xc2) l2 from OwI.below Ox2.out hbel)
  have Og0 := Lib.hid (show OwI w13 w8.heap.size (.slice gA0 U0.length gc0) U0 from OwI.below Og0.out hbel)
  have Oy0 := Lib.hid (show OwC w13 w11.heap.size yA0 yB0 yG0 yc0 yd0 yg0 q0 from OwC.below Oy0.out hbel)
  clear hbel
  (go_simp; refine hK _ _ ?_; clear hK K)
  (repeat (first | (refine T_lp rfl (fun K hK => ?_); go_simp; refine hK _ ?_; clear hK K) | (refine T_ls rfl rfl (fun K hK => ?_); go_simp; refine hK _ ?_; clear hK K)))
  refine T_done ?_
  go_wp2_with fail
  go_at_call 27
  refine (toIntS_any w.heap.size A2 c2 l2 w13 hl2 (by omega) (H2.out.below HB.out)).mono ?_
  rintro e w14 ⟨yA2, yc2, rfl, hown, hbel⟩
  have Oy2' := Lib.hid hown
  clear hown
  have hsw14 : w13.heap.size ≤ w14.heap.size := hbel.size
  have HB := Lib.hid (HB.out.trans (hbel.mono (by omega)))
  have Ca0_0 := Lib.hid ((hbel.cell (p := ⟨w.heap.size, 0, none⟩) (by simp only []; omega)).trans Ca0_0.out)
  have Ca0_1 := Lib.hid ((hbel.cell (p := ⟨w.heap.size, 1, none⟩) (by simp only []; omega)).trans Ca0_1.out)
  have Ca0_2 := Lib.hid ((hbel.cell (p := ⟨w.heap.size, 2, none⟩) (by simp only []; omega)).trans Ca0_2.out)
  have Ca0_3 := Lib.hid ((hbel.cell (p := ⟨w.heap.size, 3, none⟩) (by simp only []; omega)).trans Ca0_3.out)
  have Cx0_0 := Lib.hid ((hbel.cell (p := ⟨w6.heap.size, 0, none⟩) (by simp only []; omega)).trans Cx0_0.out)
  have Cx0_1 := Lib.hid ((hbel.cell (p := ⟨w6.heap.size, 1, none⟩) (by simp only []; omega)).trans Cx0_1.out)
  have Cx0_2 := Lib.hid ((hbel.cell (p := ⟨w6.heap.size, 2, none⟩) (by simp only []; omega)).trans Cx0_2.out)
  have Cx0_3 := Lib.hid ((hbel.cell (p := ⟨w6.heap.size, 3, none⟩) (by simp only []; omega)).trans Cx0_3.out)
  have Ow0 := Lib.hid (show OwI w14 w4.heap.size (.slice wA0 U0.length wc0) U0 from OwI.below Ow0.out hbel)
  have Ox0 := Lib.hid (show OwC w14 w5.heap.size xA0 xB0 xG0 xc0 xd0 xg0 q0 from OwC.below Ox0.out hbel)
  have Ox2 := Lib.hid (show OwI w14 w7.heap.size (.slice xA2 l2.length xc2) l2 from OwI.below Ox2.out hbel)
  have Og0 := Lib.hid (show OwI w14 w8.heap.size (.slice gA0 U0.length gc0) U0 from OwI.below Og0.out hbel)
  clear hbel
  have Oy2 := Lib.hid (show OwI w14 w13.heap.size (.slice yA2 l2.length yc2) l2 from Oy2'.out)
  have Uy2 := Lib.hid (show ∀ k, (Value.slice yA2 l2.length yc2).ownBlock = some k → k < w14.heap.size from fun k hk => (own_block Oy2.out k hk).2)
  clear Oy2'
  go_wp2_with fail
  go_at_call 29
  have hE := eqIntS_any w14.heap.size w14.heap.size xA2 yA2 xc2 yc2 l2 l2 w14 (by omega) (by omega) (Ox2.out).rd (Oy2.out).rd
  rw [eqI_refl] at hE
  refine hE.mono ?_
  rintro e w15 ⟨rfl, hdr⟩
  clear hE
  have hbel := hdr.below w14.heap.size
  clear hdr
  have hsw15 : w14.heap.size ≤ w15.heap.size := hbel.size
  have HB := Lib.hid (HB.out.trans (hbel.mono (by omega)))
  have Ca0_0 := Lib.hid ((hbel.cell (p := ⟨w.heap.size, 0, none⟩) (by simp only []; omega)).trans Ca0_0.out)
  have Ca0_1 := Lib.hid ((hbel.cell (p := ⟨w.heap.size, 1, none⟩) (by simp only []; omega)).trans Ca0_1.out)
  have Ca0_2 := Lib.hid ((hbel.cell (p := ⟨w.heap.size, 2, none⟩) (by simp only []; omega)).trans Ca0_2.out)
  have Ca0_3 := Lib.hid ((hbel.cell (p := ⟨w.heap.size, 3, none⟩) (by simp only []; omega)).trans Ca0_3.out)
  have Cx0_0 := Lib.hid ((hbel.cell (p := ⟨w6.heap.size, 0, none⟩) (by simp only []; omega)).trans Cx0_0.out)
  have Cx0_1 := Lib.hid ((hbel.cell (p := ⟨w6.heap.size, 1, none⟩) (by simp only []; omega)).trans Cx0_1.out)
  have Cx0_2 := Lib.hid ((hbel.cell (p := ⟨w6.heap.size, 2, none⟩) (by simp only []; omega)).trans Cx0_2.out)
  have Cx0_3 := Lib.hid ((hbel.cell (p := ⟨w6.heap.size, 3, none⟩) (by simp only []; omega)).trans Cx0_3.out)
  have Ow0 := Lib.hid (show OwI w15 w4.heap.size (.slice wA0 U0.length wc0) U0 from OwI.below Ow0.out hbel)
  have Ox0 := Lib.hid (show OwC w15 w5.heap.size xA0 xB0 xG0 xc0 xd0 xg0 q0 from OwC.below Ox0.out hbel)
  have Ox2 := Lib.hid (show OwI w15 w7.heap.size (.slice xA2 l2.length xc2) l2 from OwI.below Ox2.out hbel)
  have Og0 := Lib.hid (show OwI w15 w8.heap.size (.slice gA0 U0.length gc0) U0 from OwI.below Og0.out hbel)
  have Oy2 := Lib.hid (show OwI w15 w13.heap.size (.slice yA2 l2.length yc2) l2 from OwI.below Oy2.out hbel)
  clear hbel
  have v13 := Cx0_0.out
  have v14 := Cx0_1.out
  have v15 := Cx0_2.out
  have v16 := Cx0_3.out
  go_wp2_with fail
  go_at_call 23
  clear v13 v14 v15 v16
  have hwm := markRegCode_any (w5.heap.size) w6.heap.size xA0 xB0 xG0 xc0 xd0 xg0 q0 (1) w15 (by omega) (by omega) (by omega) (by omega) (by omega) (by omega) (by omega) Ox0.out Ux0.out.1 Ux0.out.2.1 Ux0.out.2.2
  refine hwm.mono ?_
  rintro e w16 ⟨rfl, hm1, hm2, hm3, hwn⟩
  clear hwm
  have Mx0 := Lib.hid (And.intro hm1 (And.intro hm2 hm3))
  clear hm1 hm2 hm3
  have hsw16 : w15.heap.size ≤ w16.heap.size := hwn.1.size
  have HB := Lib.hid (HB.out.trans (hwn.1.mono (by omega)))
  have Ca0_0 := Lib.hid ((hwn.1.cell (p := ⟨w.heap.size, 0, none⟩) (by simp only []; omega)).trans Ca0_0.out)
  have Ca0_1 := Lib.hid ((hwn.1.cell (p := ⟨w.heap.size, 1, none⟩) (by simp only []; omega)).trans Ca0_1.out)
  have Ca0_2 := Lib.hid ((hwn.1.cell (p := ⟨w.heap.size, 2, none⟩) (by simp only []; omega)).trans Ca0_2.out)
  have Ca0_3 := Lib.hid ((hwn.1.cell (p := ⟨w.heap.size, 3, none⟩) (by simp only []; omega)).trans Ca0_3.out)
  have Cx0_0 := Lib.hid ((World.cell?_of_block (a := ⟨w6.heap.size, 0, none⟩) (hwn.2 (w6.heap.size) (by omega) (by omega))).trans Cx0_0.out)
  have Cx0_1 := Lib.hid ((World.cell?_of_block (a := ⟨w6.heap.size, 1, none⟩) (hwn.2 (w6.heap.size) (by omega) (by omega))).trans Cx0_1.out)
  have Cx0_2 := Lib.hid ((World.cell?_of_block (a := ⟨w6.heap.size, 2, none⟩) (hwn.2 (w6.heap.size) (by omega) (by omega))).trans Cx0_2.out)
  have Cx0_3 := Lib.hid ((World.cell?_of_block (a := ⟨w6.heap.size, 3, none⟩) (hwn.2 (w6.heap.size) (by omega) (by omega))).trans Cx0_3.out)
  have Ow0 := Lib.hid (show OwI w16 w4.heap.size (.slice wA0 U0.length wc0) U0 from own_win_lo Ow0.out hwn (fun k hk => Nat.lt_of_lt_of_le (Uw0.out k hk) (by omega)))
  have Ox2 := Lib.hid (show OwI w16 w7.heap.size (.slice xA2 l2.length xc2) l2 from Win.own hwn Ox2.out (by omega))
  have Og0 := Lib.hid (show OwI w16 w8.heap.size (.slice gA0 U0.length gc0) U0 from Win.own hwn Og0.out (by omega))
  clear hwn
  have hkk1 : ¬ (1 + (q0.i.length : Int) + 3 * (q0.ops.length : Int) + (q0.o.length : Int) < 0) := by omega
  go_wp2_with fail
  go_at_call 30
  refine (markIntS_any (w7.heap.size) xA2 xc2 l2 (1 + (q0.i.length : Int) + 3 * (q0.ops.length : Int) + (q0.o.length : Int)) w16 (by omega) (by omega) (by omega) Ox2.out).mono ?_
  rintro e w17 ⟨rfl, hmk, hg⟩
  have hwn : Win w7.heap.size w8.heap.size w16 w17 := Win.of_grown hg (by omega) (fun k hk => ⟨(own_block Ox2.out k hk).1, Ux2.out k hk⟩)
  clear hg
  have Mx2 := Lib.hid hmk
  clear hmk
  have hsw17 : w16.heap.size ≤ w17.heap.size := hwn.1.size
  have HB := Lib.hid (HB.out.trans (hwn.1.mono (by omega)))
  have Ca0_0 := Lib.hid ((hwn.1.cell (p := ⟨w.heap.size, 0, none⟩) (by simp only []; omega)).trans Ca0_0.out)
  have Ca0_1 := Lib.hid ((hwn.1.cell (p := ⟨w.heap.size, 1, none⟩) (by simp only []; omega)).trans Ca0_1.out)
  have Ca0_2 := Lib.hid ((hwn.1.cell (p := ⟨w.heap.size, 2, none⟩) (by simp only []; omega)).trans Ca0_2.out)
  have Ca0_3 := Lib.hid ((hwn.1.cell (p := ⟨w.heap.size, 3, none⟩) (by simp only []; omega)).trans Ca0_3.out)
  have Cx0_0 := Lib.hid ((hwn.1.cell (p := ⟨w6.heap.size, 0, none⟩) (by simp only []; omega)).trans Cx0_0.out)
  have Cx0_1 := Lib.hid ((hwn.1.cell (p := ⟨w6.heap.size, 1, none⟩) (by simp only []; omega)).trans Cx0_1.out)
  have Cx0_2 := Lib.hid ((hwn.1.cell (p := ⟨w6.heap.size, 2, none⟩) (by simp only []; omega)).trans Cx0_2.out)
  have Cx0_3 := Lib.hid ((hwn.1.cell (p := ⟨w6.heap.size, 3, none⟩) (by simp only []; omega)).trans Cx0_3.out)
  have Ow0 := Lib.hid (show OwI w17 w4.heap.size (.slice wA0 U0.length wc0) U0 from own_win_lo Ow0.out hwn (fun k hk => Nat.lt_of_lt_of_le (Uw0.out k hk) (by omega)))
  have Og0 := Lib.hid (show OwI w17 w8.heap.size (.slice gA0 U0.length gc0) U0 from Win.own hwn Og0.out (by omega))
  clear hwn
  have hkk2 : ¬ (1 + (q0.i.length : Int) + 3 * (q0.ops.length : Int) + (q0.o.length : Int) + (l2.length : Int) < 0) := by omega
  go_wp2_with fail
  go_at_call 29
  have hE := eqIntS_any w17.heap.size w17.heap.size gA0 wA0 gc0 wc0 U0 U0 w17 (by omega) (by omega) (Og0.out).rd (Ow0.out).rd
  rw [eqI_refl] at hE
  refine hE.mono ?_
  rintro e w18 ⟨rfl, hdr⟩
  clear hE
  have hbel := hdr.below w17.heap.size
  clear hdr
  have hsw18 : w17.heap.size ≤ w18.heap.size := hbel.size
  have HB := Lib.hid (HB.out.trans (hbel.mono (by omega)))
  have Ca0_0 := Lib.hid ((hbel.cell (p := ⟨w.heap.size, 0, none⟩) (by simp only []; omega)).trans Ca0_0.out)
  have Ca0_1 := Lib.hid ((hbel.cell (p := ⟨w.heap.size, 1, none⟩) (by simp only []; omega)).trans Ca0_1.out)
  have Ca0_2 := Lib.hid ((hbel.cell (p := ⟨w.heap.size, 2, none⟩) (by simp only []; omega)).trans Ca0_2.out)
  have Ca0_3 := Lib.hid ((hbel.cell (p := ⟨w.heap.size, 3, none⟩) (by simp only []; omega)).trans Ca0_3.out)
  have Ow0 := Lib.hid (show OwI w18 w4.heap.size (.slice wA0 U0.length wc0) U0 from OwI.below Ow0.out hbel)
  have Og0 := Lib.hid (show OwI w18 w8.heap.size (.slice gA0 U0.length gc0) U0 from OwI.below Og0.out hbel)
  clear hbel
  go_wp2_with fail
  go_at_call 30
  refine (markIntS_any (w8.heap.size) gA0 gc0 U0 (1) w18 (by omega) (by omega) (by omega) Og0.out).mono ?_
  rintro e w19 ⟨rfl, hmk, hg⟩
  have hwn : Win w8.heap.size w9.heap.size w18 w19 := Win.of_grown hg (by omega) (fun k hk => ⟨(own_block Og0.out k hk).1, Ug0.out k hk⟩)
  clear hg
  have Mg0 := Lib.hid hmk
  clear hmk
  have hsw19 : w18.heap.size ≤ w19.heap.size := hwn.1.size
  have HB := Lib.hid (HB.out.trans (hwn.1.mono (by omega)))
  have Ca0_0 := Lib.hid ((hwn.1.cell (p := ⟨w.heap.size, 0, none⟩) (by simp only []; omega)).trans Ca0_0.out)
  have Ca0_1 := Lib.hid ((hwn.1.cell (p := ⟨w.heap.size, 1, none⟩) (by simp only []; omega)).trans Ca0_1.out)
  have Ca0_2 := Lib.hid ((hwn.1.cell (p := ⟨w.heap.size, 2, none⟩) (by simp only []; omega)).trans Ca0_2.out)
  have Ca0_3 := Lib.hid ((hwn.1.cell (p := ⟨w.heap.size, 3, none⟩) (by simp only []; omega)).trans Ca0_3.out)
  have Ow0 := Lib.hid (show OwI w19 w4.heap.size (.slice wA0 U0.length wc0) U0 from own_win_lo Ow0.out hwn (fun k hk => Nat.lt_of_lt_of_le (Uw0.out k hk) (by omega)))
  clear hwn
  have hkm1 : ¬ (1 + (U0.length : Int) < 0) := by omega
  have HM := Lib.hid (own_rd_marks Mg0.out)
  have HBM := Lib.hid (Below.refl w19.heap.size w19)
  go_wp2_with fail
  go_at_call 31
  refine (heldIntS_any w19.heap.size gA0 gc0 U0.length 1 w19 (by omega) (by omega) (by omega) (HM.out.below HBM.out)).mono ?_
  rintro e w900 ⟨rfl, rfl⟩
  have v17 := Ca0_0.out
  have v18 := Ca0_1.out
  have v19 := Ca0_2.out
  have v20 := Ca0_3.out
  go_wp2_with fail
  go_at_call 17
  clear v17 v18 v19 v20
  refine (toRegCode_any w.heap.size A0 B0 G0 c0 d0 g0 q0 w19 hli0 hlp0 hlo0 (by omega) (H0.out.below HB.out)).mono ?_
  rintro e w20 ⟨zA0, zB0, zG0, zc0, zd0, zg0, rfl, hown, hbel⟩
  have Oz0' := Lib.hid hown
  clear hown
  have hsw20 : w19.heap.size ≤ w20.heap.size := hbel.size
  have HB := Lib.hid (HB.out.trans (hbel.mono (by omega)))
  have Ca0_0 := Lib.hid ((hbel.cell (p := ⟨w.heap.size, 0, none⟩) (by simp only []; omega)).trans Ca0_0.out)
  have Ca0_1 := Lib.hid ((hbel.cell (p := ⟨w.heap.size, 1, none⟩) (by simp only []; omega)).trans Ca0_1.out)
  have Ca0_2 := Lib.hid ((hbel.cell (p := ⟨w.heap.size, 2, none⟩) (by simp only []; omega)).trans Ca0_2.out)
  have Ca0_3 := Lib.hid ((hbel.cell (p := ⟨w.heap.size, 3, none⟩) (by simp only []; omega)).trans Ca0_3.out)
  have Ow0 := Lib.hid (show OwI w20 w4.heap.size (.slice wA0 U0.length wc0) U0 from OwI.below Ow0.out hbel)
  have HBM := Lib.hid (HBM.out.trans (hbel.mono (by omega)))
  clear hbel
  have Oz0 := Lib.hid (show OwC w20 w19.heap.size zA0 zB0 zG0 zc0 zd0 zg0 q0 from Oz0'.out)
  have Uz0 := Lib.hid (show (∀ k, (Value.slice zA0 q0.i.length zc0).ownBlock = some k → k < w20.heap.size) ∧ (∀ k, (Value.slice zB0 q0.ops.length zd0).ownBlock = some k → k < w20.heap.size) ∧ (∀ k, (Value.slice zG0 q0.o.length zg0).ownBlock = some k → k < w20.heap.size) from ⟨fun k hk => (own_block (Oz0.out).1 k hk).2, fun k hk => (own_block (Oz0.out).2.1 k hk).2, fun k hk => (own_block (Oz0.out).2.2.1 k hk).2⟩)
  clear Oz0'
  go_wp2_with fail
  go_at_call 27
  refine (toIntS_any w.heap.size A2 c2 l2 w20 hl2 (by omega) (H2.out.below HB.out)).mono ?_
  rintro e w21 ⟨zA2, zc2, rfl, hown, hbel⟩
  have Oz2' := Lib.hid hown
  clear hown
  have hsw21 : w20.heap.size ≤ w21.heap.size := hbel.size
  have HB := Lib.hid (HB.out.trans (hbel.mono (by omega)))
  have Ca0_0 := Lib.hid ((hbel.cell (p := ⟨w.heap.size, 0, none⟩) (by simp only []; omega)).trans Ca0_0.out)
  have Ca0_1 := Lib.hid ((hbel.cell (p := ⟨w.heap.size, 1, none⟩) (by simp only []; omega)).trans Ca0_1.out)
  have Ca0_2 := Lib.hid ((hbel.cell (p := ⟨w.heap.size, 2, none⟩) (by simp only []; omega)).trans Ca0_2.out)
  have Ca0_3 := Lib.hid ((hbel.cell (p := ⟨w.heap.size, 3, none⟩) (by simp only []; omega)).trans Ca0_3.out)
  have Ow0 := Lib.hid (show OwI w21 w4.heap.size (.slice wA0 U0.length wc0) U0 from OwI.below Ow0.out hbel)
  have Oz0 := Lib.hid (show OwC w21 w19.heap.size zA0 zB0 zG0 zc0 zd0 zg0 q0 from OwC.below Oz0.out hbel)
  have HBM := Lib.hid (HBM.out.trans (hbel.mono (by omega)))
  clear hbel
  have Oz2 := Lib.hid (show OwI w21 w20.heap.size (.slice zA2 l2.length zc2) l2 from Oz2'.out)
  have Uz2 := Lib.hid (show ∀ k, (Value.slice zA2 l2.length zc2).ownBlock = some k → k < w21.heap.size from fun k hk => (own_block Oz2.out k hk).2)
  clear Oz2'
  go_wp2_with fail
  go_at_call 28
  refine (HIMPL.out w21 zA0 zB0 zG0 zc0 zd0 zg0 zA2 zc2 (Oz0.out).cap (Oz2.out).cap (Oz0.out).rd (Oz2.out).rd).mono ?_
  rintro e w22 ⟨hA0, hc0, rfl, hown0, hbel⟩
  have Oh0' := Lib.hid hown0
  clear hown0
  have hsw22 : w21.heap.size ≤ w22.heap.size := hbel.size
  have HB := Lib.hid (HB.out.trans (hbel.mono (by omega)))
  have Ca0_0 := Lib.hid ((hbel.cell (p := ⟨w.heap.size, 0, none⟩) (by simp only []; omega)).trans Ca0_0.out)
  have Ca0_1 := Lib.hid ((hbel.cell (p := ⟨w.heap.size, 1, none⟩) (by simp only []; omega)).trans Ca0_1.out)
  have Ca0_2 := Lib.hid ((hbel.cell (p := ⟨w.heap.size, 2, none⟩) (by simp only []; omega)).trans Ca0_2.out)
  have Ca0_3 := Lib.hid ((hbel.cell (p := ⟨w.heap.size, 3, none⟩) (by simp only []; omega)).trans Ca0_3.out)
  have Ow0 := Lib.hid (show OwI w22 w4.heap.size (.slice wA0 U0.length wc0) U0 from OwI.below Ow0.out hbel)
  have Oz0 := Lib.hid (show OwC w22 w19.heap.size zA0 zB0 zG0 zc0 zd0 zg0 q0 from OwC.below Oz0.out hbel)
  have Oz2 := Lib.hid (show OwI w22 w20.heap.size (.slice zA2 l2.length zc2) l2 from OwI.below Oz2.out hbel)
  have HBM := Lib.hid (HBM.out.trans (hbel.mono (by omega)))
  clear hbel
  have Oh0 := Lib.hid (show OwI w22 w21.heap.size (.slice hA0 U0.length hc0) U0 from Oh0'.out)
  have Uh0 := Lib.hid (show ∀ k, (Value.slice hA0 U0.length hc0).ownBlock = some k → k < w22.heap.size from fun k hk => (own_block Oh0.out k hk).2)
  clear Oh0'
  go_wp2_with fail
  go_at_call 29
  have hE := eqIntS_any w22.heap.size w22.heap.size hA0 wA0 hc0 wc0 U0 U0 w22 (by omega) (by omega) (Oh0.out).rd (Ow0.out).rd
  rw [eqI_refl] at hE
  refine hE.mono ?_
  rintro e w23 ⟨rfl, hdr⟩
  clear hE
  have hbel := hdr.below w22.heap.size
  clear hdr
  have hsw23 : w22.heap.size ≤ w23.heap.size := hbel.size
  have HB := Lib.hid (HB.out.trans (hbel.mono (by omega)))
  have Ca0_0 := Lib.hid ((hbel.cell (p := ⟨w.heap.size, 0, none⟩) (by simp only []; omega)).trans Ca0_0.out)
  have Ca0_1 := Lib.hid ((hbel.cell (p := ⟨w.heap.size, 1, none⟩) (by simp only []; omega)).trans Ca0_1.out)
  have Ca0_2 := Lib.hid ((hbel.cell (p := ⟨w.heap.size, 2, none⟩) (by simp only []; omega)).trans Ca0_2.out)
  have Ca0_3 := Lib.hid ((hbel.cell (p := ⟨w.heap.size, 3, none⟩) (by simp only []; omega)).trans Ca0_3.out)
  have Ow0 := Lib.hid (show OwI w23 w4.heap.size (.slice wA0 U0.length wc0) U0 from OwI.below Ow0.out hbel)
  have Oz0 := Lib.hid (show OwC w23 w19.heap.size zA0 zB0 zG0 zc0 zd0 zg0 q0 from OwC.below Oz0.out hbel)
  have Oz2 := Lib.hid (show OwI w23 w20.heap.size (.slice zA2 l2.length zc2) l2 from OwI.below Oz2.out hbel)
  have Oh0 := Lib.hid (show OwI w23 w21.heap.size (.slice hA0 U0.length hc0) U0 from OwI.below Oh0.out hbel)
  have HBM := Lib.hid (HBM.out.trans (hbel.mono (by omega)))
  clear hbel
  go_wp2_with fail
  go_at_call 31
  refine (heldIntS_any w19.heap.size gA0 gc0 U0.length 1 w23 (by omega) (by omega) (by omega) (HM.out.below HBM.out)).mono ?_
  rintro e w900 ⟨rfl, rfl⟩
  go_wp2
  go_ret
  exact ⟨rfl, HB.out⟩

set_option maxRecDepth 100000 in
theorem runRegCode_lifted (os : Os) (started : os.Started) (H : Type) (enc : TypeId × Value → H) :
    ReturnsInHanded {} Try.checked os 5 .any (Rows.fnExactRunRegCodeSpec.pre6 enc Try.prog Try.f5 Rows.fnExactRunRegCodeRow.domain false) (Rows.fnExactRunRegCodeSpec.post enc Try.prog Try.f5 false true false false) := by
  refine returnsInHanded_of_change (C := Try.checked) own started (by kernel_rfl) Try.func5
    (ChangeSpec.witness6 (enc := enc) (C := Try.checked) false ⟨#[], #[.agg #[.int .i64 0, .slice none 0 0, .slice none 0 0, .slice none 0 0], .int .i64 0, .slice none 0 0], []⟩ 8 (by kernel_rfl) (by kernel_rfl) (by kernel_rfl) (by kernel_rfl)) ?_
  intro W base args ds gs before hval0 hW _ _
  have hval : ∀ (j : Nat) t v, Try.f5.params[j]? = some t → args[j]? = some v → Value.okWide Try.prog W .any base t v := hval0
  have hW' := hW
  obtain ⟨p, q, hA0, hV, rfl, hfz, hnd⟩ := hW
  have hA : DataW.TrodAll enc Try.prog W 0 (fun _ => true) true Try.f5.params.toList args.toList ds p := hA0
  rw [Try.params5] at hA hval
  obtain ⟨v0, v1, v2, d0, d1, d2, pp0, pp1, pp2, rfl, rfl, hps, h0, h1, h2⟩ := trodAll_three hA
  rw [List.append_assoc] at hps
  subst hps
  obtain ⟨rfl, rfl⟩ := trodVars_none hV
  have h0k := h0
  have h1k := h1
  have h2k := h2
  obtain ⟨A0, B0, G0, c0, d0', g0, q0, hx0, ln0, lo0, lp0, hrd0⟩ := open_code (hval 0 25 v0 rfl rfl) h0
  obtain ⟨x1, hx1, _, _, _⟩ := open_int Try.underlying3 (hval 1 3 v1 rfl rfl) h1
  obtain ⟨A2, c2, l2, hx2, ln2, hrd2⟩ := open_list (hval 2 22 v2 rfl rfl) h2
  subst hx0
  subst hx1
  subst hx2
  clear hA0 hval0
  simp only [List.append_nil] at hW'
  refine (lawRunRegCode A0 B0 G0 c0 d0' g0 q0 x1 A2 c2 l2 W ln0 lo0 lp0 hrd0 ln2 hrd2).mono fun e W' ⟨he, hb⟩ => ?_
  subst he
  have hlt : ∀ x ∈ pp0 ++ (pp1 ++ pp2), x.block < W.heap.size := fun x hx => by simpa using hW'.lt x hx
  refine ⟨_, rfl, _, _, _, [], pp0 ++ (pp1 ++ pp2), [], hW', trodAll_mk1 (shut_bool Try.underlying4 _), ?_, rfl, hb.frame _, fun h => by cases h⟩
  exact trodAll_mk3 (Below.trod laidOut (by kernel_rfl) (of_decide_eq_true (by kernel_rfl)) h0k hb fun x hx => hlt x (List.mem_append_left _ hx)) (Below.trod laidOut (by kernel_rfl) (of_decide_eq_true (by kernel_rfl)) h1k hb fun x hx => hlt x (List.mem_append_right _ (List.mem_append_left _ hx))) (Below.trod laidOut (by kernel_rfl) (of_decide_eq_true (by kernel_rfl)) h2k hb fun x hx => hlt x (List.mem_append_right _ (List.mem_append_right _ hx)))

theorem runRegCode_holds : Rows.FnExactRunRegCodeSaid :=
  OpenClaim.holds_of_wide 5 Try.f5 rfl rfl rfl rfl rfl rfl rfl ⟨rfl, rfl, rfl, rfl, rfl⟩ rfl rfl rfl rfl rfl (by kernel_rfl) Try.func5 (by kernel_rfl)
    (of_decide_eq_true (by kernel_rfl)) (by unfold Func.isWrapper; rw [if_neg (of_decide_eq_false (by kernel_rfl))]; exact ⟨rfl, rfl⟩)
    (fun os started H enc _ => runRegCode_lifted os started H enc)
end Go.Proofs.Ytbbjgcagkmlngaa
