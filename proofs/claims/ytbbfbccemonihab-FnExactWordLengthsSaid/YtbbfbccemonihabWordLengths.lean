/- The law FnExactWordLengths holds: for every argument, valid or not, WordLengths of the program answers as WordLengths of the model, writes into no argument, and its answer owns its memory. No condition. -/
import Derived.Test.YtbbfbccemonihabGa6
import Derived.Test.YtbbfbccemonihabOp
import Derived.Test.YtbbfbccemonihabMpd
namespace Go.Proofs.Ytbbfbccemonihab
open Go.ChangeShapes Go.WideShapes Go.ChangeAt Go.RowKit Go.Deep Go.Joins

set_option maxRecDepth 100000 in
set_option maxHeartbeats 8000000 in
theorem lawWordLengths (A0 : Option Addr) (B0 : Option Addr) (c0 : Nat) (d0 : Nat) (p0 : Pl) (A1 : Option Addr) (c1 : Nat) (l1 : List Int) (w : World) (hn0 : p0.s.length ≤ 9223372036854775807) (hm0 : p0.o.length ≤ 9223372036854775807) (hr0 : RdP w w.heap.size A0 B0 p0) (hn1 : l1.length ≤ 9223372036854775807) (hr1 : Rd w w.heap.size 1 A1 l1.length (l1.map I)) :
    Calls Try.prog 4 #[.agg #[.int .i64 p0.n, .slice A0 p0.s.length c0, .slice B0 p0.o.length d0], .slice A1 l1.length c1] w fun e w' => e = .returned (.bool true) ∧ Below w.heap.size w w' := by
  have H0 := Lib.hid hr0
  clear hr0
  have H1 := Lib.hid hr1
  clear hr1
  by_cases hbig1 : 1048576 < l1.length
  · have ibig : (1048576 : Int) < (l1.length : Int) := by omega
    go_enter Try.func4, Try.ntmps4
    go_wp2
    go_ret
    exact ⟨rfl, (Below.refl _ _).alloc (Nat.le_refl _) _⟩
  have hl1 : l1.length ≤ 1048576 := by omega
  have il1 : ¬ (1048576 : Int) < (l1.length : Int) := by omega
  clear hbig1
  obtain ⟨sz0, hsz0⟩ : ∃ qx, szPl p0 1048576 = qx := ⟨_, rfl⟩
  have hsc0 := fun W => szPlan_any A0 B0 c0 d0 p0 1048576 W (by omega) (by omega) hn0 hm0
  rw [hsz0] at hsc0
  have SZ0 := Lib.hid hsc0
  have SX0 := Lib.hid hsz0
  clear hsz0 hsc0
  go_enter Try.func4, Try.ntmps4
  go_wp2_with fail
  go_at_call 15
  generalize hww1 : World.alloc w _ = w1
  obtain ⟨x0', x1', x2', hxw1, hbx⟩ := bx3 hww1
  clear hww1
  have hxP := hxw1
  have hsw1 : w.heap.size ≤ w1.heap.size := hbx.size
  have HB := Lib.hid hbx
  clear hbx
  have Ca0_0 := Lib.hid x0'
  have Ca0_1 := Lib.hid x1'
  have Ca0_2 := Lib.hid x2'
  clear x0' x1' x2'
  refine (SZ0.out _).mono ?_
  rintro e w2 ⟨rfl, hbel⟩
  have hsw2 : w1.heap.size ≤ w2.heap.size := hbel.size
  have HB := Lib.hid (HB.out.trans (hbel.mono (by omega)))
  have Ca0_0 := Lib.hid ((hbel.cell (p := ⟨w.heap.size, 0, none⟩) (by simp only []; omega)).trans Ca0_0.out)
  have Ca0_1 := Lib.hid ((hbel.cell (p := ⟨w.heap.size, 1, none⟩) (by simp only []; omega)).trans Ca0_1.out)
  have Ca0_2 := Lib.hid ((hbel.cell (p := ⟨w.heap.size, 2, none⟩) (by simp only []; omega)).trans Ca0_2.out)
  clear hbel
  by_cases hneg : sz0 < 0
  · go_wp2
    go_ret
    exact ⟨rfl, HB.out⟩
  obtain ⟨hl0, ho0⟩ := szPl_ok (p := p0) (by rw [SX0.out]; exact hneg)
  obtain ⟨U0, hU0⟩ : ∃ gx, runV hasW addW p0 l1 = gx := ⟨_, rfl⟩
  have hUl0 : U0.length ≤ 1000 := by rw [← hU0]; exact wl_len p0 l1
  obtain ⟨U1, hU1⟩ : ∃ gx, runB hasW addW p0 l1 = gx := ⟨_, rfl⟩
  have hspec := fun (W : World) A0' B0' c0' d0' A1' c1' => specWL_any (World.heap W).size A0' B0' c0' d0' p0 A1' c1' l1 W (Nat.le_refl _) hl0 ho0 hl1
  have himpl := fun (W : World) A0' B0' c0' d0' A1' c1' => implWL_any (World.heap W).size A0' B0' c0' d0' p0 A1' c1' l1 W (Nat.le_refl _) hl0 ho0 hl1
  rw [hU0, hU1] at hspec himpl
  have HSPEC := Lib.hid hspec
  have HIMPL := Lib.hid himpl
  clear hU0 hU1 hspec himpl
  have v1 := Ca0_0.out
  have v2 := Ca0_1.out
  have v3 := Ca0_2.out
  go_wp2_with fail
  go_at_call 18
  clear v1 v2 v3
  refine (toPlan_any w.heap.size A0 B0 c0 d0 p0 w2 hl0 ho0 (by omega) (H0.out.below HB.out)).mono ?_
  rintro e w3 ⟨sA0, sB0, sc0, sd0, rfl, hown, hbel⟩
  have Os0' := Lib.hid hown
  clear hown
  have hsw3 : w2.heap.size ≤ w3.heap.size := hbel.size
  have HB := Lib.hid (HB.out.trans (hbel.mono (by omega)))
  have Ca0_0 := Lib.hid ((hbel.cell (p := ⟨w.heap.size, 0, none⟩) (by simp only []; omega)).trans Ca0_0.out)
  have Ca0_1 := Lib.hid ((hbel.cell (p := ⟨w.heap.size, 1, none⟩) (by simp only []; omega)).trans Ca0_1.out)
  have Ca0_2 := Lib.hid ((hbel.cell (p := ⟨w.heap.size, 2, none⟩) (by simp only []; omega)).trans Ca0_2.out)
  clear hbel
  have Os0 := Lib.hid (show OwP w3 w2.heap.size sA0 sB0 sc0 sd0 p0 from Os0'.out)
  have Us0 := Lib.hid (show (∀ k, (Value.slice sA0 p0.s.length sc0).ownBlock = some k → k < w3.heap.size) ∧ (∀ k, (Value.slice sB0 p0.o.length sd0).ownBlock = some k → k < w3.heap.size) from ⟨fun k hk => (own_block (Os0.out).1 k hk).2, fun k hk => (own_block (Os0.out).2 k hk).2⟩)
  clear Os0'
  go_wp2_with fail
  go_at_call 27
  refine (toIntS_any w.heap.size A1 c1 l1 w3 hl1 (by omega) (H1.out.below HB.out)).mono ?_
  rintro e w4 ⟨sA1, sc1, rfl, hown, hbel⟩
  have Os1' := Lib.hid hown
  clear hown
  have hsw4 : w3.heap.size ≤ w4.heap.size := hbel.size
  have HB := Lib.hid (HB.out.trans (hbel.mono (by omega)))
  have Ca0_0 := Lib.hid ((hbel.cell (p := ⟨w.heap.size, 0, none⟩) (by simp only []; omega)).trans Ca0_0.out)
  have Ca0_1 := Lib.hid ((hbel.cell (p := ⟨w.heap.size, 1, none⟩) (by simp only []; omega)).trans Ca0_1.out)
  have Ca0_2 := Lib.hid ((hbel.cell (p := ⟨w.heap.size, 2, none⟩) (by simp only []; omega)).trans Ca0_2.out)
  have Os0 := Lib.hid (show OwP w4 w2.heap.size sA0 sB0 sc0 sd0 p0 from OwP.below Os0.out hbel)
  clear hbel
  have Os1 := Lib.hid (show OwI w4 w3.heap.size (.slice sA1 l1.length sc1) l1 from Os1'.out)
  have Us1 := Lib.hid (show ∀ k, (Value.slice sA1 l1.length sc1).ownBlock = some k → k < w4.heap.size from fun k hk => (own_block Os1.out k hk).2)
  clear Os1'
  go_wp2_with fail
  go_at_call 26
  refine (HSPEC.out w4 sA0 sB0 sc0 sd0 sA1 sc1 (Os1.out).cap (Os0.out).rd (Os1.out).rd).mono ?_
  rintro e w5 ⟨wA0, wc0, rfl, hown0, hbel⟩
  have Ow0' := Lib.hid hown0
  clear hown0
  have hsw5 : w4.heap.size ≤ w5.heap.size := hbel.size
  have HB := Lib.hid (HB.out.trans (hbel.mono (by omega)))
  have Ca0_0 := Lib.hid ((hbel.cell (p := ⟨w.heap.size, 0, none⟩) (by simp only []; omega)).trans Ca0_0.out)
  have Ca0_1 := Lib.hid ((hbel.cell (p := ⟨w.heap.size, 1, none⟩) (by simp only []; omega)).trans Ca0_1.out)
  have Ca0_2 := Lib.hid ((hbel.cell (p := ⟨w.heap.size, 2, none⟩) (by simp only []; omega)).trans Ca0_2.out)
  have Os0 := Lib.hid (show OwP w5 w2.heap.size sA0 sB0 sc0 sd0 p0 from OwP.below Os0.out hbel)
  have Os1 := Lib.hid (show OwI w5 w3.heap.size (.slice sA1 l1.length sc1) l1 from OwI.below Os1.out hbel)
  clear hbel
  have Ow0 := Lib.hid (show OwI w5 w4.heap.size (.slice wA0 U0.length wc0) U0 from Ow0'.out)
  have Uw0 := Lib.hid (show ∀ k, (Value.slice wA0 U0.length wc0).ownBlock = some k → k < w5.heap.size from fun k hk => (own_block Ow0.out k hk).2)
  clear Ow0'
  have v4 := Ca0_0.out
  have v5 := Ca0_1.out
  have v6 := Ca0_2.out
  go_wp2_with fail
  go_at_call 18
  clear v4 v5 v6
  refine (toPlan_any w.heap.size A0 B0 c0 d0 p0 w5 hl0 ho0 (by omega) (H0.out.below HB.out)).mono ?_
  rintro e w6 ⟨xA0, xB0, xc0, xd0, rfl, hown, hbel⟩
  have Ox0' := Lib.hid hown
  clear hown
  have hsw6 : w5.heap.size ≤ w6.heap.size := hbel.size
  have HB := Lib.hid (HB.out.trans (hbel.mono (by omega)))
  have Ca0_0 := Lib.hid ((hbel.cell (p := ⟨w.heap.size, 0, none⟩) (by simp only []; omega)).trans Ca0_0.out)
  have Ca0_1 := Lib.hid ((hbel.cell (p := ⟨w.heap.size, 1, none⟩) (by simp only []; omega)).trans Ca0_1.out)
  have Ca0_2 := Lib.hid ((hbel.cell (p := ⟨w.heap.size, 2, none⟩) (by simp only []; omega)).trans Ca0_2.out)
  have Ow0 := Lib.hid (show OwI w6 w4.heap.size (.slice wA0 U0.length wc0) U0 from OwI.below Ow0.out hbel)
  clear hbel
  have Ox0 := Lib.hid (show OwP w6 w5.heap.size xA0 xB0 xc0 xd0 p0 from Ox0'.out)
  have Ux0 := Lib.hid (show (∀ k, (Value.slice xA0 p0.s.length xc0).ownBlock = some k → k < w6.heap.size) ∧ (∀ k, (Value.slice xB0 p0.o.length xd0).ownBlock = some k → k < w6.heap.size) from ⟨fun k hk => (own_block (Ox0.out).1 k hk).2, fun k hk => (own_block (Ox0.out).2 k hk).2⟩)
  clear Ox0'
  go_wp2_with fail
  go_at_call 27
  generalize hww7 : World.alloc w6 _ = w7
  obtain ⟨x0', x1', x2', hxw7, hbx⟩ := bx3 hww7
  clear hww7
  have hxP := hxw7
  have hsw7 : w6.heap.size ≤ w7.heap.size := hbx.size
  have HB := Lib.hid (HB.out.trans (hbx.mono (by omega)))
  have Ca0_0 := Lib.hid ((hbx.cell (p := ⟨w.heap.size, 0, none⟩) (by simp only []; omega)).trans Ca0_0.out)
  have Ca0_1 := Lib.hid ((hbx.cell (p := ⟨w.heap.size, 1, none⟩) (by simp only []; omega)).trans Ca0_1.out)
  have Ca0_2 := Lib.hid ((hbx.cell (p := ⟨w.heap.size, 2, none⟩) (by simp only []; omega)).trans Ca0_2.out)
  have Ow0 := Lib.hid (show OwI w7 w4.heap.size (.slice wA0 U0.length wc0) U0 from OwI.below Ow0.out hbx)
  have Ox0 := Lib.hid (show OwP w7 w5.heap.size xA0 xB0 xc0 xd0 p0 from OwP.below Ox0.out hbx)
  clear hbx
  have Cx0_0 := Lib.hid x0'
  have Cx0_1 := Lib.hid x1'
  have Cx0_2 := Lib.hid x2'
  clear x0' x1' x2'
  refine (toIntS_any w.heap.size A1 c1 l1 w7 hl1 (by omega) (H1.out.below HB.out)).mono ?_
  rintro e w8 ⟨xA1, xc1, rfl, hown, hbel⟩
  have Ox1' := Lib.hid hown
  clear hown
  have hsw8 : w7.heap.size ≤ w8.heap.size := hbel.size
  have HB := Lib.hid (HB.out.trans (hbel.mono (by omega)))
  have Ca0_0 := Lib.hid ((hbel.cell (p := ⟨w.heap.size, 0, none⟩) (by simp only []; omega)).trans Ca0_0.out)
  have Ca0_1 := Lib.hid ((hbel.cell (p := ⟨w.heap.size, 1, none⟩) (by simp only []; omega)).trans Ca0_1.out)
  have Ca0_2 := Lib.hid ((hbel.cell (p := ⟨w.heap.size, 2, none⟩) (by simp only []; omega)).trans Ca0_2.out)
  have Cx0_0 := Lib.hid ((hbel.cell (p := ⟨w6.heap.size, 0, none⟩) (by simp only []; omega)).trans Cx0_0.out)
  have Cx0_1 := Lib.hid ((hbel.cell (p := ⟨w6.heap.size, 1, none⟩) (by simp only []; omega)).trans Cx0_1.out)
  have Cx0_2 := Lib.hid ((hbel.cell (p := ⟨w6.heap.size, 2, none⟩) (by simp only []; omega)).trans Cx0_2.out)
  have Ow0 := Lib.hid (show OwI w8 w4.heap.size (.slice wA0 U0.length wc0) U0 from OwI.below Ow0.out hbel)
  have Ox0 := Lib.hid (show OwP w8 w5.heap.size xA0 xB0 xc0 xd0 p0 from OwP.below Ox0.out hbel)
  clear hbel
  have Ox1 := Lib.hid (show OwI w8 w7.heap.size (.slice xA1 l1.length xc1) l1 from Ox1'.out)
  have Ux1 := Lib.hid (show ∀ k, (Value.slice xA1 l1.length xc1).ownBlock = some k → k < w8.heap.size from fun k hk => (own_block Ox1.out k hk).2)
  clear Ox1'
  have v7 := Cx0_0.out
  have v8 := Cx0_1.out
  have v9 := Cx0_2.out
  go_wp2_with fail
  go_at_call 28
  clear v7 v8 v9
  refine (HIMPL.out w8 xA0 xB0 xc0 xd0 xA1 xc1 (Ox1.out).cap (Ox0.out).rd (Ox1.out).rd).mono ?_
  rintro e w9 ⟨gA0, gc0, rfl, hown0, hbel⟩
  have Og0' := Lib.hid hown0
  clear hown0
  have hsw9 : w8.heap.size ≤ w9.heap.size := hbel.size
  have HB := Lib.hid (HB.out.trans (hbel.mono (by omega)))
  have Ca0_0 := Lib.hid ((hbel.cell (p := ⟨w.heap.size, 0, none⟩) (by simp only []; omega)).trans Ca0_0.out)
  have Ca0_1 := Lib.hid ((hbel.cell (p := ⟨w.heap.size, 1, none⟩) (by simp only []; omega)).trans Ca0_1.out)
  have Ca0_2 := Lib.hid ((hbel.cell (p := ⟨w.heap.size, 2, none⟩) (by simp only []; omega)).trans Ca0_2.out)
  have Cx0_0 := Lib.hid ((hbel.cell (p := ⟨w6.heap.size, 0, none⟩) (by simp only []; omega)).trans Cx0_0.out)
  have Cx0_1 := Lib.hid ((hbel.cell (p := ⟨w6.heap.size, 1, none⟩) (by simp only []; omega)).trans Cx0_1.out)
  have Cx0_2 := Lib.hid ((hbel.cell (p := ⟨w6.heap.size, 2, none⟩) (by simp only []; omega)).trans Cx0_2.out)
  have Ow0 := Lib.hid (show OwI w9 w4.heap.size (.slice wA0 U0.length wc0) U0 from OwI.below Ow0.out hbel)
  have Ox0 := Lib.hid (show OwP w9 w5.heap.size xA0 xB0 xc0 xd0 p0 from OwP.below Ox0.out hbel)
  have Ox1 := Lib.hid (show OwI w9 w7.heap.size (.slice xA1 l1.length xc1) l1 from OwI.below Ox1.out hbel)
  clear hbel
  have Og0 := Lib.hid (show OwI w9 w8.heap.size (.slice gA0 U0.length gc0) U0 from Og0'.out)
  have Ug0 := Lib.hid (show ∀ k, (Value.slice gA0 U0.length gc0).ownBlock = some k → k < w9.heap.size from fun k hk => (own_block Og0.out k hk).2)
  clear Og0'
  go_wp2_with fail
  go_at_call 29
  have hE := eqIntS_any w9.heap.size w9.heap.size gA0 wA0 gc0 wc0 U0 U0 w9 (by omega) (by omega) (Og0.out).rd (Ow0.out).rd
  rw [eqI_refl] at hE
  refine hE.mono ?_
  rintro e w10 ⟨rfl, hdr⟩
  clear hE
  have hbel := hdr.below w9.heap.size
  clear hdr
  have hsw10 : w9.heap.size ≤ w10.heap.size := hbel.size
  have HB := Lib.hid (HB.out.trans (hbel.mono (by omega)))
  have Ca0_0 := Lib.hid ((hbel.cell (p := ⟨w.heap.size, 0, none⟩) (by simp only []; omega)).trans Ca0_0.out)
  have Ca0_1 := Lib.hid ((hbel.cell (p := ⟨w.heap.size, 1, none⟩) (by simp only []; omega)).trans Ca0_1.out)
  have Ca0_2 := Lib.hid ((hbel.cell (p := ⟨w.heap.size, 2, none⟩) (by simp only []; omega)).trans Ca0_2.out)
  have Cx0_0 := Lib.hid ((hbel.cell (p := ⟨w6.heap.size, 0, none⟩) (by simp only []; omega)).trans Cx0_0.out)
  have Cx0_1 := Lib.hid ((hbel.cell (p := ⟨w6.heap.size, 1, none⟩) (by simp only []; omega)).trans Cx0_1.out)
  have Cx0_2 := Lib.hid ((hbel.cell (p := ⟨w6.heap.size, 2, none⟩) (by simp only []; omega)).trans Cx0_2.out)
  have Ow0 := Lib.hid (show OwI w10 w4.heap.size (.slice wA0 U0.length wc0) U0 from OwI.below Ow0.out hbel)
  have Ox0 := Lib.hid (show OwP w10 w5.heap.size xA0 xB0 xc0 xd0 p0 from OwP.below Ox0.out hbel)
  have Ox1 := Lib.hid (show OwI w10 w7.heap.size (.slice xA1 l1.length xc1) l1 from OwI.below Ox1.out hbel)
  have Og0 := Lib.hid (show OwI w10 w8.heap.size (.slice gA0 U0.length gc0) U0 from OwI.below Og0.out hbel)
  clear hbel
  go_wp2
  have Fx0_0 := Lib.hid (show ∀ x, Below w10.heap.size w10 x → x.cell? ⟨w6.heap.size, 0, none⟩ = some (.int .i64 p0.n) from fun x hx => (hx.cell (p := ⟨w6.heap.size, 0, none⟩) (by simp only []; omega)).trans Cx0_0.out)
  have Fx0_1 := Lib.hid (show ∀ x, Below w10.heap.size w10 x → x.cell? ⟨w6.heap.size, 1, none⟩ = some (.slice xA0 p0.s.length xc0) from fun x hx => (hx.cell (p := ⟨w6.heap.size, 1, none⟩) (by simp only []; omega)).trans Cx0_1.out)
  have Fx0_2 := Lib.hid (show ∀ x, Below w10.heap.size w10 x → x.cell? ⟨w6.heap.size, 2, none⟩ = some (.slice xB0 p0.o.length xd0) from fun x hx => (hx.cell (p := ⟨w6.heap.size, 2, none⟩) (by simp only []; omega)).trans Cx0_2.out)
  have Fa0_0 := Lib.hid (show ∀ x, Below w10.heap.size w10 x → x.cell? ⟨w.heap.size, 0, none⟩ = some (.int .i64 p0.n) from fun x hx => (hx.cell (p := ⟨w.heap.size, 0, none⟩) (by simp only []; omega)).trans Ca0_0.out)
  have Fa0_1 := Lib.hid (show ∀ x, Below w10.heap.size w10 x → x.cell? ⟨w.heap.size, 1, none⟩ = some (.slice A0 p0.s.length c0) from fun x hx => (hx.cell (p := ⟨w.heap.size, 1, none⟩) (by simp only []; omega)).trans Ca0_1.out)
  have Fa0_2 := Lib.hid (show ∀ x, Below w10.heap.size w10 x → x.cell? ⟨w.heap.size, 2, none⟩ = some (.slice B0 p0.o.length d0) from fun x hx => (hx.cell (p := ⟨w.heap.size, 2, none⟩) (by simp only []; omega)).trans Ca0_2.out)
  have SD := Lib.hid (show Below w10.heap.size w10 w10.drew from (Below.refl _ _).drew)
  refine wp_region_T (fun x : World => Below w10.heap.size w10 x) [0, 1, 4] [0, 1] (.ls 0 (.ls 1 (.hv 2 (.hv 3 (.lp 4 (.done)))))) (by kernel_rfl) (by kernel_rfl) ?_
  refine T_ls1 (v := .agg #[.int .i64 p0.n, .slice xA0 p0.s.length xc0, .slice xB0 p0.o.length xd0]) rfl rfl SD.out (fun x hx => (by have h1 := Fx0_0.out x hx; have h2 := Fx0_1.out x hx; have h3 := Fx0_2.out x hx; go_simp)) (fun K hK => ?_)
  (go_simp; refine hK _ ?_; clear hK K)
  refine T_ls1 (v := .agg #[.int .i64 p0.n, .slice A0 p0.s.length c0, .slice B0 p0.o.length d0]) rfl rfl SD.out (fun x hx => (by have h1 := Fa0_0.out x hx; have h2 := Fa0_1.out x hx; have h3 := Fa0_2.out x hx; go_simp)) (fun K hK => ?_)
  (go_simp; refine hK _ ?_; clear hK K)
  refine T_hvS rfl (fun K hK => ?_)
  go_simp
  go_at_call 18
  generalize hwd : w10.drew = w11 at SD ⊢
  clear hwd
  have hbd := SD.out
  have hsw11 : w10.heap.size ≤ w11.heap.size := hbd.size
  have HB := Lib.hid (HB.out.trans (hbd.mono (by omega)))
  have Ca0_0 := Lib.hid ((hbd.cell (p := ⟨w.heap.size, 0, none⟩) (by simp only []; omega)).trans Ca0_0.out)
  have Ca0_1 := Lib.hid ((hbd.cell (p := ⟨w.heap.size, 1, none⟩) (by simp only []; omega)).trans Ca0_1.out)
  have Ca0_2 := Lib.hid ((hbd.cell (p := ⟨w.heap.size, 2, none⟩) (by simp only []; omega)).trans Ca0_2.out)
  have Cx0_0 := Lib.hid ((hbd.cell (p := ⟨w6.heap.size, 0, none⟩) (by simp only []; omega)).trans Cx0_0.out)
  have Cx0_1 := Lib.hid ((hbd.cell (p := ⟨w6.heap.size, 1, none⟩) (by simp only []; omega)).trans Cx0_1.out)
  have Cx0_2 := Lib.hid ((hbd.cell (p := ⟨w6.heap.size, 2, none⟩) (by simp only []; omega)).trans Cx0_2.out)
  have Ow0 := Lib.hid (show OwI w11 w4.heap.size (.slice wA0 U0.length wc0) U0 from OwI.below Ow0.out hbd)
  have Ox0 := Lib.hid (show OwP w11 w5.heap.size xA0 xB0 xc0 xd0 p0 from OwP.below Ox0.out hbd)
  have Ox1 := Lib.hid (show OwI w11 w7.heap.size (.slice xA1 l1.length xc1) l1 from OwI.below Ox1.out hbd)
  have Og0 := Lib.hid (show OwI w11 w8.heap.size (.slice gA0 U0.length gc0) U0 from OwI.below Og0.out hbd)
  clear hbd
  have SBY := Lib.hid SD.out
  refine (toPlan_any w.heap.size A0 B0 c0 d0 p0 w11 hl0 ho0 (by omega) (H0.out.below HB.out)).mono ?_
  rintro e w12 ⟨yA0, yB0, yc0, yd0, rfl, hown, hbel⟩
  have Oy0' := Lib.hid hown
  clear hown
  have hsw12 : w11.heap.size ≤ w12.heap.size := hbel.size
  have HB := Lib.hid (HB.out.trans (hbel.mono (by omega)))
  have Ca0_0 := Lib.hid ((hbel.cell (p := ⟨w.heap.size, 0, none⟩) (by simp only []; omega)).trans Ca0_0.out)
  have Ca0_1 := Lib.hid ((hbel.cell (p := ⟨w.heap.size, 1, none⟩) (by simp only []; omega)).trans Ca0_1.out)
  have Ca0_2 := Lib.hid ((hbel.cell (p := ⟨w.heap.size, 2, none⟩) (by simp only []; omega)).trans Ca0_2.out)
  have Cx0_0 := Lib.hid ((hbel.cell (p := ⟨w6.heap.size, 0, none⟩) (by simp only []; omega)).trans Cx0_0.out)
  have Cx0_1 := Lib.hid ((hbel.cell (p := ⟨w6.heap.size, 1, none⟩) (by simp only []; omega)).trans Cx0_1.out)
  have Cx0_2 := Lib.hid ((hbel.cell (p := ⟨w6.heap.size, 2, none⟩) (by simp only []; omega)).trans Cx0_2.out)
  have Ow0 := Lib.hid (show OwI w12 w4.heap.size (.slice wA0 U0.length wc0) U0 from OwI.below Ow0.out hbel)
  have Ox0 := Lib.hid (show OwP w12 w5.heap.size xA0 xB0 xc0 xd0 p0 from OwP.below Ox0.out hbel)
  have Ox1 := Lib.hid (show OwI w12 w7.heap.size (.slice xA1 l1.length xc1) l1 from OwI.below Ox1.out hbel)
  have Og0 := Lib.hid (show OwI w12 w8.heap.size (.slice gA0 U0.length gc0) U0 from OwI.below Og0.out hbel)
  have SBY := Lib.hid (SBY.out.trans (hbel.mono (by omega)))
  clear hbel
  have Oy0 := Lib.hid (show OwP w12 w11.heap.size yA0 yB0 yc0 yd0 p0 from Oy0'.out)
  have Uy0 := Lib.hid (show (∀ k, (Value.slice yA0 p0.s.length yc0).ownBlock = some k → k < w12.heap.size) ∧ (∀ k, (Value.slice yB0 p0.o.length yd0).ownBlock = some k → k < w12.heap.size) from ⟨fun k hk => (own_block (Oy0.out).1 k hk).2, fun k hk => (own_block (Oy0.out).2 k hk).2⟩)
  clear Oy0'
  go_simp
  refine hK _ _ (SBY.out) ?_
  clear hK K
  (refine T_hv rfl (by kernel_rfl) (fun K hK => ?_); go_simp)
  go_at_call 22
  have hE := eqPlan_any w12.heap.size w12.heap.size xA0 xB0 yA0 yB0 xc0 xd0 yc0 yd0 p0 p0 w12 (by omega) (by omega) (by omega) (by omega) (Nat.le_refl _) (Nat.le_refl _) (Ox0.out).rd (Oy0.out).rd
  rw [eqP_refl] at hE
  refine hE.mono ?_
  rintro e w13 ⟨rfl, hbel⟩
  clear hE
  have hsw13 : w12.heap.size ≤ w13.heap.size := hbel.size
  have HB := Lib.hid (HB.out.trans (hbel.mono (by omega)))
  have Ca0_0 := Lib.hid ((hbel.cell (p := ⟨w.heap.size, 0, none⟩) (by simp only []; omega)).trans Ca0_0.out)
  have Ca0_1 := Lib.hid ((hbel.cell (p := ⟨w.heap.size, 1, none⟩) (by simp only []; omega)).trans Ca0_1.out)
  have Ca0_2 := Lib.hid ((hbel.cell (p := ⟨w.heap.size, 2, none⟩) (by simp only []; omega)).trans Ca0_2.out)
  have Cx0_0 := Lib.hid ((hbel.cell (p := ⟨w6.heap.size, 0, none⟩) (by simp only []; omega)).trans Cx0_0.out)
  have Cx0_1 := Lib.hid ((hbel.cell (p := ⟨w6.heap.size, 1, none⟩) (by simp only []; omega)).trans Cx0_1.out)
  have Cx0_2 := Lib.hid ((hbel.cell (p := ⟨w6.heap.size, 2, none⟩) (by simp only []; omega)).trans Cx0_2.out)
  have Ow0 := Lib.hid (show OwI w13 w4.heap.size (.slice wA0 U0.length wc0) U0 from OwI.below Ow0.out hbel)
  have Ox0 := Lib.hid (show OwP w13 w5.heap.size xA0 xB0 xc0 xd0 p0 from OwP.below Ox0.out hbel)
  have Ox1 := Lib.hid (show OwI w13 w7.heap.size (.slice xA1 l1.length xc1) l1 from OwI.below Ox1.out hbel)
  have Og0 := Lib.hid (show OwI w13 w8.heap.size (.slice gA0 U0.length gc0) U0 from OwI.below Og0.out hbel)
  have Oy0 := Lib.hid (show OwP w13 w11.heap.size yA0 yB0 yc0 yd0 p0 from OwP.below Oy0.out hbel)
  clear hbel
  (go_simp; refine hK _ _ ?_; clear hK K)
  (repeat (first | (refine T_lp rfl (fun K hK => ?_); go_simp; refine hK _ ?_; clear hK K) | (refine T_ls rfl rfl (fun K hK => ?_); go_simp; refine hK _ ?_; clear hK K)))
  refine T_done ?_
  go_wp2_with fail
  go_at_call 27
  refine (toIntS_any w.heap.size A1 c1 l1 w13 hl1 (by omega) (H1.out.below HB.out)).mono ?_
  rintro e w14 ⟨yA1, yc1, rfl, hown, hbel⟩
  have Oy1' := Lib.hid hown
  clear hown
  have hsw14 : w13.heap.size ≤ w14.heap.size := hbel.size
  have HB := Lib.hid (HB.out.trans (hbel.mono (by omega)))
  have Ca0_0 := Lib.hid ((hbel.cell (p := ⟨w.heap.size, 0, none⟩) (by simp only []; omega)).trans Ca0_0.out)
  have Ca0_1 := Lib.hid ((hbel.cell (p := ⟨w.heap.size, 1, none⟩) (by simp only []; omega)).trans Ca0_1.out)
  have Ca0_2 := Lib.hid ((hbel.cell (p := ⟨w.heap.size, 2, none⟩) (by simp only []; omega)).trans Ca0_2.out)
  have Cx0_0 := Lib.hid ((hbel.cell (p := ⟨w6.heap.size, 0, none⟩) (by simp only []; omega)).trans Cx0_0.out)
  have Cx0_1 := Lib.hid ((hbel.cell (p := ⟨w6.heap.size, 1, none⟩) (by simp only []; omega)).trans Cx0_1.out)
  have Cx0_2 := Lib.hid ((hbel.cell (p := ⟨w6.heap.size, 2, none⟩) (by simp only []; omega)).trans Cx0_2.out)
  have Ow0 := Lib.hid (show OwI w14 w4.heap.size (.slice wA0 U0.length wc0) U0 from OwI.below Ow0.out hbel)
  have Ox0 := Lib.hid (show OwP w14 w5.heap.size xA0 xB0 xc0 xd0 p0 from OwP.below Ox0.out hbel)
  have Ox1 := Lib.hid (show OwI w14 w7.heap.size (.slice xA1 l1.length xc1) l1 from OwI.below Ox1.out hbel)
  have Og0 := Lib.hid (show OwI w14 w8.heap.size (.slice gA0 U0.length gc0) U0 from OwI.below Og0.out hbel)
  clear hbel
  have Oy1 := Lib.hid (show OwI w14 w13.heap.size (.slice yA1 l1.length yc1) l1 from Oy1'.out)
  have Uy1 := Lib.hid (show ∀ k, (Value.slice yA1 l1.length yc1).ownBlock = some k → k < w14.heap.size from fun k hk => (own_block Oy1.out k hk).2)
  clear Oy1'
  go_wp2_with fail
  go_at_call 29
  have hE := eqIntS_any w14.heap.size w14.heap.size xA1 yA1 xc1 yc1 l1 l1 w14 (by omega) (by omega) (Ox1.out).rd (Oy1.out).rd
  rw [eqI_refl] at hE
  refine hE.mono ?_
  rintro e w15 ⟨rfl, hdr⟩
  clear hE
  have hbel := hdr.below w14.heap.size
  clear hdr
  have hsw15 : w14.heap.size ≤ w15.heap.size := hbel.size
  have HB := Lib.hid (HB.out.trans (hbel.mono (by omega)))
  have Ca0_0 := Lib.hid ((hbel.cell (p := ⟨w.heap.size, 0, none⟩) (by simp only []; omega)).trans Ca0_0.out)
  have Ca0_1 := Lib.hid ((hbel.cell (p := ⟨w.heap.size, 1, none⟩) (by simp only []; omega)).trans Ca0_1.out)
  have Ca0_2 := Lib.hid ((hbel.cell (p := ⟨w.heap.size, 2, none⟩) (by simp only []; omega)).trans Ca0_2.out)
  have Cx0_0 := Lib.hid ((hbel.cell (p := ⟨w6.heap.size, 0, none⟩) (by simp only []; omega)).trans Cx0_0.out)
  have Cx0_1 := Lib.hid ((hbel.cell (p := ⟨w6.heap.size, 1, none⟩) (by simp only []; omega)).trans Cx0_1.out)
  have Cx0_2 := Lib.hid ((hbel.cell (p := ⟨w6.heap.size, 2, none⟩) (by simp only []; omega)).trans Cx0_2.out)
  have Ow0 := Lib.hid (show OwI w15 w4.heap.size (.slice wA0 U0.length wc0) U0 from OwI.below Ow0.out hbel)
  have Ox0 := Lib.hid (show OwP w15 w5.heap.size xA0 xB0 xc0 xd0 p0 from OwP.below Ox0.out hbel)
  have Ox1 := Lib.hid (show OwI w15 w7.heap.size (.slice xA1 l1.length xc1) l1 from OwI.below Ox1.out hbel)
  have Og0 := Lib.hid (show OwI w15 w8.heap.size (.slice gA0 U0.length gc0) U0 from OwI.below Og0.out hbel)
  have Oy1 := Lib.hid (show OwI w15 w13.heap.size (.slice yA1 l1.length yc1) l1 from OwI.below Oy1.out hbel)
  clear hbel
  have v10 := Cx0_0.out
  have v11 := Cx0_1.out
  have v12 := Cx0_2.out
  go_wp2_with fail
  go_at_call 23
  clear v10 v11 v12
  have hwm := markPlan_any (w5.heap.size) w6.heap.size xA0 xB0 xc0 xd0 p0 (1) w15 (by omega) (by omega) (by omega) (by omega) (by omega) (by omega) Ox0.out Ux0.out.1 Ux0.out.2
  refine hwm.mono ?_
  rintro e w16 ⟨rfl, hm1, hm2, hwn⟩
  clear hwm
  have Mx0 := Lib.hid (And.intro hm1 hm2)
  clear hm1 hm2
  have hsw16 : w15.heap.size ≤ w16.heap.size := hwn.1.size
  have HB := Lib.hid (HB.out.trans (hwn.1.mono (by omega)))
  have Ca0_0 := Lib.hid ((hwn.1.cell (p := ⟨w.heap.size, 0, none⟩) (by simp only []; omega)).trans Ca0_0.out)
  have Ca0_1 := Lib.hid ((hwn.1.cell (p := ⟨w.heap.size, 1, none⟩) (by simp only []; omega)).trans Ca0_1.out)
  have Ca0_2 := Lib.hid ((hwn.1.cell (p := ⟨w.heap.size, 2, none⟩) (by simp only []; omega)).trans Ca0_2.out)
  have Cx0_0 := Lib.hid ((World.cell?_of_block (a := ⟨w6.heap.size, 0, none⟩) (hwn.2 (w6.heap.size) (by omega) (by omega))).trans Cx0_0.out)
  have Cx0_1 := Lib.hid ((World.cell?_of_block (a := ⟨w6.heap.size, 1, none⟩) (hwn.2 (w6.heap.size) (by omega) (by omega))).trans Cx0_1.out)
  have Cx0_2 := Lib.hid ((World.cell?_of_block (a := ⟨w6.heap.size, 2, none⟩) (hwn.2 (w6.heap.size) (by omega) (by omega))).trans Cx0_2.out)
  have Ow0 := Lib.hid (show OwI w16 w4.heap.size (.slice wA0 U0.length wc0) U0 from own_win_lo Ow0.out hwn (fun k hk => Nat.lt_of_lt_of_le (Uw0.out k hk) (by omega)))
  have Ox1 := Lib.hid (show OwI w16 w7.heap.size (.slice xA1 l1.length xc1) l1 from Win.own hwn Ox1.out (by omega))
  have Og0 := Lib.hid (show OwI w16 w8.heap.size (.slice gA0 U0.length gc0) U0 from Win.own hwn Og0.out (by omega))
  clear hwn
  have hkk1 : ¬ (1 + 2 * (p0.s.length : Int) + (p0.o.length : Int) < 0) := by omega
  go_wp2_with fail
  go_at_call 30
  refine (markIntS_any (w7.heap.size) xA1 xc1 l1 (1 + 2 * (p0.s.length : Int) + (p0.o.length : Int)) w16 (by omega) (by omega) (by omega) Ox1.out).mono ?_
  rintro e w17 ⟨rfl, hmk, hg⟩
  have hwn : Win w7.heap.size w8.heap.size w16 w17 := Win.of_grown hg (by omega) (fun k hk => ⟨(own_block Ox1.out k hk).1, Ux1.out k hk⟩)
  clear hg
  have Mx1 := Lib.hid hmk
  clear hmk
  have hsw17 : w16.heap.size ≤ w17.heap.size := hwn.1.size
  have HB := Lib.hid (HB.out.trans (hwn.1.mono (by omega)))
  have Ca0_0 := Lib.hid ((hwn.1.cell (p := ⟨w.heap.size, 0, none⟩) (by simp only []; omega)).trans Ca0_0.out)
  have Ca0_1 := Lib.hid ((hwn.1.cell (p := ⟨w.heap.size, 1, none⟩) (by simp only []; omega)).trans Ca0_1.out)
  have Ca0_2 := Lib.hid ((hwn.1.cell (p := ⟨w.heap.size, 2, none⟩) (by simp only []; omega)).trans Ca0_2.out)
  have Cx0_0 := Lib.hid ((hwn.1.cell (p := ⟨w6.heap.size, 0, none⟩) (by simp only []; omega)).trans Cx0_0.out)
  have Cx0_1 := Lib.hid ((hwn.1.cell (p := ⟨w6.heap.size, 1, none⟩) (by simp only []; omega)).trans Cx0_1.out)
  have Cx0_2 := Lib.hid ((hwn.1.cell (p := ⟨w6.heap.size, 2, none⟩) (by simp only []; omega)).trans Cx0_2.out)
  have Ow0 := Lib.hid (show OwI w17 w4.heap.size (.slice wA0 U0.length wc0) U0 from own_win_lo Ow0.out hwn (fun k hk => Nat.lt_of_lt_of_le (Uw0.out k hk) (by omega)))
  have Og0 := Lib.hid (show OwI w17 w8.heap.size (.slice gA0 U0.length gc0) U0 from Win.own hwn Og0.out (by omega))
  clear hwn
  have hkk2 : ¬ (1 + 2 * (p0.s.length : Int) + (p0.o.length : Int) + (l1.length : Int) < 0) := by omega
  go_wp2_with fail
  go_at_call 29
  have hE := eqIntS_any w17.heap.size w17.heap.size gA0 wA0 gc0 wc0 U0 U0 w17 (by omega) (by omega) (Og0.out).rd (Ow0.out).rd
  rw [eqI_refl] at hE
  refine hE.mono ?_
  rintro e w18 ⟨rfl, hdr⟩
  clear hE
  have hbel := hdr.below w17.heap.size
  clear hdr
  have hsw18 : w17.heap.size ≤ w18.heap.size := hbel.size
  have HB := Lib.hid (HB.out.trans (hbel.mono (by omega)))
  have Ca0_0 := Lib.hid ((hbel.cell (p := ⟨w.heap.size, 0, none⟩) (by simp only []; omega)).trans Ca0_0.out)
  have Ca0_1 := Lib.hid ((hbel.cell (p := ⟨w.heap.size, 1, none⟩) (by simp only []; omega)).trans Ca0_1.out)
  have Ca0_2 := Lib.hid ((hbel.cell (p := ⟨w.heap.size, 2, none⟩) (by simp only []; omega)).trans Ca0_2.out)
  have Ow0 := Lib.hid (show OwI w18 w4.heap.size (.slice wA0 U0.length wc0) U0 from OwI.below Ow0.out hbel)
  have Og0 := Lib.hid (show OwI w18 w8.heap.size (.slice gA0 U0.length gc0) U0 from OwI.below Og0.out hbel)
  clear hbel
  go_wp2_with fail
  go_at_call 30
  refine (markIntS_any (w8.heap.size) gA0 gc0 U0 (1) w18 (by omega) (by omega) (by omega) Og0.out).mono ?_
  rintro e w19 ⟨rfl, hmk, hg⟩
  have hwn : Win w8.heap.size w9.heap.size w18 w19 := Win.of_grown hg (by omega) (fun k hk => ⟨(own_block Og0.out k hk).1, Ug0.out k hk⟩)
  clear hg
  have Mg0 := Lib.hid hmk
  clear hmk
  have hsw19 : w18.heap.size ≤ w19.heap.size := hwn.1.size
  have HB := Lib.hid (HB.out.trans (hwn.1.mono (by omega)))
  have Ca0_0 := Lib.hid ((hwn.1.cell (p := ⟨w.heap.size, 0, none⟩) (by simp only []; omega)).trans Ca0_0.out)
  have Ca0_1 := Lib.hid ((hwn.1.cell (p := ⟨w.heap.size, 1, none⟩) (by simp only []; omega)).trans Ca0_1.out)
  have Ca0_2 := Lib.hid ((hwn.1.cell (p := ⟨w.heap.size, 2, none⟩) (by simp only []; omega)).trans Ca0_2.out)
  have Ow0 := Lib.hid (show OwI w19 w4.heap.size (.slice wA0 U0.length wc0) U0 from own_win_lo Ow0.out hwn (fun k hk => Nat.lt_of_lt_of_le (Uw0.out k hk) (by omega)))
  clear hwn
  have hkm1 : ¬ (1 + (U0.length : Int) < 0) := by omega
  have HM := Lib.hid (own_rd_marks Mg0.out)
  have HBM := Lib.hid (Below.refl w19.heap.size w19)
  go_wp2_with fail
  go_at_call 31
  refine (heldIntS_any w19.heap.size gA0 gc0 U0.length 1 w19 (by omega) (by omega) (by omega) (HM.out.below HBM.out)).mono ?_
  rintro e w900 ⟨rfl, rfl⟩
  have v13 := Ca0_0.out
  have v14 := Ca0_1.out
  have v15 := Ca0_2.out
  go_wp2_with fail
  go_at_call 18
  clear v13 v14 v15
  refine (toPlan_any w.heap.size A0 B0 c0 d0 p0 w19 hl0 ho0 (by omega) (H0.out.below HB.out)).mono ?_
  rintro e w20 ⟨zA0, zB0, zc0, zd0, rfl, hown, hbel⟩
  have Oz0' := Lib.hid hown
  clear hown
  have hsw20 : w19.heap.size ≤ w20.heap.size := hbel.size
  have HB := Lib.hid (HB.out.trans (hbel.mono (by omega)))
  have Ca0_0 := Lib.hid ((hbel.cell (p := ⟨w.heap.size, 0, none⟩) (by simp only []; omega)).trans Ca0_0.out)
  have Ca0_1 := Lib.hid ((hbel.cell (p := ⟨w.heap.size, 1, none⟩) (by simp only []; omega)).trans Ca0_1.out)
  have Ca0_2 := Lib.hid ((hbel.cell (p := ⟨w.heap.size, 2, none⟩) (by simp only []; omega)).trans Ca0_2.out)
  have Ow0 := Lib.hid (show OwI w20 w4.heap.size (.slice wA0 U0.length wc0) U0 from OwI.below Ow0.out hbel)
  have HBM := Lib.hid (HBM.out.trans (hbel.mono (by omega)))
  clear hbel
  have Oz0 := Lib.hid (show OwP w20 w19.heap.size zA0 zB0 zc0 zd0 p0 from Oz0'.out)
  have Uz0 := Lib.hid (show (∀ k, (Value.slice zA0 p0.s.length zc0).ownBlock = some k → k < w20.heap.size) ∧ (∀ k, (Value.slice zB0 p0.o.length zd0).ownBlock = some k → k < w20.heap.size) from ⟨fun k hk => (own_block (Oz0.out).1 k hk).2, fun k hk => (own_block (Oz0.out).2 k hk).2⟩)
  clear Oz0'
  go_wp2_with fail
  go_at_call 27
  refine (toIntS_any w.heap.size A1 c1 l1 w20 hl1 (by omega) (H1.out.below HB.out)).mono ?_
  rintro e w21 ⟨zA1, zc1, rfl, hown, hbel⟩
  have Oz1' := Lib.hid hown
  clear hown
  have hsw21 : w20.heap.size ≤ w21.heap.size := hbel.size
  have HB := Lib.hid (HB.out.trans (hbel.mono (by omega)))
  have Ca0_0 := Lib.hid ((hbel.cell (p := ⟨w.heap.size, 0, none⟩) (by simp only []; omega)).trans Ca0_0.out)
  have Ca0_1 := Lib.hid ((hbel.cell (p := ⟨w.heap.size, 1, none⟩) (by simp only []; omega)).trans Ca0_1.out)
  have Ca0_2 := Lib.hid ((hbel.cell (p := ⟨w.heap.size, 2, none⟩) (by simp only []; omega)).trans Ca0_2.out)
  have Ow0 := Lib.hid (show OwI w21 w4.heap.size (.slice wA0 U0.length wc0) U0 from OwI.below Ow0.out hbel)
  have Oz0 := Lib.hid (show OwP w21 w19.heap.size zA0 zB0 zc0 zd0 p0 from OwP.below Oz0.out hbel)
  have HBM := Lib.hid (HBM.out.trans (hbel.mono (by omega)))
  clear hbel
  have Oz1 := Lib.hid (show OwI w21 w20.heap.size (.slice zA1 l1.length zc1) l1 from Oz1'.out)
  have Uz1 := Lib.hid (show ∀ k, (Value.slice zA1 l1.length zc1).ownBlock = some k → k < w21.heap.size from fun k hk => (own_block Oz1.out k hk).2)
  clear Oz1'
  go_wp2_with fail
  go_at_call 28
  refine (HIMPL.out w21 zA0 zB0 zc0 zd0 zA1 zc1 (Oz1.out).cap (Oz0.out).rd (Oz1.out).rd).mono ?_
  rintro e w22 ⟨hA0, hc0, rfl, hown0, hbel⟩
  have Oh0' := Lib.hid hown0
  clear hown0
  have hsw22 : w21.heap.size ≤ w22.heap.size := hbel.size
  have HB := Lib.hid (HB.out.trans (hbel.mono (by omega)))
  have Ca0_0 := Lib.hid ((hbel.cell (p := ⟨w.heap.size, 0, none⟩) (by simp only []; omega)).trans Ca0_0.out)
  have Ca0_1 := Lib.hid ((hbel.cell (p := ⟨w.heap.size, 1, none⟩) (by simp only []; omega)).trans Ca0_1.out)
  have Ca0_2 := Lib.hid ((hbel.cell (p := ⟨w.heap.size, 2, none⟩) (by simp only []; omega)).trans Ca0_2.out)
  have Ow0 := Lib.hid (show OwI w22 w4.heap.size (.slice wA0 U0.length wc0) U0 from OwI.below Ow0.out hbel)
  have Oz0 := Lib.hid (show OwP w22 w19.heap.size zA0 zB0 zc0 zd0 p0 from OwP.below Oz0.out hbel)
  have Oz1 := Lib.hid (show OwI w22 w20.heap.size (.slice zA1 l1.length zc1) l1 from OwI.below Oz1.out hbel)
  have HBM := Lib.hid (HBM.out.trans (hbel.mono (by omega)))
  clear hbel
  have Oh0 := Lib.hid (show OwI w22 w21.heap.size (.slice hA0 U0.length hc0) U0 from Oh0'.out)
  have Uh0 := Lib.hid (show ∀ k, (Value.slice hA0 U0.length hc0).ownBlock = some k → k < w22.heap.size from fun k hk => (own_block Oh0.out k hk).2)
  clear Oh0'
  go_wp2_with fail
  go_at_call 29
  have hE := eqIntS_any w22.heap.size w22.heap.size hA0 wA0 hc0 wc0 U0 U0 w22 (by omega) (by omega) (Oh0.out).rd (Ow0.out).rd
  rw [eqI_refl] at hE
  refine hE.mono ?_
  rintro e w23 ⟨rfl, hdr⟩
  clear hE
  have hbel := hdr.below w22.heap.size
  clear hdr
  have hsw23 : w22.heap.size ≤ w23.heap.size := hbel.size
  have HB := Lib.hid (HB.out.trans (hbel.mono (by omega)))
  have Ca0_0 := Lib.hid ((hbel.cell (p := ⟨w.heap.size, 0, none⟩) (by simp only []; omega)).trans Ca0_0.out)
  have Ca0_1 := Lib.hid ((hbel.cell (p := ⟨w.heap.size, 1, none⟩) (by simp only []; omega)).trans Ca0_1.out)
  have Ca0_2 := Lib.hid ((hbel.cell (p := ⟨w.heap.size, 2, none⟩) (by simp only []; omega)).trans Ca0_2.out)
  have Ow0 := Lib.hid (show OwI w23 w4.heap.size (.slice wA0 U0.length wc0) U0 from OwI.below Ow0.out hbel)
  have Oz0 := Lib.hid (show OwP w23 w19.heap.size zA0 zB0 zc0 zd0 p0 from OwP.below Oz0.out hbel)
  have Oz1 := Lib.hid (show OwI w23 w20.heap.size (.slice zA1 l1.length zc1) l1 from OwI.below Oz1.out hbel)
  have Oh0 := Lib.hid (show OwI w23 w21.heap.size (.slice hA0 U0.length hc0) U0 from OwI.below Oh0.out hbel)
  have HBM := Lib.hid (HBM.out.trans (hbel.mono (by omega)))
  clear hbel
  go_wp2_with fail
  go_at_call 31
  refine (heldIntS_any w19.heap.size gA0 gc0 U0.length 1 w23 (by omega) (by omega) (by omega) (HM.out.below HBM.out)).mono ?_
  rintro e w900 ⟨rfl, rfl⟩
  go_wp2
  go_ret
  exact ⟨rfl, HB.out⟩

set_option maxRecDepth 100000 in
theorem wordLengths_lifted (os : Os) (started : os.Started) (H : Type) (enc : TypeId × Value → H) :
    ReturnsInHanded {} Try.checked os 4 .any (Rows.fnExactWordLengthsSpec.pre6 enc Try.prog Try.f4 Rows.fnExactWordLengthsRow.domain false) (Rows.fnExactWordLengthsSpec.post enc Try.prog Try.f4 false true false false) := by
  refine returnsInHanded_of_change (C := Try.checked) own started (by kernel_rfl) Try.func4
    (ChangeSpec.witness6 (enc := enc) (C := Try.checked) false ⟨#[], #[.agg #[.int .i64 0, .slice none 0 0, .slice none 0 0], .slice none 0 0], []⟩ 8 (by kernel_rfl) (by kernel_rfl) (by kernel_rfl) (by kernel_rfl)) ?_
  intro W base args ds gs before hval0 hW _ _
  have hval : ∀ (j : Nat) t v, Try.f4.params[j]? = some t → args[j]? = some v → Value.okWide Try.prog W .any base t v := hval0
  have hW' := hW
  obtain ⟨p, q, hA0, hV, rfl, hfz, hnd⟩ := hW
  have hA : DataW.TrodAll enc Try.prog W 0 (fun _ => true) true Try.f4.params.toList args.toList ds p := hA0
  rw [Try.params4] at hA hval
  obtain ⟨v0, v1, d0, d1, pp0, pp1, rfl, rfl, rfl, h0, h1⟩ := trodAll_two hA
  obtain ⟨rfl, rfl⟩ := trodVars_none hV
  have h0k := h0
  have h1k := h1
  obtain ⟨A0, B0, c0, d0', pl0, hx0, ln0, lo0, hrd0⟩ := open_plan (hval 0 25 v0 rfl rfl) h0
  obtain ⟨A1, c1, l1, hx1, ln1, hrd1⟩ := open_list (hval 1 23 v1 rfl rfl) h1
  subst hx0
  subst hx1
  clear hA0 hval0
  simp only [List.append_nil] at hW'
  refine (lawWordLengths A0 B0 c0 d0' pl0 A1 c1 l1 W ln0 lo0 hrd0 ln1 hrd1).mono fun e W' ⟨he, hb⟩ => ?_
  subst he
  have hlt : ∀ x ∈ pp0 ++ pp1, x.block < W.heap.size := fun x hx => by simpa using hW'.lt x hx
  refine ⟨_, rfl, _, _, _, [], pp0 ++ pp1, [], hW', trodAll_mk1 (shut_bool Try.underlying4 _), ?_, rfl, hb.frame _, fun h => by cases h⟩
  exact trodAll_mk2 (Below.trod laidOut (by kernel_rfl) (of_decide_eq_true (by kernel_rfl)) h0k hb fun x hx => hlt x (List.mem_append_left _ hx)) (Below.trod laidOut (by kernel_rfl) (of_decide_eq_true (by kernel_rfl)) h1k hb fun x hx => hlt x (List.mem_append_right _ hx))

theorem wordLengths_holds : Rows.FnExactWordLengthsSaid :=
  OpenClaim.holds_of_wide 4 Try.f4 rfl rfl rfl rfl rfl rfl rfl ⟨rfl, rfl, rfl, rfl, rfl⟩ rfl rfl rfl rfl rfl (by kernel_rfl) Try.func4 (by kernel_rfl)
    (of_decide_eq_true (by kernel_rfl)) (by unfold Func.isWrapper; rw [if_neg (of_decide_eq_false (by kernel_rfl))]; exact ⟨rfl, rfl⟩)
    (fun os started H enc _ => wordLengths_lifted os started H enc)
end Go.Proofs.Ytbbfbccemonihab
