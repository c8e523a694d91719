/- The walk of the law FnExactCodeOfPlan. -/
import Derived.Test.YtpopomcaknbhnaaGa6
import Derived.Test.YtpopomcaknbhnaaH8b
import Derived.Test.YtpopomcaknbhnaaH8t
namespace Go.Proofs.Ytpopomcaknbhnaa
open Go.ChangeShapes Go.WideShapes Go.ChangeAt Go.RowKit Go.Deep Go.Joins

set_option maxRecDepth 100000 in
set_option maxHeartbeats 8000000 in
theorem lawCodeOfPlan (A0 : Option Addr) (B0 : Option Addr) (c0 : Nat) (d0 : Nat) (p0 : Pl) (w : World) (hn0 : p0.s.length ≤ 9223372036854775807) (hm0 : p0.o.length ≤ 9223372036854775807) (hr0 : RdP w w.heap.size A0 B0 p0) :
    Calls Try.prog 16 #[.agg #[.int .i64 p0.n, .slice A0 p0.s.length c0, .slice B0 p0.o.length d0]] w fun e w' => e = .returned (.bool true) ∧ Below w.heap.size w w' := by
  have H0 := Lib.hid hr0
  clear hr0
  obtain ⟨sz0, hsz0⟩ : ∃ qx, szPl p0 1048576 = qx := ⟨_, rfl⟩
  have hsc0 := fun W => szPlan_any A0 B0 c0 d0 p0 1048576 W (by omega) (by omega) hn0 hm0
  rw [hsz0] at hsc0
  have SZ0 := Lib.hid hsc0
  have SX0 := Lib.hid hsz0
  clear hsz0 hsc0
  go_enter Try.func16, Try.ntmps16
  go_wp2_with fail
  go_at_call 54
  generalize hww1 : World.alloc w _ = w1
  obtain ⟨x0', x1', x2', hxw1, hbx⟩ := bx3 hww1
  clear hww1
  have hxP := hxw1
  have hsw1 : w.heap.size ≤ w1.heap.size := hbx.size
  have HB := Lib.hid hbx
  clear hbx
  have Ca0_0 := Lib.hid x0'
  have Ca0_1 := Lib.hid x1'
  have Ca0_2 := Lib.hid x2'
  clear x0' x1' x2'
  refine (SZ0.out _).mono ?_
  rintro e w2 ⟨rfl, hbel⟩
  have hsw2 : w1.heap.size ≤ w2.heap.size := hbel.size
  have HB := Lib.hid (HB.out.trans (hbel.mono (by omega)))
  have Ca0_0 := Lib.hid ((hbel.cell (p := ⟨w.heap.size, 0, none⟩) (by simp only []; omega)).trans Ca0_0.out)
  have Ca0_1 := Lib.hid ((hbel.cell (p := ⟨w.heap.size, 1, none⟩) (by simp only []; omega)).trans Ca0_1.out)
  have Ca0_2 := Lib.hid ((hbel.cell (p := ⟨w.heap.size, 2, none⟩) (by simp only []; omega)).trans Ca0_2.out)
  clear hbel
  by_cases hneg0 : sz0 < 0
  · go_wp2
    go_ret
    exact ⟨rfl, HB.out⟩
  obtain ⟨hl0, ho0⟩ := szPl_ok (p := p0) (by rw [SX0.out]; exact hneg0)
  obtain ⟨U0, hU0⟩ : ∃ gx, cpR p0 = gx := ⟨_, rfl⟩
  have hUl0 : U0.ops.length ≤ 1000 := by rw [← hU0]; exact cpR_le _
  obtain ⟨U1, hU1⟩ : ∃ gx, cpB p0 = gx := ⟨_, rfl⟩
  have hspec := fun (W : World) A0' B0' c0' d0' => specCodeOfPlan_any (World.heap W).size A0' B0' c0' d0' p0 W (Nat.le_refl _) hl0 ho0
  have himpl := fun (W : World) A0' B0' c0' d0' => implCodeOfPlan_any (World.heap W).size A0' B0' c0' d0' p0 W (Nat.le_refl _) hl0 ho0
  rw [hU0, hU1] at hspec himpl
  have HSPEC := Lib.hid hspec
  have HIMPL := Lib.hid himpl
  clear hU0 hU1 hspec himpl
  have v1 := Ca0_0.out
  have v2 := Ca0_1.out
  have v3 := Ca0_2.out
  go_wp2_with fail
  go_at_call 56
  clear v1 v2 v3
  refine (toPlan_any w.heap.size A0 B0 c0 d0 p0 w2 hl0 ho0 (by omega) (H0.out.below HB.out)).mono ?_
  rintro e w3 ⟨sA0, sB0, sc0, sd0, rfl, hown, hbel⟩
  have Os0' := Lib.hid hown
  clear hown
  have hsw3 : w2.heap.size ≤ w3.heap.size := hbel.size
  have HB := Lib.hid (HB.out.trans (hbel.mono (by omega)))
  have Ca0_0 := Lib.hid ((hbel.cell (p := ⟨w.heap.size, 0, none⟩) (by simp only []; omega)).trans Ca0_0.out)
  have Ca0_1 := Lib.hid ((hbel.cell (p := ⟨w.heap.size, 1, none⟩) (by simp only []; omega)).trans Ca0_1.out)
  have Ca0_2 := Lib.hid ((hbel.cell (p := ⟨w.heap.size, 2, none⟩) (by simp only []; omega)).trans Ca0_2.out)
  clear hbel
  have Os0 := Lib.hid (show OwP w3 w2.heap.size sA0 sB0 sc0 sd0 p0 from Os0'.out)
  have Us0 := Lib.hid (show (∀ k, (Value.slice sA0 p0.s.length sc0).ownBlock = some k → k < w3.heap.size) ∧ (∀ k, (Value.slice sB0 p0.o.length sd0).ownBlock = some k → k < w3.heap.size) from ⟨fun k hk => (own_block (Os0.out).1 k hk).2, fun k hk => (own_block (Os0.out).2 k hk).2⟩)
  clear Os0'
  go_wp2_with fail
  go_at_call 55
  refine (HSPEC.out w3 sA0 sB0 sc0 sd0  (Os0.out).rd).mono ?_
  rintro e w4 ⟨wA0, wc0, rfl, hown0, hbel⟩
  have Ow0' := Lib.hid hown0
  clear hown0
  have hsw4 : w3.heap.size ≤ w4.heap.size := hbel.size
  have HB := Lib.hid (HB.out.trans (hbel.mono (by omega)))
  have Ca0_0 := Lib.hid ((hbel.cell (p := ⟨w.heap.size, 0, none⟩) (by simp only []; omega)).trans Ca0_0.out)
  have Ca0_1 := Lib.hid ((hbel.cell (p := ⟨w.heap.size, 1, none⟩) (by simp only []; omega)).trans Ca0_1.out)
  have Ca0_2 := Lib.hid ((hbel.cell (p := ⟨w.heap.size, 2, none⟩) (by simp only []; omega)).trans Ca0_2.out)
  have Os0 := Lib.hid (show OwP w4 w2.heap.size sA0 sB0 sc0 sd0 p0 from OwP.below Os0.out hbel)
  clear hbel
  have Ow0 := Lib.hid (show OwD w4 w3.heap.size wA0 wc0 U0 from Ow0'.out)
  have Uw0 := Lib.hid (show ∀ k, (Value.slice wA0 U0.ops.length wc0).ownBlock = some k → k < w4.heap.size from fun k hk => (own_block Ow0.out k hk).2)
  clear Ow0'
  have v4 := cell_kept Ca0_0.out
  have v5 := cell_kept Ca0_1.out
  have v6 := cell_kept Ca0_2.out
  go_wp2_with fail
  go_at_call 56
  clear v4 v5 v6
  generalize hww5 : World.alloc w4 _ = w5
  obtain ⟨x0', x1', hxw5, hbx⟩ := bx2 hww5
  clear hww5
  have hxP := hxw5
  have hsw5 : w4.heap.size ≤ w5.heap.size := hbx.size
  have HB := Lib.hid (HB.out.trans (hbx.mono (by omega)))
  have Ca0_0 := Lib.hid ((hbx.cell (p := ⟨w.heap.size, 0, none⟩) (by simp only []; omega)).trans Ca0_0.out)
  have Ca0_1 := Lib.hid ((hbx.cell (p := ⟨w.heap.size, 1, none⟩) (by simp only []; omega)).trans Ca0_1.out)
  have Ca0_2 := Lib.hid ((hbx.cell (p := ⟨w.heap.size, 2, none⟩) (by simp only []; omega)).trans Ca0_2.out)
  have Ow0 := Lib.hid (show OwD w5 w3.heap.size wA0 wc0 U0 from OwD.below Ow0.out hbx)
  clear hbx
  have Cw0_0 := Lib.hid x0'
  have Cw0_1 := Lib.hid x1'
  clear x0' x1'
  refine (toPlan_any w.heap.size A0 B0 c0 d0 p0 w5 hl0 ho0 (by omega) (H0.out.below HB.out)).mono ?_
  rintro e w6 ⟨xA0, xB0, xc0, xd0, rfl, hown, hbel⟩
  have Ox0' := Lib.hid hown
  clear hown
  have hsw6 : w5.heap.size ≤ w6.heap.size := hbel.size
  have HB := Lib.hid (HB.out.trans (hbel.mono (by omega)))
  have Ca0_0 := Lib.hid ((hbel.cell (p := ⟨w.heap.size, 0, none⟩) (by simp only []; omega)).trans Ca0_0.out)
  have Ca0_1 := Lib.hid ((hbel.cell (p := ⟨w.heap.size, 1, none⟩) (by simp only []; omega)).trans Ca0_1.out)
  have Ca0_2 := Lib.hid ((hbel.cell (p := ⟨w.heap.size, 2, none⟩) (by simp only []; omega)).trans Ca0_2.out)
  have Cw0_0 := Lib.hid ((hbel.cell (p := ⟨w4.heap.size, 0, none⟩) (by simp only []; omega)).trans Cw0_0.out)
  have Cw0_1 := Lib.hid ((hbel.cell (p := ⟨w4.heap.size, 1, none⟩) (by simp only []; omega)).trans Cw0_1.out)
  have Ow0 := Lib.hid (show OwD w6 w3.heap.size wA0 wc0 U0 from OwD.below Ow0.out hbel)
  clear hbel
  have Ox0 := Lib.hid (show OwP w6 w5.heap.size xA0 xB0 xc0 xd0 p0 from Ox0'.out)
  have Ux0 := Lib.hid (show (∀ k, (Value.slice xA0 p0.s.length xc0).ownBlock = some k → k < w6.heap.size) ∧ (∀ k, (Value.slice xB0 p0.o.length xd0).ownBlock = some k → k < w6.heap.size) from ⟨fun k hk => (own_block (Ox0.out).1 k hk).2, fun k hk => (own_block (Ox0.out).2 k hk).2⟩)
  clear Ox0'
  go_wp2_with fail
  go_at_call 57
  generalize hww7 : World.alloc w6 _ = w7
  obtain ⟨x0', x1', x2', hxw7, hbx⟩ := bx3 hww7
  clear hww7
  have hxP := hxw7
  have hsw7 : w6.heap.size ≤ w7.heap.size := hbx.size
  have HB := Lib.hid (HB.out.trans (hbx.mono (by omega)))
  have Ca0_0 := Lib.hid ((hbx.cell (p := ⟨w.heap.size, 0, none⟩) (by simp only []; omega)).trans Ca0_0.out)
  have Ca0_1 := Lib.hid ((hbx.cell (p := ⟨w.heap.size, 1, none⟩) (by simp only []; omega)).trans Ca0_1.out)
  have Ca0_2 := Lib.hid ((hbx.cell (p := ⟨w.heap.size, 2, none⟩) (by simp only []; omega)).trans Ca0_2.out)
  have Cw0_0 := Lib.hid ((hbx.cell (p := ⟨w4.heap.size, 0, none⟩) (by simp only []; omega)).trans Cw0_0.out)
  have Cw0_1 := Lib.hid ((hbx.cell (p := ⟨w4.heap.size, 1, none⟩) (by simp only []; omega)).trans Cw0_1.out)
  have Ow0 := Lib.hid (show OwD w7 w3.heap.size wA0 wc0 U0 from OwD.below Ow0.out hbx)
  have Ox0 := Lib.hid (show OwP w7 w5.heap.size xA0 xB0 xc0 xd0 p0 from OwP.below Ox0.out hbx)
  clear hbx
  have Cx0_0 := Lib.hid x0'
  have Cx0_1 := Lib.hid x1'
  have Cx0_2 := Lib.hid x2'
  clear x0' x1' x2'
  refine (HIMPL.out w7 xA0 xB0 xc0 xd0  (Ox0.out).rd).mono ?_
  rintro e w8 ⟨gA0, gc0, rfl, hown0, hbel⟩
  have Og0' := Lib.hid hown0
  clear hown0
  have hsw8 : w7.heap.size ≤ w8.heap.size := hbel.size
  have HB := Lib.hid (HB.out.trans (hbel.mono (by omega)))
  have Ca0_0 := Lib.hid ((hbel.cell (p := ⟨w.heap.size, 0, none⟩) (by simp only []; omega)).trans Ca0_0.out)
  have Ca0_1 := Lib.hid ((hbel.cell (p := ⟨w.heap.size, 1, none⟩) (by simp only []; omega)).trans Ca0_1.out)
  have Ca0_2 := Lib.hid ((hbel.cell (p := ⟨w.heap.size, 2, none⟩) (by simp only []; omega)).trans Ca0_2.out)
  have Cw0_0 := Lib.hid ((hbel.cell (p := ⟨w4.heap.size, 0, none⟩) (by simp only []; omega)).trans Cw0_0.out)
  have Cw0_1 := Lib.hid ((hbel.cell (p := ⟨w4.heap.size, 1, none⟩) (by simp only []; omega)).trans Cw0_1.out)
  have Cx0_0 := Lib.hid ((hbel.cell (p := ⟨w6.heap.size, 0, none⟩) (by simp only []; omega)).trans Cx0_0.out)
  have Cx0_1 := Lib.hid ((hbel.cell (p := ⟨w6.heap.size, 1, none⟩) (by simp only []; omega)).trans Cx0_1.out)
  have Cx0_2 := Lib.hid ((hbel.cell (p := ⟨w6.heap.size, 2, none⟩) (by simp only []; omega)).trans Cx0_2.out)
  have Ow0 := Lib.hid (show OwD w8 w3.heap.size wA0 wc0 U0 from OwD.below Ow0.out hbel)
  have Ox0 := Lib.hid (show OwP w8 w5.heap.size xA0 xB0 xc0 xd0 p0 from OwP.below Ox0.out hbel)
  clear hbel
  have Og0 := Lib.hid (show OwD w8 w7.heap.size gA0 gc0 U0 from Og0'.out)
  have Ug0 := Lib.hid (show ∀ k, (Value.slice gA0 U0.ops.length gc0).ownBlock = some k → k < w8.heap.size from fun k hk => (own_block Og0.out k hk).2)
  clear Og0'
  have v7 := cell_kept Cw0_0.out
  have v8 := cell_kept Cw0_1.out
  go_wp2_with fail
  go_at_call 23
  clear v7 v8
  generalize hww9 : World.alloc w8 _ = w9
  obtain ⟨x0', x1', hxw9, hbx⟩ := bx2 hww9
  clear hww9
  have hxP := hxw9
  have hsw9 : w8.heap.size ≤ w9.heap.size := hbx.size
  have HB := Lib.hid (HB.out.trans (hbx.mono (by omega)))
  have Ca0_0 := Lib.hid ((hbx.cell (p := ⟨w.heap.size, 0, none⟩) (by simp only []; omega)).trans Ca0_0.out)
  have Ca0_1 := Lib.hid ((hbx.cell (p := ⟨w.heap.size, 1, none⟩) (by simp only []; omega)).trans Ca0_1.out)
  have Ca0_2 := Lib.hid ((hbx.cell (p := ⟨w.heap.size, 2, none⟩) (by simp only []; omega)).trans Ca0_2.out)
  have Cw0_0 := Lib.hid ((hbx.cell (p := ⟨w4.heap.size, 0, none⟩) (by simp only []; omega)).trans Cw0_0.out)
  have Cw0_1 := Lib.hid ((hbx.cell (p := ⟨w4.heap.size, 1, none⟩) (by simp only []; omega)).trans Cw0_1.out)
  have Cx0_0 := Lib.hid ((hbx.cell (p := ⟨w6.heap.size, 0, none⟩) (by simp only []; omega)).trans Cx0_0.out)
  have Cx0_1 := Lib.hid ((hbx.cell (p := ⟨w6.heap.size, 1, none⟩) (by simp only []; omega)).trans Cx0_1.out)
  have Cx0_2 := Lib.hid ((hbx.cell (p := ⟨w6.heap.size, 2, none⟩) (by simp only []; omega)).trans Cx0_2.out)
  have Ow0 := Lib.hid (show OwD w9 w3.heap.size wA0 wc0 U0 from OwD.below Ow0.out hbx)
  have Ox0 := Lib.hid (show OwP w9 w5.heap.size xA0 xB0 xc0 xd0 p0 from OwP.below Ox0.out hbx)
  have Og0 := Lib.hid (show OwD w9 w7.heap.size gA0 gc0 U0 from OwD.below Og0.out hbx)
  clear hbx
  have Cg0_0 := Lib.hid x0'
  have Cg0_1 := Lib.hid x1'
  clear x0' x1'
  refine (eqCode_refl w9.heap.size w9.heap.size gA0 wA0 gc0 wc0 U0 w9 (by omega) (Nat.le_refl _) (Nat.le_refl _) (Og0.out).rd (Ow0.out).rd).mono ?_
  rintro e w10 ⟨rfl, hbel⟩
  have hsw10 : w9.heap.size ≤ w10.heap.size := hbel.size
  have HB := Lib.hid (HB.out.trans (hbel.mono (by omega)))
  have Ca0_0 := Lib.hid ((hbel.cell (p := ⟨w.heap.size, 0, none⟩) (by simp only []; omega)).trans Ca0_0.out)
  have Ca0_1 := Lib.hid ((hbel.cell (p := ⟨w.heap.size, 1, none⟩) (by simp only []; omega)).trans Ca0_1.out)
  have Ca0_2 := Lib.hid ((hbel.cell (p := ⟨w.heap.size, 2, none⟩) (by simp only []; omega)).trans Ca0_2.out)
  have Cw0_0 := Lib.hid ((hbel.cell (p := ⟨w4.heap.size, 0, none⟩) (by simp only []; omega)).trans Cw0_0.out)
  have Cw0_1 := Lib.hid ((hbel.cell (p := ⟨w4.heap.size, 1, none⟩) (by simp only []; omega)).trans Cw0_1.out)
  have Cx0_0 := Lib.hid ((hbel.cell (p := ⟨w6.heap.size, 0, none⟩) (by simp only []; omega)).trans Cx0_0.out)
  have Cx0_1 := Lib.hid ((hbel.cell (p := ⟨w6.heap.size, 1, none⟩) (by simp only []; omega)).trans Cx0_1.out)
  have Cx0_2 := Lib.hid ((hbel.cell (p := ⟨w6.heap.size, 2, none⟩) (by simp only []; omega)).trans Cx0_2.out)
  have Cg0_0 := Lib.hid ((hbel.cell (p := ⟨w8.heap.size, 0, none⟩) (by simp only []; omega)).trans Cg0_0.out)
  have Cg0_1 := Lib.hid ((hbel.cell (p := ⟨w8.heap.size, 1, none⟩) (by simp only []; omega)).trans Cg0_1.out)
  have Ow0 := Lib.hid (show OwD w10 w3.heap.size wA0 wc0 U0 from OwD.below Ow0.out hbel)
  have Ox0 := Lib.hid (show OwP w10 w5.heap.size xA0 xB0 xc0 xd0 p0 from OwP.below Ox0.out hbel)
  have Og0 := Lib.hid (show OwD w10 w7.heap.size gA0 gc0 U0 from OwD.below Og0.out hbel)
  clear hbel
  go_wp2
  have Fx0_0 := Lib.hid (show ∀ x, Below w10.heap.size w10 x → x.cell? ⟨w6.heap.size, 0, none⟩ = some (.int .i64 p0.n) from fun x hx => (hx.cell (p := ⟨w6.heap.size, 0, none⟩) (by simp only []; omega)).trans Cx0_0.out)
  have Fx0_1 := Lib.hid (show ∀ x, Below w10.heap.size w10 x → x.cell? ⟨w6.heap.size, 1, none⟩ = some (.slice xA0 p0.s.length xc0) from fun x hx => (hx.cell (p := ⟨w6.heap.size, 1, none⟩) (by simp only []; omega)).trans Cx0_1.out)
  have Fx0_2 := Lib.hid (show ∀ x, Below w10.heap.size w10 x → x.cell? ⟨w6.heap.size, 2, none⟩ = some (.slice xB0 p0.o.length xd0) from fun x hx => (hx.cell (p := ⟨w6.heap.size, 2, none⟩) (by simp only []; omega)).trans Cx0_2.out)
  have Fa0_0 := Lib.hid (show ∀ x, Below w10.heap.size w10 x → x.cell? ⟨w.heap.size, 0, none⟩ = some (.int .i64 p0.n) from fun x hx => (hx.cell (p := ⟨w.heap.size, 0, none⟩) (by simp only []; omega)).trans Ca0_0.out)
  have Fa0_1 := Lib.hid (show ∀ x, Below w10.heap.size w10 x → x.cell? ⟨w.heap.size, 1, none⟩ = some (.slice A0 p0.s.length c0) from fun x hx => (hx.cell (p := ⟨w.heap.size, 1, none⟩) (by simp only []; omega)).trans Ca0_1.out)
  have Fa0_2 := Lib.hid (show ∀ x, Below w10.heap.size w10 x → x.cell? ⟨w.heap.size, 2, none⟩ = some (.slice B0 p0.o.length d0) from fun x hx => (hx.cell (p := ⟨w.heap.size, 2, none⟩) (by simp only []; omega)).trans Ca0_2.out)
  have SD := Lib.hid (show Below w10.heap.size w10 w10.drew from (Below.refl _ _).drew)
  refine wp_region_T (fun x : World => Below w10.heap.size w10 x) [0, 1, 4] [0, 1] (.ls 0 (.ls 1 (.hv 2 (.hv 3 (.lp 4 (.done)))))) (by kernel_rfl) (by kernel_rfl) ?_
  refine T_ls1 (v := .agg #[.int .i64 p0.n, .slice xA0 p0.s.length xc0, .slice xB0 p0.o.length xd0]) rfl rfl SD.out (fun x hx => (by have h1 := Fx0_0.out x hx; have h2 := Fx0_1.out x hx; have h3 := Fx0_2.out x hx; go_simp)) (fun K hK => ?_)
  (go_simp; refine hK _ ?_; clear hK K)
  refine T_ls1 (v := .agg #[.int .i64 p0.n, .slice A0 p0.s.length c0, .slice B0 p0.o.length d0]) rfl rfl SD.out (fun x hx => (by have h1 := Fa0_0.out x hx; have h2 := Fa0_1.out x hx; have h3 := Fa0_2.out x hx; go_simp)) (fun K hK => ?_)
  (go_simp; refine hK _ ?_; clear hK K)
  refine T_hvS rfl (fun K hK => ?_)
  go_simp
  go_at_call 56
  generalize hwd : w10.drew = w11 at SD ⊢
  clear hwd
  have hbd := SD.out
  have hsw11 : w10.heap.size ≤ w11.heap.size := hbd.size
  have HB := Lib.hid (HB.out.trans (hbd.mono (by omega)))
  have Ca0_0 := Lib.hid ((hbd.cell (p := ⟨w.heap.size, 0, none⟩) (by simp only []; omega)).trans Ca0_0.out)
  have Ca0_1 := Lib.hid ((hbd.cell (p := ⟨w.heap.size, 1, none⟩) (by simp only []; omega)).trans Ca0_1.out)
  have Ca0_2 := Lib.hid ((hbd.cell (p := ⟨w.heap.size, 2, none⟩) (by simp only []; omega)).trans Ca0_2.out)
  have Cw0_0 := Lib.hid ((hbd.cell (p := ⟨w4.heap.size, 0, none⟩) (by simp only []; omega)).trans Cw0_0.out)
  have Cw0_1 := Lib.hid ((hbd.cell (p := ⟨w4.heap.size, 1, none⟩) (by simp only []; omega)).trans Cw0_1.out)
  have Cx0_0 := Lib.hid ((hbd.cell (p := ⟨w6.heap.size, 0, none⟩) (by simp only []; omega)).trans Cx0_0.out)
  have Cx0_1 := Lib.hid ((hbd.cell (p := ⟨w6.heap.size, 1, none⟩) (by simp only []; omega)).trans Cx0_1.out)
  have Cx0_2 := Lib.hid ((hbd.cell (p := ⟨w6.heap.size, 2, none⟩) (by simp only []; omega)).trans Cx0_2.out)
  have Cg0_0 := Lib.hid ((hbd.cell (p := ⟨w8.heap.size, 0, none⟩) (by simp only []; omega)).trans Cg0_0.out)
  have Cg0_1 := Lib.hid ((hbd.cell (p := ⟨w8.heap.size, 1, none⟩) (by simp only []; omega)).trans Cg0_1.out)
  have Ow0 := Lib.hid (show OwD w11 w3.heap.size wA0 wc0 U0 from OwD.below Ow0.out hbd)
  have Ox0 := Lib.hid (show OwP w11 w5.heap.size xA0 xB0 xc0 xd0 p0 from OwP.below Ox0.out hbd)
  have Og0 := Lib.hid (show OwD w11 w7.heap.size gA0 gc0 U0 from OwD.below Og0.out hbd)
  clear hbd
  have SBY := Lib.hid SD.out
  refine (toPlan_any w.heap.size A0 B0 c0 d0 p0 w11 hl0 ho0 (by omega) (H0.out.below HB.out)).mono ?_
  rintro e w12 ⟨yA0, yB0, yc0, yd0, rfl, hown, hbel⟩
  have Oy0' := Lib.hid hown
  clear hown
  have hsw12 : w11.heap.size ≤ w12.heap.size := hbel.size
  have HB := Lib.hid (HB.out.trans (hbel.mono (by omega)))
  have Ca0_0 := Lib.hid ((hbel.cell (p := ⟨w.heap.size, 0, none⟩) (by simp only []; omega)).trans Ca0_0.out)
  have Ca0_1 := Lib.hid ((hbel.cell (p := ⟨w.heap.size, 1, none⟩) (by simp only []; omega)).trans Ca0_1.out)
  have Ca0_2 := Lib.hid ((hbel.cell (p := ⟨w.heap.size, 2, none⟩) (by simp only []; omega)).trans Ca0_2.out)
  have Cw0_0 := Lib.hid ((hbel.cell (p := ⟨w4.heap.size, 0, none⟩) (by simp only []; omega)).trans Cw0_0.out)
  have Cw0_1 := Lib.hid ((hbel.cell (p := ⟨w4.heap.size, 1, none⟩) (by simp only []; omega)).trans Cw0_1.out)
  have Cx0_0 := Lib.hid ((hbel.cell (p := ⟨w6.heap.size, 0, none⟩) (by simp only []; omega)).trans Cx0_0.out)
  have Cx0_1 := Lib.hid ((hbel.cell (p := ⟨w6.heap.size, 1, none⟩) (by simp only []; omega)).trans Cx0_1.out)
  have Cx0_2 := Lib.hid ((hbel.cell (p := ⟨w6.heap.size, 2, none⟩) (by simp only []; omega)).trans Cx0_2.out)
  have Cg0_0 := Lib.hid ((hbel.cell (p := ⟨w8.heap.size, 0, none⟩) (by simp only []; omega)).trans Cg0_0.out)
  have Cg0_1 := Lib.hid ((hbel.cell (p := ⟨w8.heap.size, 1, none⟩) (by simp only []; omega)).trans Cg0_1.out)
  have Ow0 := Lib.hid (show OwD w12 w3.heap.size wA0 wc0 U0 from OwD.below Ow0.out hbel)
  have Ox0 := Lib.hid (show OwP w12 w5.heap.size xA0 xB0 xc0 xd0 p0 from OwP.below Ox0.out hbel)
  have Og0 := Lib.hid (show OwD w12 w7.heap.size gA0 gc0 U0 from OwD.below Og0.out hbel)
  have SBY := Lib.hid (SBY.out.trans (hbel.mono (by omega)))
  clear hbel
  have Oy0 := Lib.hid (show OwP w12 w11.heap.size yA0 yB0 yc0 yd0 p0 from Oy0'.out)
  have Uy0 := Lib.hid (show (∀ k, (Value.slice yA0 p0.s.length yc0).ownBlock = some k → k < w12.heap.size) ∧ (∀ k, (Value.slice yB0 p0.o.length yd0).ownBlock = some k → k < w12.heap.size) from ⟨fun k hk => (own_block (Oy0.out).1 k hk).2, fun k hk => (own_block (Oy0.out).2 k hk).2⟩)
  clear Oy0'
  go_simp
  refine hK _ _ (SBY.out) ?_
  clear hK K
  (refine T_hv rfl (by kernel_rfl) (fun K hK => ?_); go_simp)
  go_at_call 58
  have hE := eqPlan_any w12.heap.size w12.heap.size xA0 xB0 yA0 yB0 xc0 xd0 yc0 yd0 p0 p0 w12 (by omega) (by omega) (by omega) (by omega) (Nat.le_refl _) (Nat.le_refl _) (Ox0.out).rd (Oy0.out).rd
  rw [eqP_refl] at hE
  refine hE.mono ?_
  rintro e w13 ⟨rfl, hbel⟩
  clear hE
  have hsw13 : w12.heap.size ≤ w13.heap.size := hbel.size
  have HB := Lib.hid (HB.out.trans (hbel.mono (by omega)))
  have Ca0_0 := Lib.hid ((hbel.cell (p := ⟨w.heap.size, 0, none⟩) (by simp only []; omega)).trans Ca0_0.out)
  have Ca0_1 := Lib.hid ((hbel.cell (p := ⟨w.heap.size, 1, none⟩) (by simp only []; omega)).trans Ca0_1.out)
  have Ca0_2 := Lib.hid ((hbel.cell (p := ⟨w.heap.size, 2, none⟩) (by simp only []; omega)).trans Ca0_2.out)
  have Cw0_0 := Lib.hid ((hbel.cell (p := ⟨w4.heap.size, 0, none⟩) (by simp only []; omega)).trans Cw0_0.out)
  have Cw0_1 := Lib.hid ((hbel.cell (p := ⟨w4.heap.size, 1, none⟩) (by simp only []; omega)).trans Cw0_1.out)
  have Cx0_0 := Lib.hid ((hbel.cell (p := ⟨w6.heap.size, 0, none⟩) (by simp only []; omega)).trans Cx0_0.out)
  have Cx0_1 := Lib.hid ((hbel.cell (p := ⟨w6.heap.size, 1, none⟩) (by simp only []; omega)).trans Cx0_1.out)
  have Cx0_2 := Lib.hid ((hbel.cell (p := ⟨w6.heap.size, 2, none⟩) (by simp only []; omega)).trans Cx0_2.out)
  have Cg0_0 := Lib.hid ((hbel.cell (p := ⟨w8.heap.size, 0, none⟩) (by simp only []; omega)).trans Cg0_0.out)
  have Cg0_1 := Lib.hid ((hbel.cell (p := ⟨w8.heap.size, 1, none⟩) (by simp only []; omega)).trans Cg0_1.out)
  have Ow0 := Lib.hid (show OwD w13 w3.heap.size wA0 wc0 U0 from OwD.below Ow0.out hbel)
  have Ox0 := Lib.hid (show OwP w13 w5.heap.size xA0 xB0 xc0 xd0 p0 from OwP.below Ox0.out hbel)
  have Og0 := Lib.hid (show OwD w13 w7.heap.size gA0 gc0 U0 from OwD.below Og0.out hbel)
  have Oy0 := Lib.hid (show OwP w13 w11.heap.size yA0 yB0 yc0 yd0 p0 from OwP.below Oy0.out hbel)
  clear hbel
  (go_simp; refine hK _ _ ?_; clear hK K)
  (repeat (first | (refine T_lp rfl (fun K hK => ?_); go_simp; refine hK _ ?_; clear hK K) | (refine T_ls rfl rfl (fun K hK => ?_); go_simp; refine hK _ ?_; clear hK K)))
  refine T_done ?_
  have v9 := Cx0_0.out
  have v10 := Cx0_1.out
  have v11 := Cx0_2.out
  go_wp2_with fail
  go_at_call 59
  clear v9 v10 v11
  have hwm := markPlan_any (w5.heap.size) w6.heap.size xA0 xB0 xc0 xd0 p0 (1) w13 (by omega) (by omega) (by omega) (by omega) (by omega) (by omega) Ox0.out Ux0.out.1 Ux0.out.2
  refine hwm.mono ?_
  rintro e w14 ⟨rfl, hm1, hm2, hwn⟩
  clear hwm
  have Mx0 := Lib.hid (And.intro hm1 hm2)
  clear hm1 hm2
  have hsw14 : w13.heap.size ≤ w14.heap.size := hwn.1.size
  have HB := Lib.hid (HB.out.trans (hwn.1.mono (by omega)))
  have Ca0_0 := Lib.hid ((hwn.1.cell (p := ⟨w.heap.size, 0, none⟩) (by simp only []; omega)).trans Ca0_0.out)
  have Ca0_1 := Lib.hid ((hwn.1.cell (p := ⟨w.heap.size, 1, none⟩) (by simp only []; omega)).trans Ca0_1.out)
  have Ca0_2 := Lib.hid ((hwn.1.cell (p := ⟨w.heap.size, 2, none⟩) (by simp only []; omega)).trans Ca0_2.out)
  have Cw0_0 := Lib.hid ((hwn.1.cell (p := ⟨w4.heap.size, 0, none⟩) (by simp only []; omega)).trans Cw0_0.out)
  have Cw0_1 := Lib.hid ((hwn.1.cell (p := ⟨w4.heap.size, 1, none⟩) (by simp only []; omega)).trans Cw0_1.out)
  have Cx0_0 := Lib.hid ((World.cell?_of_block (a := ⟨w6.heap.size, 0, none⟩) (hwn.2 (w6.heap.size) (by omega) (by omega))).trans Cx0_0.out)
  have Cx0_1 := Lib.hid ((World.cell?_of_block (a := ⟨w6.heap.size, 1, none⟩) (hwn.2 (w6.heap.size) (by omega) (by omega))).trans Cx0_1.out)
  have Cx0_2 := Lib.hid ((World.cell?_of_block (a := ⟨w6.heap.size, 2, none⟩) (hwn.2 (w6.heap.size) (by omega) (by omega))).trans Cx0_2.out)
  have Cg0_0 := Lib.hid ((World.cell?_of_block (a := ⟨w8.heap.size, 0, none⟩) (hwn.2 (w8.heap.size) (by omega) (by omega))).trans Cg0_0.out)
  have Cg0_1 := Lib.hid ((World.cell?_of_block (a := ⟨w8.heap.size, 1, none⟩) (hwn.2 (w8.heap.size) (by omega) (by omega))).trans Cg0_1.out)
  have Ow0 := Lib.hid (show OwD w14 w3.heap.size wA0 wc0 U0 from own_win_lo Ow0.out hwn (fun k hk => Nat.lt_of_lt_of_le (Uw0.out k hk) (by omega)))
  have Og0 := Lib.hid (show OwD w14 w7.heap.size gA0 gc0 U0 from Win.own hwn Og0.out (by omega))
  clear hwn
  have hkk1 : ¬ (1 + 2 * (p0.s.length : Int) + (p0.o.length : Int) < 0) := by omega
  have v12 := Cg0_0.out
  have v13 := Cg0_1.out
  have v14 := Cw0_0.out
  have v15 := Cw0_1.out
  go_wp2_with fail
  go_at_call 23
  clear v12 v13 v14 v15
  refine (eqCode_refl w14.heap.size w14.heap.size gA0 wA0 gc0 wc0 U0 w14 (by omega) (Nat.le_refl _) (Nat.le_refl _) (Og0.out).rd (Ow0.out).rd).mono ?_
  rintro e w15 ⟨rfl, hbel⟩
  have hsw15 : w14.heap.size ≤ w15.heap.size := hbel.size
  have HB := Lib.hid (HB.out.trans (hbel.mono (by omega)))
  have Ca0_0 := Lib.hid ((hbel.cell (p := ⟨w.heap.size, 0, none⟩) (by simp only []; omega)).trans Ca0_0.out)
  have Ca0_1 := Lib.hid ((hbel.cell (p := ⟨w.heap.size, 1, none⟩) (by simp only []; omega)).trans Ca0_1.out)
  have Ca0_2 := Lib.hid ((hbel.cell (p := ⟨w.heap.size, 2, none⟩) (by simp only []; omega)).trans Ca0_2.out)
  have Cw0_0 := Lib.hid ((hbel.cell (p := ⟨w4.heap.size, 0, none⟩) (by simp only []; omega)).trans Cw0_0.out)
  have Cw0_1 := Lib.hid ((hbel.cell (p := ⟨w4.heap.size, 1, none⟩) (by simp only []; omega)).trans Cw0_1.out)
  have Cg0_0 := Lib.hid ((hbel.cell (p := ⟨w8.heap.size, 0, none⟩) (by simp only []; omega)).trans Cg0_0.out)
  have Cg0_1 := Lib.hid ((hbel.cell (p := ⟨w8.heap.size, 1, none⟩) (by simp only []; omega)).trans Cg0_1.out)
  have Ow0 := Lib.hid (show OwD w15 w3.heap.size wA0 wc0 U0 from OwD.below Ow0.out hbel)
  have Og0 := Lib.hid (show OwD w15 w7.heap.size gA0 gc0 U0 from OwD.below Og0.out hbel)
  clear hbel
  have v16 := Cg0_0.out
  have v17 := Cg0_1.out
  go_wp2_with fail
  go_at_call 29
  clear v16 v17
  have hwm := markCode_any (w7.heap.size) w8.heap.size gA0 gc0 U0 (1) w15 (by omega) (by omega) (by omega) (by omega) Og0.out Ug0.out
  refine hwm.mono ?_
  rintro e w16 ⟨rfl, hmk, hwn⟩
  clear hwm
  have Mg0 := Lib.hid hmk
  clear hmk
  have hsw16 : w15.heap.size ≤ w16.heap.size := hwn.1.size
  have HB := Lib.hid (HB.out.trans (hwn.1.mono (by omega)))
  have Ca0_0 := Lib.hid ((hwn.1.cell (p := ⟨w.heap.size, 0, none⟩) (by simp only []; omega)).trans Ca0_0.out)
  have Ca0_1 := Lib.hid ((hwn.1.cell (p := ⟨w.heap.size, 1, none⟩) (by simp only []; omega)).trans Ca0_1.out)
  have Ca0_2 := Lib.hid ((hwn.1.cell (p := ⟨w.heap.size, 2, none⟩) (by simp only []; omega)).trans Ca0_2.out)
  have Cw0_0 := Lib.hid ((hwn.1.cell (p := ⟨w4.heap.size, 0, none⟩) (by simp only []; omega)).trans Cw0_0.out)
  have Cw0_1 := Lib.hid ((hwn.1.cell (p := ⟨w4.heap.size, 1, none⟩) (by simp only []; omega)).trans Cw0_1.out)
  have Cg0_0 := Lib.hid ((World.cell?_of_block (a := ⟨w8.heap.size, 0, none⟩) (hwn.2 (w8.heap.size) (by omega) (by omega))).trans Cg0_0.out)
  have Cg0_1 := Lib.hid ((World.cell?_of_block (a := ⟨w8.heap.size, 1, none⟩) (hwn.2 (w8.heap.size) (by omega) (by omega))).trans Cg0_1.out)
  have Ow0 := Lib.hid (show OwD w16 w3.heap.size wA0 wc0 U0 from own_win_lo Ow0.out hwn (fun k hk => Nat.lt_of_lt_of_le (Uw0.out k hk) (by omega)))
  clear hwn
  have hkm1 : ¬ (1 + 3 * (U0.ops.length : Int) < 0) := by omega
  have HM := Lib.hid (own_rd_marksO Mg0.out)
  have HBM := Lib.hid (Below.refl w16.heap.size w16)
  have v18 := Cg0_0.out
  have v19 := Cg0_1.out
  go_wp2_with fail
  go_at_call 38
  clear v18 v19
  refine (heldCode_any w16.heap.size gA0 gc0 U0.ops.length U0.out 1 w16 (by omega) (by omega) (by omega) (by omega) (HM.out.below HBM.out)).mono ?_
  rintro e w17 ⟨rfl, hbel⟩
  have HBM := Lib.hid (HBM.out.trans (hbel.mono (by omega)))
  have hsw17 : w16.heap.size ≤ w17.heap.size := hbel.size
  have HB := Lib.hid (HB.out.trans (hbel.mono (by omega)))
  have Ca0_0 := Lib.hid ((hbel.cell (p := ⟨w.heap.size, 0, none⟩) (by simp only []; omega)).trans Ca0_0.out)
  have Ca0_1 := Lib.hid ((hbel.cell (p := ⟨w.heap.size, 1, none⟩) (by simp only []; omega)).trans Ca0_1.out)
  have Ca0_2 := Lib.hid ((hbel.cell (p := ⟨w.heap.size, 2, none⟩) (by simp only []; omega)).trans Ca0_2.out)
  have Cw0_0 := Lib.hid ((hbel.cell (p := ⟨w4.heap.size, 0, none⟩) (by simp only []; omega)).trans Cw0_0.out)
  have Cw0_1 := Lib.hid ((hbel.cell (p := ⟨w4.heap.size, 1, none⟩) (by simp only []; omega)).trans Cw0_1.out)
  have Cg0_0 := Lib.hid ((hbel.cell (p := ⟨w8.heap.size, 0, none⟩) (by simp only []; omega)).trans Cg0_0.out)
  have Cg0_1 := Lib.hid ((hbel.cell (p := ⟨w8.heap.size, 1, none⟩) (by simp only []; omega)).trans Cg0_1.out)
  have Ow0 := Lib.hid (show OwD w17 w3.heap.size wA0 wc0 U0 from OwD.below Ow0.out hbel)
  clear hbel
  have v20 := Ca0_0.out
  have v21 := Ca0_1.out
  have v22 := Ca0_2.out
  go_wp2_with fail
  go_at_call 56
  clear v20 v21 v22
  refine (toPlan_any w.heap.size A0 B0 c0 d0 p0 w17 hl0 ho0 (by omega) (H0.out.below HB.out)).mono ?_
  rintro e w18 ⟨zA0, zB0, zc0, zd0, rfl, hown, hbel⟩
  have Oz0' := Lib.hid hown
  clear hown
  have hsw18 : w17.heap.size ≤ w18.heap.size := hbel.size
  have HB := Lib.hid (HB.out.trans (hbel.mono (by omega)))
  have Ca0_0 := Lib.hid ((hbel.cell (p := ⟨w.heap.size, 0, none⟩) (by simp only []; omega)).trans Ca0_0.out)
  have Ca0_1 := Lib.hid ((hbel.cell (p := ⟨w.heap.size, 1, none⟩) (by simp only []; omega)).trans Ca0_1.out)
  have Ca0_2 := Lib.hid ((hbel.cell (p := ⟨w.heap.size, 2, none⟩) (by simp only []; omega)).trans Ca0_2.out)
  have Cw0_0 := Lib.hid ((hbel.cell (p := ⟨w4.heap.size, 0, none⟩) (by simp only []; omega)).trans Cw0_0.out)
  have Cw0_1 := Lib.hid ((hbel.cell (p := ⟨w4.heap.size, 1, none⟩) (by simp only []; omega)).trans Cw0_1.out)
  have Cg0_0 := Lib.hid ((hbel.cell (p := ⟨w8.heap.size, 0, none⟩) (by simp only []; omega)).trans Cg0_0.out)
  have Cg0_1 := Lib.hid ((hbel.cell (p := ⟨w8.heap.size, 1, none⟩) (by simp only []; omega)).trans Cg0_1.out)
  have Ow0 := Lib.hid (show OwD w18 w3.heap.size wA0 wc0 U0 from OwD.below Ow0.out hbel)
  have HBM := Lib.hid (HBM.out.trans (hbel.mono (by omega)))
  clear hbel
  have Oz0 := Lib.hid (show OwP w18 w17.heap.size zA0 zB0 zc0 zd0 p0 from Oz0'.out)
  have Uz0 := Lib.hid (show (∀ k, (Value.slice zA0 p0.s.length zc0).ownBlock = some k → k < w18.heap.size) ∧ (∀ k, (Value.slice zB0 p0.o.length zd0).ownBlock = some k → k < w18.heap.size) from ⟨fun k hk => (own_block (Oz0.out).1 k hk).2, fun k hk => (own_block (Oz0.out).2 k hk).2⟩)
  clear Oz0'
  go_wp2_with fail
  go_at_call 57
  refine (HIMPL.out w18 zA0 zB0 zc0 zd0  (Oz0.out).rd).mono ?_
  rintro e w19 ⟨hA0, hc0, rfl, hown0, hbel⟩
  have Oh0' := Lib.hid hown0
  clear hown0
  have hsw19 : w18.heap.size ≤ w19.heap.size := hbel.size
  have HB := Lib.hid (HB.out.trans (hbel.mono (by omega)))
  have Ca0_0 := Lib.hid ((hbel.cell (p := ⟨w.heap.size, 0, none⟩) (by simp only []; omega)).trans Ca0_0.out)
  have Ca0_1 := Lib.hid ((hbel.cell (p := ⟨w.heap.size, 1, none⟩) (by simp only []; omega)).trans Ca0_1.out)
  have Ca0_2 := Lib.hid ((hbel.cell (p := ⟨w.heap.size, 2, none⟩) (by simp only []; omega)).trans Ca0_2.out)
  have Cw0_0 := Lib.hid ((hbel.cell (p := ⟨w4.heap.size, 0, none⟩) (by simp only []; omega)).trans Cw0_0.out)
  have Cw0_1 := Lib.hid ((hbel.cell (p := ⟨w4.heap.size, 1, none⟩) (by simp only []; omega)).trans Cw0_1.out)
  have Cg0_0 := Lib.hid ((hbel.cell (p := ⟨w8.heap.size, 0, none⟩) (by simp only []; omega)).trans Cg0_0.out)
  have Cg0_1 := Lib.hid ((hbel.cell (p := ⟨w8.heap.size, 1, none⟩) (by simp only []; omega)).trans Cg0_1.out)
  have Ow0 := Lib.hid (show OwD w19 w3.heap.size wA0 wc0 U0 from OwD.below Ow0.out hbel)
  have Oz0 := Lib.hid (show OwP w19 w17.heap.size zA0 zB0 zc0 zd0 p0 from OwP.below Oz0.out hbel)
  have HBM := Lib.hid (HBM.out.trans (hbel.mono (by omega)))
  clear hbel
  have Oh0 := Lib.hid (show OwD w19 w18.heap.size hA0 hc0 U0 from Oh0'.out)
  have Uh0 := Lib.hid (show ∀ k, (Value.slice hA0 U0.ops.length hc0).ownBlock = some k → k < w19.heap.size from fun k hk => (own_block Oh0.out k hk).2)
  clear Oh0'
  have v23 := cell_kept Cw0_0.out
  have v24 := cell_kept Cw0_1.out
  go_wp2_with fail
  go_at_call 23
  clear v23 v24
  generalize hww20 : World.alloc w19 _ = w20
  obtain ⟨x0', x1', hxw20, hbx⟩ := bx2 hww20
  clear hww20
  have hxP := hxw20
  have hsw20 : w19.heap.size ≤ w20.heap.size := hbx.size
  have HB := Lib.hid (HB.out.trans (hbx.mono (by omega)))
  have Ca0_0 := Lib.hid ((hbx.cell (p := ⟨w.heap.size, 0, none⟩) (by simp only []; omega)).trans Ca0_0.out)
  have Ca0_1 := Lib.hid ((hbx.cell (p := ⟨w.heap.size, 1, none⟩) (by simp only []; omega)).trans Ca0_1.out)
  have Ca0_2 := Lib.hid ((hbx.cell (p := ⟨w.heap.size, 2, none⟩) (by simp only []; omega)).trans Ca0_2.out)
  have Cw0_0 := Lib.hid ((hbx.cell (p := ⟨w4.heap.size, 0, none⟩) (by simp only []; omega)).trans Cw0_0.out)
  have Cw0_1 := Lib.hid ((hbx.cell (p := ⟨w4.heap.size, 1, none⟩) (by simp only []; omega)).trans Cw0_1.out)
  have Cg0_0 := Lib.hid ((hbx.cell (p := ⟨w8.heap.size, 0, none⟩) (by simp only []; omega)).trans Cg0_0.out)
  have Cg0_1 := Lib.hid ((hbx.cell (p := ⟨w8.heap.size, 1, none⟩) (by simp only []; omega)).trans Cg0_1.out)
  have Ow0 := Lib.hid (show OwD w20 w3.heap.size wA0 wc0 U0 from OwD.below Ow0.out hbx)
  have Oz0 := Lib.hid (show OwP w20 w17.heap.size zA0 zB0 zc0 zd0 p0 from OwP.below Oz0.out hbx)
  have Oh0 := Lib.hid (show OwD w20 w18.heap.size hA0 hc0 U0 from OwD.below Oh0.out hbx)
  have HBM := Lib.hid (HBM.out.trans (hbx.mono (by omega)))
  clear hbx
  have Ch0_0 := Lib.hid x0'
  have Ch0_1 := Lib.hid x1'
  clear x0' x1'
  refine (eqCode_refl w20.heap.size w20.heap.size hA0 wA0 hc0 wc0 U0 w20 (by omega) (Nat.le_refl _) (Nat.le_refl _) (Oh0.out).rd (Ow0.out).rd).mono ?_
  rintro e w21 ⟨rfl, hbel⟩
  have hsw21 : w20.heap.size ≤ w21.heap.size := hbel.size
  have HB := Lib.hid (HB.out.trans (hbel.mono (by omega)))
  have Ca0_0 := Lib.hid ((hbel.cell (p := ⟨w.heap.size, 0, none⟩) (by simp only []; omega)).trans Ca0_0.out)
  have Ca0_1 := Lib.hid ((hbel.cell (p := ⟨w.heap.size, 1, none⟩) (by simp only []; omega)).trans Ca0_1.out)
  have Ca0_2 := Lib.hid ((hbel.cell (p := ⟨w.heap.size, 2, none⟩) (by simp only []; omega)).trans Ca0_2.out)
  have Cw0_0 := Lib.hid ((hbel.cell (p := ⟨w4.heap.size, 0, none⟩) (by simp only []; omega)).trans Cw0_0.out)
  have Cw0_1 := Lib.hid ((hbel.cell (p := ⟨w4.heap.size, 1, none⟩) (by simp only []; omega)).trans Cw0_1.out)
  have Cg0_0 := Lib.hid ((hbel.cell (p := ⟨w8.heap.size, 0, none⟩) (by simp only []; omega)).trans Cg0_0.out)
  have Cg0_1 := Lib.hid ((hbel.cell (p := ⟨w8.heap.size, 1, none⟩) (by simp only []; omega)).trans Cg0_1.out)
  have Ch0_0 := Lib.hid ((hbel.cell (p := ⟨w19.heap.size, 0, none⟩) (by simp only []; omega)).trans Ch0_0.out)
  have Ch0_1 := Lib.hid ((hbel.cell (p := ⟨w19.heap.size, 1, none⟩) (by simp only []; omega)).trans Ch0_1.out)
  have Ow0 := Lib.hid (show OwD w21 w3.heap.size wA0 wc0 U0 from OwD.below Ow0.out hbel)
  have Oz0 := Lib.hid (show OwP w21 w17.heap.size zA0 zB0 zc0 zd0 p0 from OwP.below Oz0.out hbel)
  have Oh0 := Lib.hid (show OwD w21 w18.heap.size hA0 hc0 U0 from OwD.below Oh0.out hbel)
  have HBM := Lib.hid (HBM.out.trans (hbel.mono (by omega)))
  clear hbel
  have v25 := Cg0_0.out
  have v26 := Cg0_1.out
  go_wp2_with fail
  go_at_call 38
  clear v25 v26
  refine (heldCode_any w16.heap.size gA0 gc0 U0.ops.length U0.out 1 w21 (by omega) (by omega) (by omega) (by omega) (HM.out.below HBM.out)).mono ?_
  rintro e w22 ⟨rfl, hbel⟩
  have hsw22 : w21.heap.size ≤ w22.heap.size := hbel.size
  have HB := Lib.hid (HB.out.trans (hbel.mono (by omega)))
  have Ca0_0 := Lib.hid ((hbel.cell (p := ⟨w.heap.size, 0, none⟩) (by simp only []; omega)).trans Ca0_0.out)
  have Ca0_1 := Lib.hid ((hbel.cell (p := ⟨w.heap.size, 1, none⟩) (by simp only []; omega)).trans Ca0_1.out)
  have Ca0_2 := Lib.hid ((hbel.cell (p := ⟨w.heap.size, 2, none⟩) (by simp only []; omega)).trans Ca0_2.out)
  have Cw0_0 := Lib.hid ((hbel.cell (p := ⟨w4.heap.size, 0, none⟩) (by simp only []; omega)).trans Cw0_0.out)
  have Cw0_1 := Lib.hid ((hbel.cell (p := ⟨w4.heap.size, 1, none⟩) (by simp only []; omega)).trans Cw0_1.out)
  have Cg0_0 := Lib.hid ((hbel.cell (p := ⟨w8.heap.size, 0, none⟩) (by simp only []; omega)).trans Cg0_0.out)
  have Cg0_1 := Lib.hid ((hbel.cell (p := ⟨w8.heap.size, 1, none⟩) (by simp only []; omega)).trans Cg0_1.out)
  have Ch0_0 := Lib.hid ((hbel.cell (p := ⟨w19.heap.size, 0, none⟩) (by simp only []; omega)).trans Ch0_0.out)
  have Ch0_1 := Lib.hid ((hbel.cell (p := ⟨w19.heap.size, 1, none⟩) (by simp only []; omega)).trans Ch0_1.out)
  have Ow0 := Lib.hid (show OwD w22 w3.heap.size wA0 wc0 U0 from OwD.below Ow0.out hbel)
  have Oz0 := Lib.hid (show OwP w22 w17.heap.size zA0 zB0 zc0 zd0 p0 from OwP.below Oz0.out hbel)
  have Oh0 := Lib.hid (show OwD w22 w18.heap.size hA0 hc0 U0 from OwD.below Oh0.out hbel)
  have HBM := Lib.hid (HBM.out.trans (hbel.mono (by omega)))
  clear hbel
  go_wp2
  go_ret
  exact ⟨rfl, HB.out⟩

end Go.Proofs.Ytpopomcaknbhnaa
