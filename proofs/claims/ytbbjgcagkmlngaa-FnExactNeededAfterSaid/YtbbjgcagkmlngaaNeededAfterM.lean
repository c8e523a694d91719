/- The law FnExactNeededAfter holds: for every argument, valid or not, NeededAfter of the program answers as NeededAfter of the model, writes into no argument, and its answer owns its memory. No condition. -/
import Derived.Test.YtbbjgcagkmlngaaPV0
import Derived.Test.YtbbjgcagkmlngaaPV3
namespace Go.Proofs.Ytbbjgcagkmlngaa
open Go.ChangeShapes Go.WideShapes Go.ChangeAt Go.RowKit Go.Deep Go.Joins

set_option maxRecDepth 100000 in
set_option maxHeartbeats 8000000 in
theorem lawNeededAfter (A0 : Option Addr) (B0 : Option Addr) (c0 : Nat) (d0 : Nat) (p0 : Pl) (x1 : Int) (w : World) (hn0 : p0.s.length ≤ 9223372036854775807) (hm0 : p0.o.length ≤ 9223372036854775807) (hr0 : RdP w w.heap.size A0 B0 p0) :
    Calls Try.prog 6 #[.agg #[.int .i64 p0.n, .slice A0 p0.s.length c0, .slice B0 p0.o.length d0], .int .i64 x1] w fun e w' => e = .returned (.bool true) ∧ Below w.heap.size w w' := by
  have H0 := Lib.hid hr0
  clear hr0
  obtain ⟨sz0, hsz0⟩ : ∃ qx, szPl p0 1048576 = qx := ⟨_, rfl⟩
  have hsc0 := fun W => szPlan_any A0 B0 c0 d0 p0 1048576 W (by omega) (by omega) hn0 hm0
  rw [hsz0] at hsc0
  have SZ0 := Lib.hid hsc0
  have SX0 := Lib.hid hsz0
  clear hsz0 hsc0
  go_enter Try.func6, Try.ntmps6
  go_wp2_with fail
  go_at_call 32
  generalize hww1 : World.alloc w _ = w1
  obtain ⟨x0', x1', x2', hxw1, hbx⟩ := bx3 hww1
  clear hww1
  have hxP := hxw1
  have hsw1 : w.heap.size ≤ w1.heap.size := hbx.size
  have HB := Lib.hid hbx
  clear hbx
  have Ca0_0 := Lib.hid x0'
  have Ca0_1 := Lib.hid x1'
  have Ca0_2 := Lib.hid x2'
  clear x0' x1' x2'
  refine (SZ0.out _).mono ?_
  rintro e w2 ⟨rfl, hbel⟩
  have hsw2 : w1.heap.size ≤ w2.heap.size := hbel.size
  have HB := Lib.hid (HB.out.trans (hbel.mono (by omega)))
  have Ca0_0 := Lib.hid ((hbel.cell (p := ⟨w.heap.size, 0, none⟩) (by simp only []; omega)).trans Ca0_0.out)
  have Ca0_1 := Lib.hid ((hbel.cell (p := ⟨w.heap.size, 1, none⟩) (by simp only []; omega)).trans Ca0_1.out)
  have Ca0_2 := Lib.hid ((hbel.cell (p := ⟨w.heap.size, 2, none⟩) (by simp only []; omega)).trans Ca0_2.out)
  clear hbel
  by_cases hneg0 : sz0 < 0
  · go_wp2
    go_ret
    exact ⟨rfl, HB.out⟩
  obtain ⟨hl0, ho0⟩ := szPl_ok (p := p0) (by rw [SX0.out]; exact hneg0)
  obtain ⟨U0, hU0⟩ : ∃ gx, lvR p0 x1 = gx := ⟨_, rfl⟩
  have hUl0 : U0.length ≤ 1000 := by rw [← hU0]; exact lvR_le p0 x1
  obtain ⟨U1, hU1⟩ : ∃ gx, lvG p0 x1 = gx := ⟨_, rfl⟩
  have hspec := fun (W : World) A0' B0' c0' d0' => specNeeded_any (World.heap W).size A0' B0' c0' d0' p0 x1 W (Nat.le_refl _) hl0 ho0
  have himpl := fun (W : World) A0' B0' c0' d0' => implNeeded_any (World.heap W).size A0' B0' c0' d0' p0 x1 W (Nat.le_refl _) hl0 ho0
  rw [hU0, hU1] at hspec himpl
  have HSPEC := Lib.hid hspec
  have HIMPL := Lib.hid himpl
  clear hU0 hU1 hspec himpl
  have v1 := Ca0_0.out
  have v2 := Ca0_1.out
  have v3 := Ca0_2.out
  go_wp2_with fail
  go_at_call 34
  clear v1 v2 v3
  refine (toPlan_any w.heap.size A0 B0 c0 d0 p0 w2 hl0 ho0 (by omega) (H0.out.below HB.out)).mono ?_
  rintro e w3 ⟨sA0, sB0, sc0, sd0, rfl, hown, hbel⟩
  have Os0' := Lib.hid hown
  clear hown
  have hsw3 : w2.heap.size ≤ w3.heap.size := hbel.size
  have HB := Lib.hid (HB.out.trans (hbel.mono (by omega)))
  have Ca0_0 := Lib.hid ((hbel.cell (p := ⟨w.heap.size, 0, none⟩) (by simp only []; omega)).trans Ca0_0.out)
  have Ca0_1 := Lib.hid ((hbel.cell (p := ⟨w.heap.size, 1, none⟩) (by simp only []; omega)).trans Ca0_1.out)
  have Ca0_2 := Lib.hid ((hbel.cell (p := ⟨w.heap.size, 2, none⟩) (by simp only []; omega)).trans Ca0_2.out)
  clear hbel
  have Os0 := Lib.hid (show OwP w3 w2.heap.size sA0 sB0 sc0 sd0 p0 from Os0'.out)
  have Us0 := Lib.hid (show (∀ k, (Value.slice sA0 p0.s.length sc0).ownBlock = some k → k < w3.heap.size) ∧ (∀ k, (Value.slice sB0 p0.o.length sd0).ownBlock = some k → k < w3.heap.size) from ⟨fun k hk => (own_block (Os0.out).1 k hk).2, fun k hk => (own_block (Os0.out).2 k hk).2⟩)
  clear Os0'
  go_wp2_with fail
  go_at_call 33
  refine (HSPEC.out w3 sA0 sB0 sc0 sd0 (own_cap (Os0.out).1) (Os0.out).rd).mono ?_
  rintro e w4 ⟨wA0, wc0, rfl, hown0, hbel⟩
  have Ow0' := Lib.hid hown0
  clear hown0
  have hsw4 : w3.heap.size ≤ w4.heap.size := hbel.size
  have HB := Lib.hid (HB.out.trans (hbel.mono (by omega)))
  have Ca0_0 := Lib.hid ((hbel.cell (p := ⟨w.heap.size, 0, none⟩) (by simp only []; omega)).trans Ca0_0.out)
  have Ca0_1 := Lib.hid ((hbel.cell (p := ⟨w.heap.size, 1, none⟩) (by simp only []; omega)).trans Ca0_1.out)
  have Ca0_2 := Lib.hid ((hbel.cell (p := ⟨w.heap.size, 2, none⟩) (by simp only []; omega)).trans Ca0_2.out)
  have Os0 := Lib.hid (show OwP w4 w2.heap.size sA0 sB0 sc0 sd0 p0 from OwP.below Os0.out hbel)
  clear hbel
  have Ow0 := Lib.hid (show OwI w4 w3.heap.size (.slice wA0 U0.length wc0) U0 from Ow0'.out)
  have Uw0 := Lib.hid (show ∀ k, (Value.slice wA0 U0.length wc0).ownBlock = some k → k < w4.heap.size from fun k hk => (own_block Ow0.out k hk).2)
  clear Ow0'
  have v4 := Ca0_0.out
  have v5 := Ca0_1.out
  have v6 := Ca0_2.out
  go_wp2_with fail
  go_at_call 34
  clear v4 v5 v6
  refine (toPlan_any w.heap.size A0 B0 c0 d0 p0 w4 hl0 ho0 (by omega) (H0.out.below HB.out)).mono ?_
  rintro e w5 ⟨xA0, xB0, xc0, xd0, rfl, hown, hbel⟩
  have Ox0' := Lib.hid hown
  clear hown
  have hsw5 : w4.heap.size ≤ w5.heap.size := hbel.size
  have HB := Lib.hid (HB.out.trans (hbel.mono (by omega)))
  have Ca0_0 := Lib.hid ((hbel.cell (p := ⟨w.heap.size, 0, none⟩) (by simp only []; omega)).trans Ca0_0.out)
  have Ca0_1 := Lib.hid ((hbel.cell (p := ⟨w.heap.size, 1, none⟩) (by simp only []; omega)).trans Ca0_1.out)
  have Ca0_2 := Lib.hid ((hbel.cell (p := ⟨w.heap.size, 2, none⟩) (by simp only []; omega)).trans Ca0_2.out)
  have Ow0 := Lib.hid (show OwI w5 w3.heap.size (.slice wA0 U0.length wc0) U0 from OwI.below Ow0.out hbel)
  clear hbel
  have Ox0 := Lib.hid (show OwP w5 w4.heap.size xA0 xB0 xc0 xd0 p0 from Ox0'.out)
  have Ux0 := Lib.hid (show (∀ k, (Value.slice xA0 p0.s.length xc0).ownBlock = some k → k < w5.heap.size) ∧ (∀ k, (Value.slice xB0 p0.o.length xd0).ownBlock = some k → k < w5.heap.size) from ⟨fun k hk => (own_block (Ox0.out).1 k hk).2, fun k hk => (own_block (Ox0.out).2 k hk).2⟩)
  clear Ox0'
  go_wp2_with fail
  go_at_call 35
  generalize hww6 : World.alloc w5 _ = w6
  obtain ⟨x0', x1', x2', hxw6, hbx⟩ := bx3 hww6
  clear hww6
  have hxP := hxw6
  have hsw6 : w5.heap.size ≤ w6.heap.size := hbx.size
  have HB := Lib.hid (HB.out.trans (hbx.mono (by omega)))
  have Ca0_0 := Lib.hid ((hbx.cell (p := ⟨w.heap.size, 0, none⟩) (by simp only []; omega)).trans Ca0_0.out)
  have Ca0_1 := Lib.hid ((hbx.cell (p := ⟨w.heap.size, 1, none⟩) (by simp only []; omega)).trans Ca0_1.out)
  have Ca0_2 := Lib.hid ((hbx.cell (p := ⟨w.heap.size, 2, none⟩) (by simp only []; omega)).trans Ca0_2.out)
  have Ow0 := Lib.hid (show OwI w6 w3.heap.size (.slice wA0 U0.length wc0) U0 from OwI.below Ow0.out hbx)
  have Ox0 := Lib.hid (show OwP w6 w4.heap.size xA0 xB0 xc0 xd0 p0 from OwP.below Ox0.out hbx)
  clear hbx
  have Cx0_0 := Lib.hid x0'
  have Cx0_1 := Lib.hid x1'
  have Cx0_2 := Lib.hid x2'
  clear x0' x1' x2'
  refine (HIMPL.out w6 xA0 xB0 xc0 xd0 (own_cap (Ox0.out).1) (Ox0.out).rd).mono ?_
  rintro e w7 ⟨gA0, gc0, rfl, hown0, hbel⟩
  have Og0' := Lib.hid hown0
  clear hown0
  have hsw7 : w6.heap.size ≤ w7.heap.size := hbel.size
  have HB := Lib.hid (HB.out.trans (hbel.mono (by omega)))
  have Ca0_0 := Lib.hid ((hbel.cell (p := ⟨w.heap.size, 0, none⟩) (by simp only []; omega)).trans Ca0_0.out)
  have Ca0_1 := Lib.hid ((hbel.cell (p := ⟨w.heap.size, 1, none⟩) (by simp only []; omega)).trans Ca0_1.out)
  have Ca0_2 := Lib.hid ((hbel.cell (p := ⟨w.heap.size, 2, none⟩) (by simp only []; omega)).trans Ca0_2.out)
  have Cx0_0 := Lib.hid ((hbel.cell (p := ⟨w5.heap.size, 0, none⟩) (by simp only []; omega)).trans Cx0_0.out)
  have Cx0_1 := Lib.hid ((hbel.cell (p := ⟨w5.heap.size, 1, none⟩) (by simp only []; omega)).trans Cx0_1.out)
  have Cx0_2 := Lib.hid ((hbel.cell (p := ⟨w5.heap.size, 2, none⟩) (by simp only []; omega)).trans Cx0_2.out)
  have Ow0 := Lib.hid (show OwI w7 w3.heap.size (.slice wA0 U0.length wc0) U0 from OwI.below Ow0.out hbel)
  have Ox0 := Lib.hid (show OwP w7 w4.heap.size xA0 xB0 xc0 xd0 p0 from OwP.below Ox0.out hbel)
  clear hbel
  have Og0 := Lib.hid (show OwI w7 w6.heap.size (.slice gA0 U0.length gc0) U0 from Og0'.out)
  have Ug0 := Lib.hid (show ∀ k, (Value.slice gA0 U0.length gc0).ownBlock = some k → k < w7.heap.size from fun k hk => (own_block Og0.out k hk).2)
  clear Og0'
  go_wp2_with fail
  go_at_call 29
  have hE := eqIntS_any w7.heap.size w7.heap.size gA0 wA0 gc0 wc0 U0 U0 w7 (by omega) (by omega) (Og0.out).rd (Ow0.out).rd
  rw [eqI_refl] at hE
  refine hE.mono ?_
  rintro e w8 ⟨rfl, hdr⟩
  clear hE
  have hbel := hdr.below w7.heap.size
  clear hdr
  have hsw8 : w7.heap.size ≤ w8.heap.size := hbel.size
  have HB := Lib.hid (HB.out.trans (hbel.mono (by omega)))
  have Ca0_0 := Lib.hid ((hbel.cell (p := ⟨w.heap.size, 0, none⟩) (by simp only []; omega)).trans Ca0_0.out)
  have Ca0_1 := Lib.hid ((hbel.cell (p := ⟨w.heap.size, 1, none⟩) (by simp only []; omega)).trans Ca0_1.out)
  have Ca0_2 := Lib.hid ((hbel.cell (p := ⟨w.heap.size, 2, none⟩) (by simp only []; omega)).trans Ca0_2.out)
  have Cx0_0 := Lib.hid ((hbel.cell (p := ⟨w5.heap.size, 0, none⟩) (by simp only []; omega)).trans Cx0_0.out)
  have Cx0_1 := Lib.hid ((hbel.cell (p := ⟨w5.heap.size, 1, none⟩) (by simp only []; omega)).trans Cx0_1.out)
  have Cx0_2 := Lib.hid ((hbel.cell (p := ⟨w5.heap.size, 2, none⟩) (by simp only []; omega)).trans Cx0_2.out)
  have Ow0 := Lib.hid (show OwI w8 w3.heap.size (.slice wA0 U0.length wc0) U0 from OwI.below Ow0.out hbel)
  have Ox0 := Lib.hid (show OwP w8 w4.heap.size xA0 xB0 xc0 xd0 p0 from OwP.below Ox0.out hbel)
  have Og0 := Lib.hid (show OwI w8 w6.heap.size (.slice gA0 U0.length gc0) U0 from OwI.below Og0.out hbel)
  clear hbel
  go_wp2
  have Fx0_0 := Lib.hid (show ∀ x, Below w8.heap.size w8 x → x.cell? ⟨w5.heap.size, 0, none⟩ = some (.int .i64 p0.n) from fun x hx => (hx.cell (p := ⟨w5.heap.size, 0, none⟩) (by simp only []; omega)).trans Cx0_0.out)
  have Fx0_1 := Lib.hid (show ∀ x, Below w8.heap.size w8 x → x.cell? ⟨w5.heap.size, 1, none⟩ = some (.slice xA0 p0.s.length xc0) from fun x hx => (hx.cell (p := ⟨w5.heap.size, 1, none⟩) (by simp only []; omega)).trans Cx0_1.out)
  have Fx0_2 := Lib.hid (show ∀ x, Below w8.heap.size w8 x → x.cell? ⟨w5.heap.size, 2, none⟩ = some (.slice xB0 p0.o.length xd0) from fun x hx => (hx.cell (p := ⟨w5.heap.size, 2, none⟩) (by simp only []; omega)).trans Cx0_2.out)
  have Fa0_0 := Lib.hid (show ∀ x, Below w8.heap.size w8 x → x.cell? ⟨w.heap.size, 0, none⟩ = some (.int .i64 p0.n) from fun x hx => (hx.cell (p := ⟨w.heap.size, 0, none⟩) (by simp only []; omega)).trans Ca0_0.out)
  have Fa0_1 := Lib.hid (show ∀ x, Below w8.heap.size w8 x → x.cell? ⟨w.heap.size, 1, none⟩ = some (.slice A0 p0.s.length c0) from fun x hx => (hx.cell (p := ⟨w.heap.size, 1, none⟩) (by simp only []; omega)).trans Ca0_1.out)
  have Fa0_2 := Lib.hid (show ∀ x, Below w8.heap.size w8 x → x.cell? ⟨w.heap.size, 2, none⟩ = some (.slice B0 p0.o.length d0) from fun x hx => (hx.cell (p := ⟨w.heap.size, 2, none⟩) (by simp only []; omega)).trans Ca0_2.out)
  have SD := Lib.hid (show Below w8.heap.size w8 w8.drew from (Below.refl _ _).drew)
  refine wp_region_T (fun x : World => Below w8.heap.size w8 x) [0, 1, 4] [0, 1] (.ls 0 (.ls 1 (.hv 2 (.hv 3 (.lp 4 (.done)))))) (by kernel_rfl) (by kernel_rfl) ?_
  refine T_ls1 (v := .agg #[.int .i64 p0.n, .slice xA0 p0.s.length xc0, .slice xB0 p0.o.length xd0]) rfl rfl SD.out (fun x hx => (by have h1 := Fx0_0.out x hx; have h2 := Fx0_1.out x hx; have h3 := Fx0_2.out x hx; go_simp)) (fun K hK => ?_)
  (go_simp; refine hK _ ?_; clear hK K)
  refine T_ls1 (v := .agg #[.int .i64 p0.n, .slice A0 p0.s.length c0, .slice B0 p0.o.length d0]) rfl rfl SD.out (fun x hx => (by have h1 := Fa0_0.out x hx; have h2 := Fa0_1.out x hx; have h3 := Fa0_2.out x hx; go_simp)) (fun K hK => ?_)
  (go_simp; refine hK _ ?_; clear hK K)
  refine T_hvS rfl (fun K hK => ?_)
  go_simp
  go_at_call 34
  generalize hwd : w8.drew = w9 at SD ⊢
  clear hwd
  have hbd := SD.out
  have hsw9 : w8.heap.size ≤ w9.heap.size := hbd.size
  have HB := Lib.hid (HB.out.trans (hbd.mono (by omega)))
  have Ca0_0 := Lib.hid ((hbd.cell (p := ⟨w.heap.size, 0, none⟩) (by simp only []; omega)).trans Ca0_0.out)
  have Ca0_1 := Lib.hid ((hbd.cell (p := ⟨w.heap.size, 1, none⟩) (by simp only []; omega)).trans Ca0_1.out)
  have Ca0_2 := Lib.hid ((hbd.cell (p := ⟨w.heap.size, 2, none⟩) (by simp only []; omega)).trans Ca0_2.out)
  have Cx0_0 := Lib.hid ((hbd.cell (p := ⟨w5.heap.size, 0, none⟩) (by simp only []; omega)).trans Cx0_0.out)
  have Cx0_1 := Lib.hid ((hbd.cell (p := ⟨w5.heap.size, 1, none⟩) (by simp only []; omega)).trans Cx0_1.out)
  have Cx0_2 := Lib.hid ((hbd.cell (p := ⟨w5.heap.size, 2, none⟩) (by simp only []; omega)).trans Cx0_2.out)
  have Ow0 := Lib.hid (show OwI w9 w3.heap.size (.slice wA0 U0.length wc0) U0 from OwI.below Ow0.out hbd)
  have Ox0 := Lib.hid (show OwP w9 w4.heap.size xA0 xB0 xc0 xd0 p0 from OwP.below Ox0.out hbd)
  have Og0 := Lib.hid (show OwI w9 w6.heap.size (.slice gA0 U0.length gc0) U0 from OwI.below Og0.out hbd)
  clear hbd
  have SBY := Lib.hid SD.out
  refine (toPlan_any w.heap.size A0 B0 c0 d0 p0 w9 hl0 ho0 (by omega) (H0.out.below HB.out)).mono ?_
  rintro e w10 ⟨yA0, yB0, yc0, yd0, rfl, hown, hbel⟩
  have Oy0' := Lib.hid hown
  clear hown
  have hsw10 : w9.heap.size ≤ w10.heap.size := hbel.size
  have HB := Lib.hid (HB.out.trans (hbel.mono (by omega)))
  have Ca0_0 := Lib.hid ((hbel.cell (p := ⟨w.heap.size, 0, none⟩) (by simp only []; omega)).trans Ca0_0.out)
  have Ca0_1 := Lib.hid ((hbel.cell (p := ⟨w.heap.size, 1, none⟩) (by simp only []; omega)).trans Ca0_1.out)
  have Ca0_2 := Lib.hid ((hbel.cell (p := ⟨w.heap.size, 2, none⟩) (by simp only []; omega)).trans Ca0_2.out)
  have Cx0_0 := Lib.hid ((hbel.cell (p := ⟨w5.heap.size, 0, none⟩) (by simp only []; omega)).trans Cx0_0.out)
  have Cx0_1 := Lib.hid ((hbel.cell (p := ⟨w5.heap.size, 1, none⟩) (by simp only []; omega)).trans Cx0_1.out)
  have Cx0_2 := Lib.hid ((hbel.cell (p := ⟨w5.heap.size, 2, none⟩) (by simp only []; omega)).trans Cx0_2.out)
  have Ow0 := Lib.hid (show OwI w10 w3.heap.size (.slice wA0 U0.length wc0) U0 from OwI.below Ow0.out hbel)
  have Ox0 := Lib.hid (show OwP w10 w4.heap.size xA0 xB0 xc0 xd0 p0 from OwP.below Ox0.out hbel)
  have Og0 := Lib.hid (show OwI w10 w6.heap.size (.slice gA0 U0.length gc0) U0 from OwI.below Og0.out hbel)
  have SBY := Lib.hid (SBY.out.trans (hbel.mono (by omega)))
  clear hbel
  have Oy0 := Lib.hid (show OwP w10 w9.heap.size yA0 yB0 yc0 yd0 p0 from Oy0'.out)
  have Uy0 := Lib.hid (show (∀ k, (Value.slice yA0 p0.s.length yc0).ownBlock = some k → k < w10.heap.size) ∧ (∀ k, (Value.slice yB0 p0.o.length yd0).ownBlock = some k → k < w10.heap.size) from ⟨fun k hk => (own_block (Oy0.out).1 k hk).2, fun k hk => (own_block (Oy0.out).2 k hk).2⟩)
  clear Oy0'
  go_simp
  refine hK _ _ (SBY.out) ?_
  clear hK K
  (refine T_hv rfl (by kernel_rfl) (fun K hK => ?_); go_simp)
  go_at_call 22
  have hE := eqPlan_any w10.heap.size w10.heap.size xA0 xB0 yA0 yB0 xc0 xd0 yc0 yd0 p0 p0 w10 (by omega) (by omega) (by omega) (by omega) (Nat.le_refl _) (Nat.le_refl _) (Ox0.out).rd (Oy0.out).rd
  rw [eqP_refl] at hE
  refine hE.mono ?_
  rintro e w11 ⟨rfl, hbel⟩
  clear hE
  have hsw11 : w10.heap.size ≤ w11.heap.size := hbel.size
  have HB := Lib.hid (HB.out.trans (hbel.mono (by omega)))
  have Ca0_0 := Lib.hid ((hbel.cell (p := ⟨w.heap.size, 0, none⟩) (by simp only []; omega)).trans Ca0_0.out)
  have Ca0_1 := Lib.hid ((hbel.cell (p := ⟨w.heap.size, 1, none⟩) (by simp only []; omega)).trans Ca0_1.out)
  have Ca0_2 := Lib.hid ((hbel.cell (p := ⟨w.heap.size, 2, none⟩) (by simp only []; omega)).trans Ca0_2.out)
  have Cx0_0 := Lib.hid ((hbel.cell (p := ⟨w5.heap.size, 0, none⟩) (by simp only []; omega)).trans Cx0_0.out)
  have Cx0_1 := Lib.hid ((hbel.cell (p := ⟨w5.heap.size, 1, none⟩) (by simp only []; omega)).trans Cx0_1.out)
  have Cx0_2 := Lib.hid ((hbel.cell (p := ⟨w5.heap.size, 2, none⟩) (by simp only []; omega)).trans Cx0_2.out)
  have Ow0 := Lib.hid (show OwI w11 w3.heap.size (.slice wA0 U0.length wc0) U0 from OwI.below Ow0.out hbel)
  have Ox0 := Lib.hid (show OwP w11 w4.heap.size xA0 xB0 xc0 xd0 p0 from OwP.below Ox0.out hbel)
  have Og0 := Lib.hid (show OwI w11 w6.heap.size (.slice gA0 U0.length gc0) U0 from OwI.below Og0.out hbel)
  have Oy0 := Lib.hid (show OwP w11 w9.heap.size yA0 yB0 yc0 yd0 p0 from OwP.below Oy0.out hbel)
  clear hbel
  (go_simp; refine hK _ _ ?_; clear hK K)
  (repeat (first | (refine T_lp rfl (fun K hK => ?_); go_simp; refine hK _ ?_; clear hK K) | (refine T_ls rfl rfl (fun K hK => ?_); go_simp; refine hK _ ?_; clear hK K)))
  refine T_done ?_
  have v7 := Cx0_0.out
  have v8 := Cx0_1.out
  have v9 := Cx0_2.out
  go_wp2_with fail
  go_at_call 24
  clear v7 v8 v9
  have hwm := markPlan_any (w4.heap.size) w5.heap.size xA0 xB0 xc0 xd0 p0 (1) w11 (by omega) (by omega) (by omega) (by omega) (by omega) (by omega) Ox0.out Ux0.out.1 Ux0.out.2
  refine hwm.mono ?_
  rintro e w12 ⟨rfl, hm1, hm2, hwn⟩
  clear hwm
  have Mx0 := Lib.hid (And.intro hm1 hm2)
  clear hm1 hm2
  have hsw12 : w11.heap.size ≤ w12.heap.size := hwn.1.size
  have HB := Lib.hid (HB.out.trans (hwn.1.mono (by omega)))
  have Ca0_0 := Lib.hid ((hwn.1.cell (p := ⟨w.heap.size, 0, none⟩) (by simp only []; omega)).trans Ca0_0.out)
  have Ca0_1 := Lib.hid ((hwn.1.cell (p := ⟨w.heap.size, 1, none⟩) (by simp only []; omega)).trans Ca0_1.out)
  have Ca0_2 := Lib.hid ((hwn.1.cell (p := ⟨w.heap.size, 2, none⟩) (by simp only []; omega)).trans Ca0_2.out)
  have Cx0_0 := Lib.hid ((World.cell?_of_block (a := ⟨w5.heap.size, 0, none⟩) (hwn.2 (w5.heap.size) (by omega) (by omega))).trans Cx0_0.out)
  have Cx0_1 := Lib.hid ((World.cell?_of_block (a := ⟨w5.heap.size, 1, none⟩) (hwn.2 (w5.heap.size) (by omega) (by omega))).trans Cx0_1.out)
  have Cx0_2 := Lib.hid ((World.cell?_of_block (a := ⟨w5.heap.size, 2, none⟩) (hwn.2 (w5.heap.size) (by omega) (by omega))).trans Cx0_2.out)
  have Ow0 := Lib.hid (show OwI w12 w3.heap.size (.slice wA0 U0.length wc0) U0 from own_win_lo Ow0.out hwn (fun k hk => Nat.lt_of_lt_of_le (Uw0.out k hk) (by omega)))
  have Og0 := Lib.hid (show OwI w12 w6.heap.size (.slice gA0 U0.length gc0) U0 from Win.own hwn Og0.out (by omega))
  clear hwn
  have hkk1 : ¬ (1 + 2 * (p0.s.length : Int) + (p0.o.length : Int) < 0) := by omega
  go_wp2_with fail
  go_at_call 29
  have hE := eqIntS_any w12.heap.size w12.heap.size gA0 wA0 gc0 wc0 U0 U0 w12 (by omega) (by omega) (Og0.out).rd (Ow0.out).rd
  rw [eqI_refl] at hE
  refine hE.mono ?_
  rintro e w13 ⟨rfl, hdr⟩
  clear hE
  have hbel := hdr.below w12.heap.size
  clear hdr
  have hsw13 : w12.heap.size ≤ w13.heap.size := hbel.size
  have HB := Lib.hid (HB.out.trans (hbel.mono (by omega)))
  have Ca0_0 := Lib.hid ((hbel.cell (p := ⟨w.heap.size, 0, none⟩) (by simp only []; omega)).trans Ca0_0.out)
  have Ca0_1 := Lib.hid ((hbel.cell (p := ⟨w.heap.size, 1, none⟩) (by simp only []; omega)).trans Ca0_1.out)
  have Ca0_2 := Lib.hid ((hbel.cell (p := ⟨w.heap.size, 2, none⟩) (by simp only []; omega)).trans Ca0_2.out)
  have Ow0 := Lib.hid (show OwI w13 w3.heap.size (.slice wA0 U0.length wc0) U0 from OwI.below Ow0.out hbel)
  have Og0 := Lib.hid (show OwI w13 w6.heap.size (.slice gA0 U0.length gc0) U0 from OwI.below Og0.out hbel)
  clear hbel
  go_wp2_with fail
  go_at_call 30
  refine (markIntS_any (w6.heap.size) gA0 gc0 U0 (1) w13 (by omega) (by omega) (by omega) Og0.out).mono ?_
  rintro e w14 ⟨rfl, hmk, hg⟩
  have hwn : Win w6.heap.size w7.heap.size w13 w14 := Win.of_grown hg (by omega) (fun k hk => ⟨(own_block Og0.out k hk).1, Ug0.out k hk⟩)
  clear hg
  have Mg0 := Lib.hid hmk
  clear hmk
  have hsw14 : w13.heap.size ≤ w14.heap.size := hwn.1.size
  have HB := Lib.hid (HB.out.trans (hwn.1.mono (by omega)))
  have Ca0_0 := Lib.hid ((hwn.1.cell (p := ⟨w.heap.size, 0, none⟩) (by simp only []; omega)).trans Ca0_0.out)
  have Ca0_1 := Lib.hid ((hwn.1.cell (p := ⟨w.heap.size, 1, none⟩) (by simp only []; omega)).trans Ca0_1.out)
  have Ca0_2 := Lib.hid ((hwn.1.cell (p := ⟨w.heap.size, 2, none⟩) (by simp only []; omega)).trans Ca0_2.out)
  have Ow0 := Lib.hid (show OwI w14 w3.heap.size (.slice wA0 U0.length wc0) U0 from own_win_lo Ow0.out hwn (fun k hk => Nat.lt_of_lt_of_le (Uw0.out k hk) (by omega)))
  clear hwn
  have hkm1 : ¬ (1 + (U0.length : Int) < 0) := by omega
  have HM := Lib.hid (own_rd_marks Mg0.out)
  have HBM := Lib.hid (Below.refl w14.heap.size w14)
  go_wp2_with fail
  go_at_call 31
  refine (heldIntS_any w14.heap.size gA0 gc0 U0.length 1 w14 (by omega) (by omega) (by omega) (HM.out.below HBM.out)).mono ?_
  rintro e w900 ⟨rfl, rfl⟩
  have v10 := Ca0_0.out
  have v11 := Ca0_1.out
  have v12 := Ca0_2.out
  go_wp2_with fail
  go_at_call 34
  clear v10 v11 v12
  refine (toPlan_any w.heap.size A0 B0 c0 d0 p0 w14 hl0 ho0 (by omega) (H0.out.below HB.out)).mono ?_
  rintro e w15 ⟨zA0, zB0, zc0, zd0, rfl, hown, hbel⟩
  have Oz0' := Lib.hid hown
  clear hown
  have hsw15 : w14.heap.size ≤ w15.heap.size := hbel.size
  have HB := Lib.hid (HB.out.trans (hbel.mono (by omega)))
  have Ca0_0 := Lib.hid ((hbel.cell (p := ⟨w.heap.size, 0, none⟩) (by simp only []; omega)).trans Ca0_0.out)
  have Ca0_1 := Lib.hid ((hbel.cell (p := ⟨w.heap.size, 1, none⟩) (by simp only []; omega)).trans Ca0_1.out)
  have Ca0_2 := Lib.hid ((hbel.cell (p := ⟨w.heap.size, 2, none⟩) (by simp only []; omega)).trans Ca0_2.out)
  have Ow0 := Lib.hid (show OwI w15 w3.heap.size (.slice wA0 U0.length wc0) U0 from OwI.below Ow0.out hbel)
  have HBM := Lib.hid (HBM.out.trans (hbel.mono (by omega)))
  clear hbel
  have Oz0 := Lib.hid (show OwP w15 w14.heap.size zA0 zB0 zc0 zd0 p0 from Oz0'.out)
  have Uz0 := Lib.hid (show (∀ k, (Value.slice zA0 p0.s.length zc0).ownBlock = some k → k < w15.heap.size) ∧ (∀ k, (Value.slice zB0 p0.o.length zd0).ownBlock = some k → k < w15.heap.size) from ⟨fun k hk => (own_block (Oz0.out).1 k hk).2, fun k hk => (own_block (Oz0.out).2 k hk).2⟩)
  clear Oz0'
  go_wp2_with fail
  go_at_call 35
  refine (HIMPL.out w15 zA0 zB0 zc0 zd0 (own_cap (Oz0.out).1) (Oz0.out).rd).mono ?_
  rintro e w16 ⟨hA0, hc0, rfl, hown0, hbel⟩
  have Oh0' := Lib.hid hown0
  clear hown0
  have hsw16 : w15.heap.size ≤ w16.heap.size := hbel.size
  have HB := Lib.hid (HB.out.trans (hbel.mono (by omega)))
  have Ca0_0 := Lib.hid ((hbel.cell (p := ⟨w.heap.size, 0, none⟩) (by simp only []; omega)).trans Ca0_0.out)
  have Ca0_1 := Lib.hid ((hbel.cell (p := ⟨w.heap.size, 1, none⟩) (by simp only []; omega)).trans Ca0_1.out)
  have Ca0_2 := Lib.hid ((hbel.cell (p := ⟨w.heap.size, 2, none⟩) (by simp only []; omega)).trans Ca0_2.out)
  have Ow0 := Lib.hid (show OwI w16 w3.heap.size (.slice wA0 U0.length wc0) U0 from OwI.below Ow0.out hbel)
  have Oz0 := Lib.hid (show OwP w16 w14.heap.size zA0 zB0 zc0 zd0 p0 from OwP.below Oz0.out hbel)
  have HBM := Lib.hid (HBM.out.trans (hbel.mono (by omega)))
  clear hbel
  have Oh0 := Lib.hid (show OwI w16 w15.heap.size (.slice hA0 U0.length hc0) U0 from Oh0'.out)
  have Uh0 := Lib.hid (show ∀ k, (Value.slice hA0 U0.length hc0).ownBlock = some k → k < w16.heap.size from fun k hk => (own_block Oh0.out k hk).2)
  clear Oh0'
  go_wp2_with fail
  go_at_call 29
  have hE := eqIntS_any w16.heap.size w16.heap.size hA0 wA0 hc0 wc0 U0 U0 w16 (by omega) (by omega) (Oh0.out).rd (Ow0.out).rd
  rw [eqI_refl] at hE
  refine hE.mono ?_
  rintro e w17 ⟨rfl, hdr⟩
  clear hE
  have hbel := hdr.below w16.heap.size
  clear hdr
  have hsw17 : w16.heap.size ≤ w17.heap.size := hbel.size
  have HB := Lib.hid (HB.out.trans (hbel.mono (by omega)))
  have Ca0_0 := Lib.hid ((hbel.cell (p := ⟨w.heap.size, 0, none⟩) (by simp only []; omega)).trans Ca0_0.out)
  have Ca0_1 := Lib.hid ((hbel.cell (p := ⟨w.heap.size, 1, none⟩) (by simp only []; omega)).trans Ca0_1.out)
  have Ca0_2 := Lib.hid ((hbel.cell (p := ⟨w.heap.size, 2, none⟩) (by simp only []; omega)).trans Ca0_2.out)
  have Ow0 := Lib.hid (show OwI w17 w3.heap.size (.slice wA0 U0.length wc0) U0 from OwI.below Ow0.out hbel)
  have Oz0 := Lib.hid (show OwP w17 w14.heap.size zA0 zB0 zc0 zd0 p0 from OwP.below Oz0.out hbel)
  have Oh0 := Lib.hid (show OwI w17 w15.heap.size (.slice hA0 U0.length hc0) U0 from OwI.below Oh0.out hbel)
  have HBM := Lib.hid (HBM.out.trans (hbel.mono (by omega)))
  clear hbel
  go_wp2_with fail
  go_at_call 31
  refine (heldIntS_any w14.heap.size gA0 gc0 U0.length 1 w17 (by omega) (by omega) (by omega) (HM.out.below HBM.out)).mono ?_
  rintro e w900 ⟨rfl, rfl⟩
  go_wp2
  go_ret
  exact ⟨rfl, HB.out⟩

set_option maxRecDepth 100000 in
theorem neededAfter_lifted (os : Os) (started : os.Started) (H : Type) (enc : TypeId × Value → H) :
    ReturnsInHanded {} Try.checked os 6 .any (Rows.fnExactNeededAfterSpec.pre6 enc Try.prog Try.f6 Rows.fnExactNeededAfterRow.domain false) (Rows.fnExactNeededAfterSpec.post enc Try.prog Try.f6 false true false false) := by
  refine returnsInHanded_of_change (C := Try.checked) own started (by kernel_rfl) Try.func6
    (ChangeSpec.witness6 (enc := enc) (C := Try.checked) false ⟨#[], #[.agg #[.int .i64 0, .slice none 0 0, .slice none 0 0], .int .i64 0], []⟩ 8 (by kernel_rfl) (by kernel_rfl) (by kernel_rfl) (by kernel_rfl)) ?_
  intro W base args ds gs before hval0 hW _ _
  have hval : ∀ (j : Nat) t v, Try.f6.params[j]? = some t → args[j]? = some v → Value.okWide Try.prog W .any base t v := hval0
  have hW' := hW
  obtain ⟨p, q, hA0, hV, rfl, hfz, hnd⟩ := hW
  have hA : DataW.TrodAll enc Try.prog W 0 (fun _ => true) true Try.f6.params.toList args.toList ds p := hA0
  rw [Try.params6] at hA hval
  obtain ⟨v0, v1, d0, d1, pp0, pp1, rfl, rfl, rfl, h0, h1⟩ := trodAll_two hA
  obtain ⟨rfl, rfl⟩ := trodVars_none hV
  have h0k := h0
  have h1k := h1
  obtain ⟨A0, B0, c0, d0', pl0, hx0, ln0, lo0, hrd0⟩ := open_plan (hval 0 50 v0 rfl rfl) h0
  obtain ⟨x1, hx1, _, _, _⟩ := open_int Try.underlying3 (hval 1 3 v1 rfl rfl) h1
  subst hx0
  subst hx1
  clear hA0 hval0
  simp only [List.append_nil] at hW'
  refine (lawNeededAfter A0 B0 c0 d0' pl0 x1 W ln0 lo0 hrd0).mono fun e W' ⟨he, hb⟩ => ?_
  subst he
  have hlt : ∀ x ∈ pp0 ++ pp1, x.block < W.heap.size := fun x hx => by simpa using hW'.lt x hx
  refine ⟨_, rfl, _, _, _, [], pp0 ++ pp1, [], hW', trodAll_mk1 (shut_bool Try.underlying4 _), ?_, rfl, hb.frame _, fun h => by cases h⟩
  exact trodAll_mk2 (Below.trod laidOut (by kernel_rfl) (of_decide_eq_true (by kernel_rfl)) h0k hb fun x hx => hlt x (List.mem_append_left _ hx)) (Below.trod laidOut (by kernel_rfl) (of_decide_eq_true (by kernel_rfl)) h1k hb fun x hx => hlt x (List.mem_append_right _ hx))

theorem neededAfter_holds : Rows.FnExactNeededAfterSaid :=
  OpenClaim.holds_of_wide 6 Try.f6 rfl rfl rfl rfl rfl rfl rfl ⟨rfl, rfl, rfl, rfl, rfl⟩ rfl rfl rfl rfl rfl (by kernel_rfl) Try.func6 (by kernel_rfl)
    (of_decide_eq_true (by kernel_rfl)) (by unfold Func.isWrapper; rw [if_neg (of_decide_eq_false (by kernel_rfl))]; exact ⟨rfl, rfl⟩)
    (fun os started H enc _ => neededAfter_lifted os started H enc)
end Go.Proofs.Ytbbjgcagkmlngaa
