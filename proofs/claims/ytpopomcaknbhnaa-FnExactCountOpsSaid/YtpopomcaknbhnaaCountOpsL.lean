/- The walk of the law FnExactCountOps. -/
import Derived.Test.YtpopomcaknbhnaaGa6
import Derived.Test.YtpopomcaknbhnaaH8b
import Derived.Test.YtpopomcaknbhnaaH8o
namespace Go.Proofs.Ytpopomcaknbhnaa
open Go.ChangeShapes Go.WideShapes Go.ChangeAt Go.RowKit Go.Deep Go.Joins

set_option maxRecDepth 100000 in
set_option maxHeartbeats 8000000 in
theorem lawCountOps (A0 : Option Addr) (c0 : Nat) (y0 : Cd) (w : World) (hn0 : y0.ops.length ≤ 9223372036854775807) (hr0 : RdD w w.heap.size A0 y0) :
    Calls Try.prog 6 #[.agg #[.slice A0 y0.ops.length c0, .int .i64 y0.out]] w fun e w' => e = .returned (.bool true) ∧ Below w.heap.size w w' := by
  have H0 := Lib.hid hr0
  clear hr0
  obtain ⟨sz0, hsz0⟩ : ∃ qx, szR 1048576 y0.ops.length = qx := ⟨_, rfl⟩
  have hsc0 := fun W => szCode_any A0 c0 y0 1048576 W (by omega) (by omega) hn0
  rw [hsz0] at hsc0
  have SZ0 := Lib.hid hsc0
  have SX0 := Lib.hid hsz0
  clear hsz0 hsc0
  go_enter Try.func6, Try.ntmps6
  go_wp2_with fail
  go_at_call 19
  generalize hww1 : World.alloc w _ = w1
  obtain ⟨x0', x1', hxw1, hbx⟩ := bx2 hww1
  clear hww1
  have hxP := hxw1
  have hsw1 : w.heap.size ≤ w1.heap.size := hbx.size
  have HB := Lib.hid hbx
  clear hbx
  have Ca0_0 := Lib.hid x0'
  have Ca0_1 := Lib.hid x1'
  clear x0' x1'
  refine (SZ0.out _).mono ?_
  rintro e w2 ⟨rfl, hbel⟩
  have hsw2 : w1.heap.size ≤ w2.heap.size := hbel.size
  have HB := Lib.hid (HB.out.trans (hbel.mono (by omega)))
  have Ca0_0 := Lib.hid ((hbel.cell (p := ⟨w.heap.size, 0, none⟩) (by simp only []; omega)).trans Ca0_0.out)
  have Ca0_1 := Lib.hid ((hbel.cell (p := ⟨w.heap.size, 1, none⟩) (by simp only []; omega)).trans Ca0_1.out)
  clear hbel
  by_cases hneg0 : sz0 < 0
  · go_wp2
    go_ret
    exact ⟨rfl, HB.out⟩
  have hl0 := szR_ok (n := y0.ops.length) (left := 1048576) (by omega) (by rw [SX0.out]; exact hneg0)
  obtain ⟨U0, hU0⟩ : ∃ gx, cd4 y0 = gx := ⟨_, rfl⟩
  have hUl0 : U0.length ≤ 1000 := by rw [← hU0]; exact cd4_le _
  obtain ⟨U1, hU1⟩ : ∃ gx, cdB y0 = gx := ⟨_, rfl⟩
  have hspec := fun (W : World) A0' c0' => specCount8_any (World.heap W).size A0' c0' y0 W (Nat.le_refl _) hl0
  have himpl := fun (W : World) A0' c0' => implCount8_any (World.heap W).size A0' c0' y0 W (Nat.le_refl _) hl0
  rw [hU0, hU1] at hspec himpl
  have HSPEC := Lib.hid hspec
  have HIMPL := Lib.hid himpl
  clear hU0 hU1 hspec himpl
  have v1 := Ca0_0.out
  have v2 := Ca0_1.out
  go_wp2_with fail
  go_at_call 21
  clear v1 v2
  refine (toCode_any w.heap.size A0 c0 y0 w2 hl0 (by omega) (H0.out.below HB.out)).mono ?_
  rintro e w3 ⟨sA0, sc0, rfl, hown, hbel⟩
  have Os0' := Lib.hid hown
  clear hown
  have hsw3 : w2.heap.size ≤ w3.heap.size := hbel.size
  have HB := Lib.hid (HB.out.trans (hbel.mono (by omega)))
  have Ca0_0 := Lib.hid ((hbel.cell (p := ⟨w.heap.size, 0, none⟩) (by simp only []; omega)).trans Ca0_0.out)
  have Ca0_1 := Lib.hid ((hbel.cell (p := ⟨w.heap.size, 1, none⟩) (by simp only []; omega)).trans Ca0_1.out)
  clear hbel
  have Os0 := Lib.hid (show OwD w3 w2.heap.size sA0 sc0 y0 from Os0'.out)
  have Us0 := Lib.hid (show ∀ k, (Value.slice sA0 y0.ops.length sc0).ownBlock = some k → k < w3.heap.size from fun k hk => (own_block Os0.out k hk).2)
  clear Os0'
  go_wp2_with fail
  go_at_call 32
  refine (HSPEC.out w3 sA0 sc0 (Os0.out).cap (Os0.out).rd).mono ?_
  rintro e w4 ⟨wA0, wc0, rfl, hown0, hbel⟩
  have Ow0' := Lib.hid hown0
  clear hown0
  have hsw4 : w3.heap.size ≤ w4.heap.size := hbel.size
  have HB := Lib.hid (HB.out.trans (hbel.mono (by omega)))
  have Ca0_0 := Lib.hid ((hbel.cell (p := ⟨w.heap.size, 0, none⟩) (by simp only []; omega)).trans Ca0_0.out)
  have Ca0_1 := Lib.hid ((hbel.cell (p := ⟨w.heap.size, 1, none⟩) (by simp only []; omega)).trans Ca0_1.out)
  have Os0 := Lib.hid (show OwD w4 w2.heap.size sA0 sc0 y0 from OwD.below Os0.out hbel)
  clear hbel
  have Ow0 := Lib.hid (show OwI w4 w3.heap.size (.slice wA0 U0.length wc0) U0 from Ow0'.out)
  have Uw0 := Lib.hid (show ∀ k, (Value.slice wA0 U0.length wc0).ownBlock = some k → k < w4.heap.size from fun k hk => (own_block Ow0.out k hk).2)
  clear Ow0'
  have v3 := Ca0_0.out
  have v4 := Ca0_1.out
  go_wp2_with fail
  go_at_call 21
  clear v3 v4
  refine (toCode_any w.heap.size A0 c0 y0 w4 hl0 (by omega) (H0.out.below HB.out)).mono ?_
  rintro e w5 ⟨xA0, xc0, rfl, hown, hbel⟩
  have Ox0' := Lib.hid hown
  clear hown
  have hsw5 : w4.heap.size ≤ w5.heap.size := hbel.size
  have HB := Lib.hid (HB.out.trans (hbel.mono (by omega)))
  have Ca0_0 := Lib.hid ((hbel.cell (p := ⟨w.heap.size, 0, none⟩) (by simp only []; omega)).trans Ca0_0.out)
  have Ca0_1 := Lib.hid ((hbel.cell (p := ⟨w.heap.size, 1, none⟩) (by simp only []; omega)).trans Ca0_1.out)
  have Ow0 := Lib.hid (show OwI w5 w3.heap.size (.slice wA0 U0.length wc0) U0 from OwI.below Ow0.out hbel)
  clear hbel
  have Ox0 := Lib.hid (show OwD w5 w4.heap.size xA0 xc0 y0 from Ox0'.out)
  have Ux0 := Lib.hid (show ∀ k, (Value.slice xA0 y0.ops.length xc0).ownBlock = some k → k < w5.heap.size from fun k hk => (own_block Ox0.out k hk).2)
  clear Ox0'
  go_wp2_with fail
  go_at_call 33
  generalize hww6 : World.alloc w5 _ = w6
  obtain ⟨x0', x1', hxw6, hbx⟩ := bx2 hww6
  clear hww6
  have hxP := hxw6
  have hsw6 : w5.heap.size ≤ w6.heap.size := hbx.size
  have HB := Lib.hid (HB.out.trans (hbx.mono (by omega)))
  have Ca0_0 := Lib.hid ((hbx.cell (p := ⟨w.heap.size, 0, none⟩) (by simp only []; omega)).trans Ca0_0.out)
  have Ca0_1 := Lib.hid ((hbx.cell (p := ⟨w.heap.size, 1, none⟩) (by simp only []; omega)).trans Ca0_1.out)
  have Ow0 := Lib.hid (show OwI w6 w3.heap.size (.slice wA0 U0.length wc0) U0 from OwI.below Ow0.out hbx)
  have Ox0 := Lib.hid (show OwD w6 w4.heap.size xA0 xc0 y0 from OwD.below Ox0.out hbx)
  clear hbx
  have Cx0_0 := Lib.hid x0'
  have Cx0_1 := Lib.hid x1'
  clear x0' x1'
  refine (HIMPL.out w6 xA0 xc0 (Ox0.out).cap (Ox0.out).rd).mono ?_
  rintro e w7 ⟨gA0, gc0, rfl, hown0, hbel⟩
  have Og0' := Lib.hid hown0
  clear hown0
  have hsw7 : w6.heap.size ≤ w7.heap.size := hbel.size
  have HB := Lib.hid (HB.out.trans (hbel.mono (by omega)))
  have Ca0_0 := Lib.hid ((hbel.cell (p := ⟨w.heap.size, 0, none⟩) (by simp only []; omega)).trans Ca0_0.out)
  have Ca0_1 := Lib.hid ((hbel.cell (p := ⟨w.heap.size, 1, none⟩) (by simp only []; omega)).trans Ca0_1.out)
  have Cx0_0 := Lib.hid ((hbel.cell (p := ⟨w5.heap.size, 0, none⟩) (by simp only []; omega)).trans Cx0_0.out)
  have Cx0_1 := Lib.hid ((hbel.cell (p := ⟨w5.heap.size, 1, none⟩) (by simp only []; omega)).trans Cx0_1.out)
  have Ow0 := Lib.hid (show OwI w7 w3.heap.size (.slice wA0 U0.length wc0) U0 from OwI.below Ow0.out hbel)
  have Ox0 := Lib.hid (show OwD w7 w4.heap.size xA0 xc0 y0 from OwD.below Ox0.out hbel)
  clear hbel
  have Og0 := Lib.hid (show OwI w7 w6.heap.size (.slice gA0 U0.length gc0) U0 from Og0'.out)
  have Ug0 := Lib.hid (show ∀ k, (Value.slice gA0 U0.length gc0).ownBlock = some k → k < w7.heap.size from fun k hk => (own_block Og0.out k hk).2)
  clear Og0'
  go_wp2_with fail
  go_at_call 28
  have hE := eqIntS_any w7.heap.size w7.heap.size gA0 wA0 gc0 wc0 U0 U0 w7 (by omega) (by omega) (Og0.out).rd (Ow0.out).rd
  rw [eqI_refl] at hE
  refine hE.mono ?_
  rintro e w8 ⟨rfl, hdr⟩
  clear hE
  have hbel := hdr.below w7.heap.size
  clear hdr
  have hsw8 : w7.heap.size ≤ w8.heap.size := hbel.size
  have HB := Lib.hid (HB.out.trans (hbel.mono (by omega)))
  have Ca0_0 := Lib.hid ((hbel.cell (p := ⟨w.heap.size, 0, none⟩) (by simp only []; omega)).trans Ca0_0.out)
  have Ca0_1 := Lib.hid ((hbel.cell (p := ⟨w.heap.size, 1, none⟩) (by simp only []; omega)).trans Ca0_1.out)
  have Cx0_0 := Lib.hid ((hbel.cell (p := ⟨w5.heap.size, 0, none⟩) (by simp only []; omega)).trans Cx0_0.out)
  have Cx0_1 := Lib.hid ((hbel.cell (p := ⟨w5.heap.size, 1, none⟩) (by simp only []; omega)).trans Cx0_1.out)
  have Ow0 := Lib.hid (show OwI w8 w3.heap.size (.slice wA0 U0.length wc0) U0 from OwI.below Ow0.out hbel)
  have Ox0 := Lib.hid (show OwD w8 w4.heap.size xA0 xc0 y0 from OwD.below Ox0.out hbel)
  have Og0 := Lib.hid (show OwI w8 w6.heap.size (.slice gA0 U0.length gc0) U0 from OwI.below Og0.out hbel)
  clear hbel
  go_wp2
  have Fx0_0 := Lib.hid (show ∀ x, Below w8.heap.size w8 x → x.cell? ⟨w5.heap.size, 0, none⟩ = some (.slice xA0 y0.ops.length xc0) from fun x hx => (hx.cell (p := ⟨w5.heap.size, 0, none⟩) (by simp only []; omega)).trans Cx0_0.out)
  have Fx0_1 := Lib.hid (show ∀ x, Below w8.heap.size w8 x → x.cell? ⟨w5.heap.size, 1, none⟩ = some (.int .i64 y0.out) from fun x hx => (hx.cell (p := ⟨w5.heap.size, 1, none⟩) (by simp only []; omega)).trans Cx0_1.out)
  have Fa0_0 := Lib.hid (show ∀ x, Below w8.heap.size w8 x → x.cell? ⟨w.heap.size, 0, none⟩ = some (.slice A0 y0.ops.length c0) from fun x hx => (hx.cell (p := ⟨w.heap.size, 0, none⟩) (by simp only []; omega)).trans Ca0_0.out)
  have Fa0_1 := Lib.hid (show ∀ x, Below w8.heap.size w8 x → x.cell? ⟨w.heap.size, 1, none⟩ = some (.int .i64 y0.out) from fun x hx => (hx.cell (p := ⟨w.heap.size, 1, none⟩) (by simp only []; omega)).trans Ca0_1.out)
  have SD := Lib.hid (show Below w8.heap.size w8 w8.drew from (Below.refl _ _).drew)
  refine wp_region_T (fun x : World => Below w8.heap.size w8 x) [0, 1, 4] [0, 1] (.ls 0 (.ls 1 (.hv 2 (.hv 3 (.lp 4 (.done)))))) (by kernel_rfl) (by kernel_rfl) ?_
  refine T_ls1 (v := .agg #[.slice xA0 y0.ops.length xc0, .int .i64 y0.out]) rfl rfl SD.out (fun x hx => (by have h1 := Fx0_0.out x hx; have h2 := Fx0_1.out x hx; go_simp)) (fun K hK => ?_)
  (go_simp; refine hK _ ?_; clear hK K)
  refine T_ls1 (v := .agg #[.slice A0 y0.ops.length c0, .int .i64 y0.out]) rfl rfl SD.out (fun x hx => (by have h1 := Fa0_0.out x hx; have h2 := Fa0_1.out x hx; go_simp)) (fun K hK => ?_)
  (go_simp; refine hK _ ?_; clear hK K)
  refine T_hvS rfl (fun K hK => ?_)
  go_simp
  go_at_call 21
  generalize hwd : w8.drew = w9 at SD ⊢
  clear hwd
  have hbd := SD.out
  have hsw9 : w8.heap.size ≤ w9.heap.size := hbd.size
  have HB := Lib.hid (HB.out.trans (hbd.mono (by omega)))
  have Ca0_0 := Lib.hid ((hbd.cell (p := ⟨w.heap.size, 0, none⟩) (by simp only []; omega)).trans Ca0_0.out)
  have Ca0_1 := Lib.hid ((hbd.cell (p := ⟨w.heap.size, 1, none⟩) (by simp only []; omega)).trans Ca0_1.out)
  have Cx0_0 := Lib.hid ((hbd.cell (p := ⟨w5.heap.size, 0, none⟩) (by simp only []; omega)).trans Cx0_0.out)
  have Cx0_1 := Lib.hid ((hbd.cell (p := ⟨w5.heap.size, 1, none⟩) (by simp only []; omega)).trans Cx0_1.out)
  have Ow0 := Lib.hid (show OwI w9 w3.heap.size (.slice wA0 U0.length wc0) U0 from OwI.below Ow0.out hbd)
  have Ox0 := Lib.hid (show OwD w9 w4.heap.size xA0 xc0 y0 from OwD.below Ox0.out hbd)
  have Og0 := Lib.hid (show OwI w9 w6.heap.size (.slice gA0 U0.length gc0) U0 from OwI.below Og0.out hbd)
  clear hbd
  have SBY := Lib.hid SD.out
  refine (toCode_any w.heap.size A0 c0 y0 w9 hl0 (by omega) (H0.out.below HB.out)).mono ?_
  rintro e w10 ⟨yA0, yc0, rfl, hown, hbel⟩
  have Oy0' := Lib.hid hown
  clear hown
  have hsw10 : w9.heap.size ≤ w10.heap.size := hbel.size
  have HB := Lib.hid (HB.out.trans (hbel.mono (by omega)))
  have Ca0_0 := Lib.hid ((hbel.cell (p := ⟨w.heap.size, 0, none⟩) (by simp only []; omega)).trans Ca0_0.out)
  have Ca0_1 := Lib.hid ((hbel.cell (p := ⟨w.heap.size, 1, none⟩) (by simp only []; omega)).trans Ca0_1.out)
  have Cx0_0 := Lib.hid ((hbel.cell (p := ⟨w5.heap.size, 0, none⟩) (by simp only []; omega)).trans Cx0_0.out)
  have Cx0_1 := Lib.hid ((hbel.cell (p := ⟨w5.heap.size, 1, none⟩) (by simp only []; omega)).trans Cx0_1.out)
  have Ow0 := Lib.hid (show OwI w10 w3.heap.size (.slice wA0 U0.length wc0) U0 from OwI.below Ow0.out hbel)
  have Ox0 := Lib.hid (show OwD w10 w4.heap.size xA0 xc0 y0 from OwD.below Ox0.out hbel)
  have Og0 := Lib.hid (show OwI w10 w6.heap.size (.slice gA0 U0.length gc0) U0 from OwI.below Og0.out hbel)
  have SBY := Lib.hid (SBY.out.trans (hbel.mono (by omega)))
  clear hbel
  have Oy0 := Lib.hid (show OwD w10 w9.heap.size yA0 yc0 y0 from Oy0'.out)
  have Uy0 := Lib.hid (show ∀ k, (Value.slice yA0 y0.ops.length yc0).ownBlock = some k → k < w10.heap.size from fun k hk => (own_block Oy0.out k hk).2)
  clear Oy0'
  go_simp
  refine hK _ _ (SBY.out) ?_
  clear hK K
  (refine T_hv rfl (by kernel_rfl) (fun K hK => ?_); go_simp)
  go_at_call 23
  refine (eqCode_refl w10.heap.size w10.heap.size xA0 yA0 xc0 yc0 y0 w10 (by omega) (Nat.le_refl _) (Nat.le_refl _) (Ox0.out).rd (Oy0.out).rd).mono ?_
  rintro e w11 ⟨rfl, hbel⟩
  have hsw11 : w10.heap.size ≤ w11.heap.size := hbel.size
  have HB := Lib.hid (HB.out.trans (hbel.mono (by omega)))
  have Ca0_0 := Lib.hid ((hbel.cell (p := ⟨w.heap.size, 0, none⟩) (by simp only []; omega)).trans Ca0_0.out)
  have Ca0_1 := Lib.hid ((hbel.cell (p := ⟨w.heap.size, 1, none⟩) (by simp only []; omega)).trans Ca0_1.out)
  have Cx0_0 := Lib.hid ((hbel.cell (p := ⟨w5.heap.size, 0, none⟩) (by simp only []; omega)).trans Cx0_0.out)
  have Cx0_1 := Lib.hid ((hbel.cell (p := ⟨w5.heap.size, 1, none⟩) (by simp only []; omega)).trans Cx0_1.out)
  have Ow0 := Lib.hid (show OwI w11 w3.heap.size (.slice wA0 U0.length wc0) U0 from OwI.below Ow0.out hbel)
  have Ox0 := Lib.hid (show OwD w11 w4.heap.size xA0 xc0 y0 from OwD.below Ox0.out hbel)
  have Og0 := Lib.hid (show OwI w11 w6.heap.size (.slice gA0 U0.length gc0) U0 from OwI.below Og0.out hbel)
  have Oy0 := Lib.hid (show OwD w11 w9.heap.size yA0 yc0 y0 from OwD.below Oy0.out hbel)
  clear hbel
  (go_simp; refine hK _ _ ?_; clear hK K)
  (repeat (first | (refine T_lp rfl (fun K hK => ?_); go_simp; refine hK _ ?_; clear hK K) | (refine T_ls rfl rfl (fun K hK => ?_); go_simp; refine hK _ ?_; clear hK K)))
  refine T_done ?_
  have v5 := Cx0_0.out
  have v6 := Cx0_1.out
  go_wp2_with fail
  go_at_call 29
  clear v5 v6
  have hwm := markCode_any (w4.heap.size) w5.heap.size xA0 xc0 y0 (1) w11 (by omega) (by omega) (by omega) (by omega) Ox0.out Ux0.out
  refine hwm.mono ?_
  rintro e w12 ⟨rfl, hmk, hwn⟩
  clear hwm
  have Mx0 := Lib.hid hmk
  clear hmk
  have hsw12 : w11.heap.size ≤ w12.heap.size := hwn.1.size
  have HB := Lib.hid (HB.out.trans (hwn.1.mono (by omega)))
  have Ca0_0 := Lib.hid ((hwn.1.cell (p := ⟨w.heap.size, 0, none⟩) (by simp only []; omega)).trans Ca0_0.out)
  have Ca0_1 := Lib.hid ((hwn.1.cell (p := ⟨w.heap.size, 1, none⟩) (by simp only []; omega)).trans Ca0_1.out)
  have Cx0_0 := Lib.hid ((World.cell?_of_block (a := ⟨w5.heap.size, 0, none⟩) (hwn.2 (w5.heap.size) (by omega) (by omega))).trans Cx0_0.out)
  have Cx0_1 := Lib.hid ((World.cell?_of_block (a := ⟨w5.heap.size, 1, none⟩) (hwn.2 (w5.heap.size) (by omega) (by omega))).trans Cx0_1.out)
  have Ow0 := Lib.hid (show OwI w12 w3.heap.size (.slice wA0 U0.length wc0) U0 from own_win_lo Ow0.out hwn (fun k hk => Nat.lt_of_lt_of_le (Uw0.out k hk) (by omega)))
  have Og0 := Lib.hid (show OwI w12 w6.heap.size (.slice gA0 U0.length gc0) U0 from Win.own hwn Og0.out (by omega))
  clear hwn
  have hkk1 : ¬ (1 + 3 * (y0.ops.length : Int) < 0) := by omega
  go_wp2_with fail
  go_at_call 28
  have hE := eqIntS_any w12.heap.size w12.heap.size gA0 wA0 gc0 wc0 U0 U0 w12 (by omega) (by omega) (Og0.out).rd (Ow0.out).rd
  rw [eqI_refl] at hE
  refine hE.mono ?_
  rintro e w13 ⟨rfl, hdr⟩
  clear hE
  have hbel := hdr.below w12.heap.size
  clear hdr
  have hsw13 : w12.heap.size ≤ w13.heap.size := hbel.size
  have HB := Lib.hid (HB.out.trans (hbel.mono (by omega)))
  have Ca0_0 := Lib.hid ((hbel.cell (p := ⟨w.heap.size, 0, none⟩) (by simp only []; omega)).trans Ca0_0.out)
  have Ca0_1 := Lib.hid ((hbel.cell (p := ⟨w.heap.size, 1, none⟩) (by simp only []; omega)).trans Ca0_1.out)
  have Ow0 := Lib.hid (show OwI w13 w3.heap.size (.slice wA0 U0.length wc0) U0 from OwI.below Ow0.out hbel)
  have Og0 := Lib.hid (show OwI w13 w6.heap.size (.slice gA0 U0.length gc0) U0 from OwI.below Og0.out hbel)
  clear hbel
  go_wp2_with fail
  go_at_call 30
  refine (markIntS_any (w6.heap.size) gA0 gc0 U0 (1) w13 (by omega) (by omega) (by omega) Og0.out).mono ?_
  rintro e w14 ⟨rfl, hmk, hg⟩
  have hwn : Win w6.heap.size w7.heap.size w13 w14 := Win.of_grown hg (by omega) (fun k hk => ⟨(own_block Og0.out k hk).1, Ug0.out k hk⟩)
  clear hg
  have Mg0 := Lib.hid hmk
  clear hmk
  have hsw14 : w13.heap.size ≤ w14.heap.size := hwn.1.size
  have HB := Lib.hid (HB.out.trans (hwn.1.mono (by omega)))
  have Ca0_0 := Lib.hid ((hwn.1.cell (p := ⟨w.heap.size, 0, none⟩) (by simp only []; omega)).trans Ca0_0.out)
  have Ca0_1 := Lib.hid ((hwn.1.cell (p := ⟨w.heap.size, 1, none⟩) (by simp only []; omega)).trans Ca0_1.out)
  have Ow0 := Lib.hid (show OwI w14 w3.heap.size (.slice wA0 U0.length wc0) U0 from own_win_lo Ow0.out hwn (fun k hk => Nat.lt_of_lt_of_le (Uw0.out k hk) (by omega)))
  clear hwn
  have hkm1 : ¬ (1 + (U0.length : Int) < 0) := by omega
  have HM := Lib.hid (own_rd_marks Mg0.out)
  have HBM := Lib.hid (Below.refl w14.heap.size w14)
  go_wp2_with fail
  go_at_call 31
  refine (heldIntS_any w14.heap.size gA0 gc0 U0.length 1 w14 (by omega) (by omega) (by omega) (HM.out.below HBM.out)).mono ?_
  rintro e w900 ⟨rfl, rfl⟩
  have v7 := Ca0_0.out
  have v8 := Ca0_1.out
  go_wp2_with fail
  go_at_call 21
  clear v7 v8
  refine (toCode_any w.heap.size A0 c0 y0 w14 hl0 (by omega) (H0.out.below HB.out)).mono ?_
  rintro e w15 ⟨zA0, zc0, rfl, hown, hbel⟩
  have Oz0' := Lib.hid hown
  clear hown
  have hsw15 : w14.heap.size ≤ w15.heap.size := hbel.size
  have HB := Lib.hid (HB.out.trans (hbel.mono (by omega)))
  have Ca0_0 := Lib.hid ((hbel.cell (p := ⟨w.heap.size, 0, none⟩) (by simp only []; omega)).trans Ca0_0.out)
  have Ca0_1 := Lib.hid ((hbel.cell (p := ⟨w.heap.size, 1, none⟩) (by simp only []; omega)).trans Ca0_1.out)
  have Ow0 := Lib.hid (show OwI w15 w3.heap.size (.slice wA0 U0.length wc0) U0 from OwI.below Ow0.out hbel)
  have HBM := Lib.hid (HBM.out.trans (hbel.mono (by omega)))
  clear hbel
  have Oz0 := Lib.hid (show OwD w15 w14.heap.size zA0 zc0 y0 from Oz0'.out)
  have Uz0 := Lib.hid (show ∀ k, (Value.slice zA0 y0.ops.length zc0).ownBlock = some k → k < w15.heap.size from fun k hk => (own_block Oz0.out k hk).2)
  clear Oz0'
  go_wp2_with fail
  go_at_call 33
  refine (HIMPL.out w15 zA0 zc0 (Oz0.out).cap (Oz0.out).rd).mono ?_
  rintro e w16 ⟨hA0, hc0, rfl, hown0, hbel⟩
  have Oh0' := Lib.hid hown0
  clear hown0
  have hsw16 : w15.heap.size ≤ w16.heap.size := hbel.size
  have HB := Lib.hid (HB.out.trans (hbel.mono (by omega)))
  have Ca0_0 := Lib.hid ((hbel.cell (p := ⟨w.heap.size, 0, none⟩) (by simp only []; omega)).trans Ca0_0.out)
  have Ca0_1 := Lib.hid ((hbel.cell (p := ⟨w.heap.size, 1, none⟩) (by simp only []; omega)).trans Ca0_1.out)
  have Ow0 := Lib.hid (show OwI w16 w3.heap.size (.slice wA0 U0.length wc0) U0 from OwI.below Ow0.out hbel)
  have Oz0 := Lib.hid (show OwD w16 w14.heap.size zA0 zc0 y0 from OwD.below Oz0.out hbel)
  have HBM := Lib.hid (HBM.out.trans (hbel.mono (by omega)))
  clear hbel
  have Oh0 := Lib.hid (show OwI w16 w15.heap.size (.slice hA0 U0.length hc0) U0 from Oh0'.out)
  have Uh0 := Lib.hid (show ∀ k, (Value.slice hA0 U0.length hc0).ownBlock = some k → k < w16.heap.size from fun k hk => (own_block Oh0.out k hk).2)
  clear Oh0'
  go_wp2_with fail
  go_at_call 28
  have hE := eqIntS_any w16.heap.size w16.heap.size hA0 wA0 hc0 wc0 U0 U0 w16 (by omega) (by omega) (Oh0.out).rd (Ow0.out).rd
  rw [eqI_refl] at hE
  refine hE.mono ?_
  rintro e w17 ⟨rfl, hdr⟩
  clear hE
  have hbel := hdr.below w16.heap.size
  clear hdr
  have hsw17 : w16.heap.size ≤ w17.heap.size := hbel.size
  have HB := Lib.hid (HB.out.trans (hbel.mono (by omega)))
  have Ca0_0 := Lib.hid ((hbel.cell (p := ⟨w.heap.size, 0, none⟩) (by simp only []; omega)).trans Ca0_0.out)
  have Ca0_1 := Lib.hid ((hbel.cell (p := ⟨w.heap.size, 1, none⟩) (by simp only []; omega)).trans Ca0_1.out)
  have Ow0 := Lib.hid (show OwI w17 w3.heap.size (.slice wA0 U0.length wc0) U0 from OwI.below Ow0.out hbel)
  have Oz0 := Lib.hid (show OwD w17 w14.heap.size zA0 zc0 y0 from OwD.below Oz0.out hbel)
  have Oh0 := Lib.hid (show OwI w17 w15.heap.size (.slice hA0 U0.length hc0) U0 from OwI.below Oh0.out hbel)
  have HBM := Lib.hid (HBM.out.trans (hbel.mono (by omega)))
  clear hbel
  go_wp2_with fail
  go_at_call 31
  refine (heldIntS_any w14.heap.size gA0 gc0 U0.length 1 w17 (by omega) (by omega) (by omega) (HM.out.below HBM.out)).mono ?_
  rintro e w900 ⟨rfl, rfl⟩
  go_wp2
  go_ret
  exact ⟨rfl, HB.out⟩

end Go.Proofs.Ytpopomcaknbhnaa
