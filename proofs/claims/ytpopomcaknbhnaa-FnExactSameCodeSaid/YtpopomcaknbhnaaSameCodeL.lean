/- The walk of the law FnExactSameCode. -/
import Derived.Test.YtpopomcaknbhnaaGa6
import Derived.Test.YtpopomcaknbhnaaH8b
import Derived.Test.YtpopomcaknbhnaaH8l
namespace Go.Proofs.Ytpopomcaknbhnaa
open Go.ChangeShapes Go.WideShapes Go.ChangeAt Go.RowKit Go.Deep Go.Joins

set_option maxRecDepth 100000 in
set_option maxHeartbeats 8000000 in
theorem lawSameCode (A0 : Option Addr) (c0 : Nat) (y0 : Cd) (A1 : Option Addr) (c1 : Nat) (y1 : Cd) (w : World) (hn0 : y0.ops.length ≤ 9223372036854775807) (hr0 : RdD w w.heap.size A0 y0) (hn1 : y1.ops.length ≤ 9223372036854775807) (hr1 : RdD w w.heap.size A1 y1) :
    Calls Try.prog 18 #[.agg #[.slice A0 y0.ops.length c0, .int .i64 y0.out], .agg #[.slice A1 y1.ops.length c1, .int .i64 y1.out]] w fun e w' => e = .returned (.bool true) ∧ Below w.heap.size w w' := by
  have H0 := Lib.hid hr0
  clear hr0
  have H1 := Lib.hid hr1
  clear hr1
  obtain ⟨sz0, hsz0⟩ : ∃ qx, szR 1048576 y0.ops.length = qx := ⟨_, rfl⟩
  have hsc0 := fun W => szCode_any A0 c0 y0 1048576 W (by omega) (by omega) hn0
  rw [hsz0] at hsc0
  have hbz0 := szR_bd (n := y0.ops.length) (left := 1048576) (by omega) (by omega)
  rw [hsz0] at hbz0
  obtain ⟨hbz0, hbz0'⟩ := hbz0
  have SZ0 := Lib.hid hsc0
  have SX0 := Lib.hid hsz0
  clear hsz0 hsc0
  obtain ⟨sz1, hsz1⟩ : ∃ qx, szR sz0 y1.ops.length = qx := ⟨_, rfl⟩
  have hsc1 := fun W => szCode_any A1 c1 y1 sz0 W (by omega) (by omega) hn1
  rw [hsz1] at hsc1
  have SZ1 := Lib.hid hsc1
  have SX1 := Lib.hid hsz1
  clear hsz1 hsc1
  go_enter Try.func18, Try.ntmps18
  go_wp2_with fail
  go_at_call 19
  generalize hww1 : World.alloc w _ = w1
  obtain ⟨x0', x1', hxw1, hbx⟩ := bx2 hww1
  clear hww1
  have hxP := hxw1
  have hsw1 : w.heap.size ≤ w1.heap.size := hbx.size
  have HB := Lib.hid hbx
  clear hbx
  have Ca0_0 := Lib.hid x0'
  have Ca0_1 := Lib.hid x1'
  clear x0' x1'
  generalize hww2 : World.alloc w1 _ = w2
  obtain ⟨x0', x1', hxw2, hbx⟩ := bx2 hww2
  clear hww2
  rw [hxP] at x0' x1'
  have hxP := (show w2.heap.size = w.heap.size + 1 + 1 by omega)
  have hsw2 : w1.heap.size ≤ w2.heap.size := hbx.size
  have HB := Lib.hid (HB.out.trans (hbx.mono (by omega)))
  have Ca0_0 := Lib.hid ((hbx.cell (p := ⟨w.heap.size, 0, none⟩) (by simp only []; omega)).trans Ca0_0.out)
  have Ca0_1 := Lib.hid ((hbx.cell (p := ⟨w.heap.size, 1, none⟩) (by simp only []; omega)).trans Ca0_1.out)
  clear hbx
  have Ca1_0 := Lib.hid x0'
  have Ca1_1 := Lib.hid x1'
  clear x0' x1'
  refine (SZ0.out _).mono ?_
  rintro e w3 ⟨rfl, hbel⟩
  have hsw3 : w2.heap.size ≤ w3.heap.size := hbel.size
  have HB := Lib.hid (HB.out.trans (hbel.mono (by omega)))
  have Ca0_0 := Lib.hid ((hbel.cell (p := ⟨w.heap.size, 0, none⟩) (by simp only []; omega)).trans Ca0_0.out)
  have Ca0_1 := Lib.hid ((hbel.cell (p := ⟨w.heap.size, 1, none⟩) (by simp only []; omega)).trans Ca0_1.out)
  have Ca1_0 := Lib.hid ((hbel.cell (p := ⟨w.heap.size + 1, 0, none⟩) (by simp only []; omega)).trans Ca1_0.out)
  have Ca1_1 := Lib.hid ((hbel.cell (p := ⟨w.heap.size + 1, 1, none⟩) (by simp only []; omega)).trans Ca1_1.out)
  clear hbel
  by_cases hneg0 : sz0 < 0
  · go_wp2
    go_ret
    exact ⟨rfl, HB.out⟩
  have hl0 := szR_ok (n := y0.ops.length) (left := 1048576) (by omega) (by rw [SX0.out]; exact hneg0)
  have v1 := Ca1_0.out
  have v2 := Ca1_1.out
  go_wp2_with fail
  go_at_call 19
  clear v1 v2
  refine (SZ1.out _).mono ?_
  rintro e w4 ⟨rfl, hbel⟩
  have hsw4 : w3.heap.size ≤ w4.heap.size := hbel.size
  have HB := Lib.hid (HB.out.trans (hbel.mono (by omega)))
  have Ca0_0 := Lib.hid ((hbel.cell (p := ⟨w.heap.size, 0, none⟩) (by simp only []; omega)).trans Ca0_0.out)
  have Ca0_1 := Lib.hid ((hbel.cell (p := ⟨w.heap.size, 1, none⟩) (by simp only []; omega)).trans Ca0_1.out)
  have Ca1_0 := Lib.hid ((hbel.cell (p := ⟨w.heap.size + 1, 0, none⟩) (by simp only []; omega)).trans Ca1_0.out)
  have Ca1_1 := Lib.hid ((hbel.cell (p := ⟨w.heap.size + 1, 1, none⟩) (by simp only []; omega)).trans Ca1_1.out)
  clear hbel
  by_cases hneg1 : sz1 < 0
  · go_wp2
    go_ret
    exact ⟨rfl, HB.out⟩
  have hl1 := szR_ok (n := y1.ops.length) (left := sz0) (by omega) (by rw [SX1.out]; exact hneg1)
  obtain ⟨U0, hU0⟩ : ∃ gx, scV y0 y1 = gx := ⟨_, rfl⟩
  obtain ⟨U1, hU1⟩ : ∃ gx, scB y0 y1 = gx := ⟨_, rfl⟩
  have hspec := fun (W : World) A0' c0' A1' c1' => specSame8_any (World.heap W).size A0' c0' y0 A1' c1' y1 W (Nat.le_refl _) hl0 hl1
  have himpl := fun (W : World) A0' c0' A1' c1' => implSame8_any (World.heap W).size A0' c0' y0 A1' c1' y1 W (Nat.le_refl _) hl0 hl1
  rw [hU0, hU1] at hspec himpl
  have HSPEC := Lib.hid hspec
  have HIMPL := Lib.hid himpl
  clear hU0 hU1 hspec himpl
  go_wp2
  have Fs0_0 := Lib.hid (show ∀ x, Below w4.heap.size w4 x → x.cell? ⟨w.heap.size, 0, none⟩ = some (.slice A0 y0.ops.length c0) from fun x hx => (hx.cell (p := ⟨w.heap.size, 0, none⟩) (by simp only []; omega)).trans Ca0_0.out)
  have Fs0_1 := Lib.hid (show ∀ x, Below w4.heap.size w4 x → x.cell? ⟨w.heap.size, 1, none⟩ = some (.int .i64 y0.out) from fun x hx => (hx.cell (p := ⟨w.heap.size, 1, none⟩) (by simp only []; omega)).trans Ca0_1.out)
  have Fs1_0 := Lib.hid (show ∀ x, Below w4.heap.size w4 x → x.cell? ⟨w.heap.size + 1, 0, none⟩ = some (.slice A1 y1.ops.length c1) from fun x hx => (hx.cell (p := ⟨w.heap.size + 1, 0, none⟩) (by simp only []; omega)).trans Ca1_0.out)
  have Fs1_1 := Lib.hid (show ∀ x, Below w4.heap.size w4 x → x.cell? ⟨w.heap.size + 1, 1, none⟩ = some (.int .i64 y1.out) from fun x hx => (hx.cell (p := ⟨w.heap.size + 1, 1, none⟩) (by simp only []; omega)).trans Ca1_1.out)
  have SD := Lib.hid (show Below w4.heap.size w4 w4.drew from (Below.refl _ _).drew)
  refine wp_region_T (fun x : World => Below w4.heap.size w4 x) [0, 2, 5, 6, 7, 8, 9] [0, 2] (.ls 0 (.ls 2 (.hv 1 (.hv 3 (.hv 4 (.lp 5 (.lp 6 (.lp 7 (.lp 8 (.lp 9 (.done))))))))))) (by kernel_rfl) (by kernel_rfl) ?_
  (repeat (refine T_lp rfl (fun K hK => ?_); go_simp; refine hK _ ?_; clear hK K))
  refine T_ls1 (v := .agg #[.slice A0 y0.ops.length c0, .int .i64 y0.out]) rfl rfl SD.out (fun x hx => (by have h1 := Fs0_0.out x hx; have h2 := Fs0_1.out x hx; go_simp)) (fun K hK => ?_)
  (go_simp; refine hK _ ?_; clear hK K)
  refine T_ls1 (v := .agg #[.slice A1 y1.ops.length c1, .int .i64 y1.out]) rfl rfl SD.out (fun x hx => (by have h1 := Fs1_0.out x hx; have h2 := Fs1_1.out x hx; go_simp)) (fun K hK => ?_)
  (go_simp; refine hK _ ?_; clear hK K)
  refine T_hvS rfl (fun K hK => ?_)
  go_simp
  go_at_call 21
  generalize hwd : w4.drew = w5 at SD ⊢
  clear hwd
  have hbd := SD.out
  have hsw5 : w4.heap.size ≤ w5.heap.size := hbd.size
  have HB := Lib.hid (HB.out.trans (hbd.mono (by omega)))
  have Ca0_0 := Lib.hid ((hbd.cell (p := ⟨w.heap.size, 0, none⟩) (by simp only []; omega)).trans Ca0_0.out)
  have Ca0_1 := Lib.hid ((hbd.cell (p := ⟨w.heap.size, 1, none⟩) (by simp only []; omega)).trans Ca0_1.out)
  have Ca1_0 := Lib.hid ((hbd.cell (p := ⟨w.heap.size + 1, 0, none⟩) (by simp only []; omega)).trans Ca1_0.out)
  have Ca1_1 := Lib.hid ((hbd.cell (p := ⟨w.heap.size + 1, 1, none⟩) (by simp only []; omega)).trans Ca1_1.out)
  clear hbd
  have SBY := Lib.hid SD.out
  refine (toCode_any w.heap.size A0 c0 y0 w5 hl0 (by omega) (H0.out.below HB.out)).mono ?_
  rintro e w6 ⟨sA0, sc0, rfl, hown, hbel⟩
  have Os0' := Lib.hid hown
  clear hown
  have hsw6 : w5.heap.size ≤ w6.heap.size := hbel.size
  have HB := Lib.hid (HB.out.trans (hbel.mono (by omega)))
  have Ca0_0 := Lib.hid ((hbel.cell (p := ⟨w.heap.size, 0, none⟩) (by simp only []; omega)).trans Ca0_0.out)
  have Ca0_1 := Lib.hid ((hbel.cell (p := ⟨w.heap.size, 1, none⟩) (by simp only []; omega)).trans Ca0_1.out)
  have Ca1_0 := Lib.hid ((hbel.cell (p := ⟨w.heap.size + 1, 0, none⟩) (by simp only []; omega)).trans Ca1_0.out)
  have Ca1_1 := Lib.hid ((hbel.cell (p := ⟨w.heap.size + 1, 1, none⟩) (by simp only []; omega)).trans Ca1_1.out)
  have SBY := Lib.hid (SBY.out.trans (hbel.mono (by omega)))
  clear hbel
  have Os0 := Lib.hid (show OwD w6 w5.heap.size sA0 sc0 y0 from Os0'.out)
  have Us0 := Lib.hid (show ∀ k, (Value.slice sA0 y0.ops.length sc0).ownBlock = some k → k < w6.heap.size from fun k hk => (own_block Os0.out k hk).2)
  clear Os0'
  go_simp
  refine hK _ _ (SBY.out) ?_
  clear hK K
  refine T_hvS rfl (fun K hK => ?_)
  go_simp
  go_at_call 21
  refine (toCode_any w.heap.size A1 c1 y1 w6 hl1 (by omega) (H1.out.below HB.out)).mono ?_
  rintro e w7 ⟨sA1, sc1, rfl, hown, hbel⟩
  have Os1' := Lib.hid hown
  clear hown
  have hsw7 : w6.heap.size ≤ w7.heap.size := hbel.size
  have HB := Lib.hid (HB.out.trans (hbel.mono (by omega)))
  have Ca0_0 := Lib.hid ((hbel.cell (p := ⟨w.heap.size, 0, none⟩) (by simp only []; omega)).trans Ca0_0.out)
  have Ca0_1 := Lib.hid ((hbel.cell (p := ⟨w.heap.size, 1, none⟩) (by simp only []; omega)).trans Ca0_1.out)
  have Ca1_0 := Lib.hid ((hbel.cell (p := ⟨w.heap.size + 1, 0, none⟩) (by simp only []; omega)).trans Ca1_0.out)
  have Ca1_1 := Lib.hid ((hbel.cell (p := ⟨w.heap.size + 1, 1, none⟩) (by simp only []; omega)).trans Ca1_1.out)
  have Os0 := Lib.hid (show OwD w7 w5.heap.size sA0 sc0 y0 from OwD.below Os0.out hbel)
  have SBY := Lib.hid (SBY.out.trans (hbel.mono (by omega)))
  clear hbel
  have Os1 := Lib.hid (show OwD w7 w6.heap.size sA1 sc1 y1 from Os1'.out)
  have Us1 := Lib.hid (show ∀ k, (Value.slice sA1 y1.ops.length sc1).ownBlock = some k → k < w7.heap.size from fun k hk => (own_block Os1.out k hk).2)
  clear Os1'
  go_simp
  refine hK _ _ (SBY.out) ?_
  clear hK K
  refine T_hvS rfl (fun K hK => ?_)
  go_simp
  go_at_call 62
  refine (HSPEC.out w7 sA0 sc0 sA1 sc1 (Os0.out).cap (Os1.out).cap (Os0.out).rd (Os1.out).rd).mono ?_
  rintro e w8 ⟨rfl, hbel⟩
  have hsw8 : w7.heap.size ≤ w8.heap.size := hbel.size
  have HB := Lib.hid (HB.out.trans (hbel.mono (by omega)))
  have Ca0_0 := Lib.hid ((hbel.cell (p := ⟨w.heap.size, 0, none⟩) (by simp only []; omega)).trans Ca0_0.out)
  have Ca0_1 := Lib.hid ((hbel.cell (p := ⟨w.heap.size, 1, none⟩) (by simp only []; omega)).trans Ca0_1.out)
  have Ca1_0 := Lib.hid ((hbel.cell (p := ⟨w.heap.size + 1, 0, none⟩) (by simp only []; omega)).trans Ca1_0.out)
  have Ca1_1 := Lib.hid ((hbel.cell (p := ⟨w.heap.size + 1, 1, none⟩) (by simp only []; omega)).trans Ca1_1.out)
  have Os0 := Lib.hid (show OwD w8 w5.heap.size sA0 sc0 y0 from OwD.below Os0.out hbel)
  have Os1 := Lib.hid (show OwD w8 w6.heap.size sA1 sc1 y1 from OwD.below Os1.out hbel)
  have SBY := Lib.hid (SBY.out.trans (hbel.mono (by omega)))
  clear hbel
  go_simp
  refine hK _ _ (SBY.out) ?_
  clear hK K
  (repeat (first | (refine T_lp rfl (fun K hK => ?_); go_simp; refine hK _ ?_; clear hK K) | (refine T_ls rfl rfl (fun K hK => ?_); go_simp; refine hK _ ?_; clear hK K)))
  refine T_done ?_
  have v3 := Ca0_0.out
  have v4 := Ca0_1.out
  go_wp2_with fail
  go_at_call 21
  clear v3 v4
  refine (toCode_any w.heap.size A0 c0 y0 w8 hl0 (by omega) (H0.out.below HB.out)).mono ?_
  rintro e w9 ⟨xA0, xc0, rfl, hown, hbel⟩
  have Ox0' := Lib.hid hown
  clear hown
  have hsw9 : w8.heap.size ≤ w9.heap.size := hbel.size
  have HB := Lib.hid (HB.out.trans (hbel.mono (by omega)))
  have Ca0_0 := Lib.hid ((hbel.cell (p := ⟨w.heap.size, 0, none⟩) (by simp only []; omega)).trans Ca0_0.out)
  have Ca0_1 := Lib.hid ((hbel.cell (p := ⟨w.heap.size, 1, none⟩) (by simp only []; omega)).trans Ca0_1.out)
  have Ca1_0 := Lib.hid ((hbel.cell (p := ⟨w.heap.size + 1, 0, none⟩) (by simp only []; omega)).trans Ca1_0.out)
  have Ca1_1 := Lib.hid ((hbel.cell (p := ⟨w.heap.size + 1, 1, none⟩) (by simp only []; omega)).trans Ca1_1.out)
  clear hbel
  have Ox0 := Lib.hid (show OwD w9 w8.heap.size xA0 xc0 y0 from Ox0'.out)
  have Ux0 := Lib.hid (show ∀ k, (Value.slice xA0 y0.ops.length xc0).ownBlock = some k → k < w9.heap.size from fun k hk => (own_block Ox0.out k hk).2)
  clear Ox0'
  have v5 := cell_kept Ca1_0.out
  have v6 := cell_kept Ca1_1.out
  go_wp2_with fail
  go_at_call 21
  clear v5 v6
  generalize hww10 : World.alloc w9 _ = w10
  obtain ⟨x0', x1', hxw10, hbx⟩ := bx2 hww10
  clear hww10
  have hxP := hxw10
  have hsw10 : w9.heap.size ≤ w10.heap.size := hbx.size
  have HB := Lib.hid (HB.out.trans (hbx.mono (by omega)))
  have Ca0_0 := Lib.hid ((hbx.cell (p := ⟨w.heap.size, 0, none⟩) (by simp only []; omega)).trans Ca0_0.out)
  have Ca0_1 := Lib.hid ((hbx.cell (p := ⟨w.heap.size, 1, none⟩) (by simp only []; omega)).trans Ca0_1.out)
  have Ca1_0 := Lib.hid ((hbx.cell (p := ⟨w.heap.size + 1, 0, none⟩) (by simp only []; omega)).trans Ca1_0.out)
  have Ca1_1 := Lib.hid ((hbx.cell (p := ⟨w.heap.size + 1, 1, none⟩) (by simp only []; omega)).trans Ca1_1.out)
  have Ox0 := Lib.hid (show OwD w10 w8.heap.size xA0 xc0 y0 from OwD.below Ox0.out hbx)
  clear hbx
  have Cx0_0 := Lib.hid x0'
  have Cx0_1 := Lib.hid x1'
  clear x0' x1'
  refine (toCode_any w.heap.size A1 c1 y1 w10 hl1 (by omega) (H1.out.below HB.out)).mono ?_
  rintro e w11 ⟨xA1, xc1, rfl, hown, hbel⟩
  have Ox1' := Lib.hid hown
  clear hown
  have hsw11 : w10.heap.size ≤ w11.heap.size := hbel.size
  have HB := Lib.hid (HB.out.trans (hbel.mono (by omega)))
  have Ca0_0 := Lib.hid ((hbel.cell (p := ⟨w.heap.size, 0, none⟩) (by simp only []; omega)).trans Ca0_0.out)
  have Ca0_1 := Lib.hid ((hbel.cell (p := ⟨w.heap.size, 1, none⟩) (by simp only []; omega)).trans Ca0_1.out)
  have Ca1_0 := Lib.hid ((hbel.cell (p := ⟨w.heap.size + 1, 0, none⟩) (by simp only []; omega)).trans Ca1_0.out)
  have Ca1_1 := Lib.hid ((hbel.cell (p := ⟨w.heap.size + 1, 1, none⟩) (by simp only []; omega)).trans Ca1_1.out)
  have Cx0_0 := Lib.hid ((hbel.cell (p := ⟨w9.heap.size, 0, none⟩) (by simp only []; omega)).trans Cx0_0.out)
  have Cx0_1 := Lib.hid ((hbel.cell (p := ⟨w9.heap.size, 1, none⟩) (by simp only []; omega)).trans Cx0_1.out)
  have Ox0 := Lib.hid (show OwD w11 w8.heap.size xA0 xc0 y0 from OwD.below Ox0.out hbel)
  clear hbel
  have Ox1 := Lib.hid (show OwD w11 w10.heap.size xA1 xc1 y1 from Ox1'.out)
  have Ux1 := Lib.hid (show ∀ k, (Value.slice xA1 y1.ops.length xc1).ownBlock = some k → k < w11.heap.size from fun k hk => (own_block Ox1.out k hk).2)
  clear Ox1'
  have v7 := cell_kept Cx0_0.out
  have v8 := cell_kept Cx0_1.out
  go_wp2_with fail
  go_at_call 63
  clear v7 v8
  generalize hww12 : World.alloc w11 _ = w12
  obtain ⟨x0', x1', hxw12, hbx⟩ := bx2 hww12
  clear hww12
  have hxP := hxw12
  have hsw12 : w11.heap.size ≤ w12.heap.size := hbx.size
  have HB := Lib.hid (HB.out.trans (hbx.mono (by omega)))
  have Ca0_0 := Lib.hid ((hbx.cell (p := ⟨w.heap.size, 0, none⟩) (by simp only []; omega)).trans Ca0_0.out)
  have Ca0_1 := Lib.hid ((hbx.cell (p := ⟨w.heap.size, 1, none⟩) (by simp only []; omega)).trans Ca0_1.out)
  have Ca1_0 := Lib.hid ((hbx.cell (p := ⟨w.heap.size + 1, 0, none⟩) (by simp only []; omega)).trans Ca1_0.out)
  have Ca1_1 := Lib.hid ((hbx.cell (p := ⟨w.heap.size + 1, 1, none⟩) (by simp only []; omega)).trans Ca1_1.out)
  have Cx0_0 := Lib.hid ((hbx.cell (p := ⟨w9.heap.size, 0, none⟩) (by simp only []; omega)).trans Cx0_0.out)
  have Cx0_1 := Lib.hid ((hbx.cell (p := ⟨w9.heap.size, 1, none⟩) (by simp only []; omega)).trans Cx0_1.out)
  have Ox0 := Lib.hid (show OwD w12 w8.heap.size xA0 xc0 y0 from OwD.below Ox0.out hbx)
  have Ox1 := Lib.hid (show OwD w12 w10.heap.size xA1 xc1 y1 from OwD.below Ox1.out hbx)
  clear hbx
  have Cx1_0 := Lib.hid x0'
  have Cx1_1 := Lib.hid x1'
  clear x0' x1'
  refine (HIMPL.out w12 xA0 xc0 xA1 xc1 (Ox0.out).cap (Ox1.out).cap (Ox0.out).rd (Ox1.out).rd).mono ?_
  rintro e w13 ⟨rfl, hbel⟩
  have hsw13 : w12.heap.size ≤ w13.heap.size := hbel.size
  have HB := Lib.hid (HB.out.trans (hbel.mono (by omega)))
  have Ca0_0 := Lib.hid ((hbel.cell (p := ⟨w.heap.size, 0, none⟩) (by simp only []; omega)).trans Ca0_0.out)
  have Ca0_1 := Lib.hid ((hbel.cell (p := ⟨w.heap.size, 1, none⟩) (by simp only []; omega)).trans Ca0_1.out)
  have Ca1_0 := Lib.hid ((hbel.cell (p := ⟨w.heap.size + 1, 0, none⟩) (by simp only []; omega)).trans Ca1_0.out)
  have Ca1_1 := Lib.hid ((hbel.cell (p := ⟨w.heap.size + 1, 1, none⟩) (by simp only []; omega)).trans Ca1_1.out)
  have Cx0_0 := Lib.hid ((hbel.cell (p := ⟨w9.heap.size, 0, none⟩) (by simp only []; omega)).trans Cx0_0.out)
  have Cx0_1 := Lib.hid ((hbel.cell (p := ⟨w9.heap.size, 1, none⟩) (by simp only []; omega)).trans Cx0_1.out)
  have Cx1_0 := Lib.hid ((hbel.cell (p := ⟨w11.heap.size, 0, none⟩) (by simp only []; omega)).trans Cx1_0.out)
  have Cx1_1 := Lib.hid ((hbel.cell (p := ⟨w11.heap.size, 1, none⟩) (by simp only []; omega)).trans Cx1_1.out)
  have Ox0 := Lib.hid (show OwD w13 w8.heap.size xA0 xc0 y0 from OwD.below Ox0.out hbel)
  have Ox1 := Lib.hid (show OwD w13 w10.heap.size xA1 xc1 y1 from OwD.below Ox1.out hbel)
  clear hbel
  go_wp2
  have Fx0_0 := Lib.hid (show ∀ x, Below w13.heap.size w13 x → x.cell? ⟨w9.heap.size, 0, none⟩ = some (.slice xA0 y0.ops.length xc0) from fun x hx => (hx.cell (p := ⟨w9.heap.size, 0, none⟩) (by simp only []; omega)).trans Cx0_0.out)
  have Fx0_1 := Lib.hid (show ∀ x, Below w13.heap.size w13 x → x.cell? ⟨w9.heap.size, 1, none⟩ = some (.int .i64 y0.out) from fun x hx => (hx.cell (p := ⟨w9.heap.size, 1, none⟩) (by simp only []; omega)).trans Cx0_1.out)
  have Fa0_0 := Lib.hid (show ∀ x, Below w13.heap.size w13 x → x.cell? ⟨w.heap.size, 0, none⟩ = some (.slice A0 y0.ops.length c0) from fun x hx => (hx.cell (p := ⟨w.heap.size, 0, none⟩) (by simp only []; omega)).trans Ca0_0.out)
  have Fa0_1 := Lib.hid (show ∀ x, Below w13.heap.size w13 x → x.cell? ⟨w.heap.size, 1, none⟩ = some (.int .i64 y0.out) from fun x hx => (hx.cell (p := ⟨w.heap.size, 1, none⟩) (by simp only []; omega)).trans Ca0_1.out)
  have SD := Lib.hid (show Below w13.heap.size w13 w13.drew from (Below.refl _ _).drew)
  refine wp_region_T (fun x : World => Below w13.heap.size w13 x) [0, 1, 4] [0, 1] (.ls 0 (.ls 1 (.hv 2 (.hv 3 (.lp 4 (.done)))))) (by kernel_rfl) (by kernel_rfl) ?_
  refine T_ls1 (v := .agg #[.slice xA0 y0.ops.length xc0, .int .i64 y0.out]) rfl rfl SD.out (fun x hx => (by have h1 := Fx0_0.out x hx; have h2 := Fx0_1.out x hx; go_simp)) (fun K hK => ?_)
  (go_simp; refine hK _ ?_; clear hK K)
  refine T_ls1 (v := .agg #[.slice A0 y0.ops.length c0, .int .i64 y0.out]) rfl rfl SD.out (fun x hx => (by have h1 := Fa0_0.out x hx; have h2 := Fa0_1.out x hx; go_simp)) (fun K hK => ?_)
  (go_simp; refine hK _ ?_; clear hK K)
  refine T_hvS rfl (fun K hK => ?_)
  go_simp
  go_at_call 21
  generalize hwd : w13.drew = w14 at SD ⊢
  clear hwd
  have hbd := SD.out
  have hsw14 : w13.heap.size ≤ w14.heap.size := hbd.size
  have HB := Lib.hid (HB.out.trans (hbd.mono (by omega)))
  have Ca0_0 := Lib.hid ((hbd.cell (p := ⟨w.heap.size, 0, none⟩) (by simp only []; omega)).trans Ca0_0.out)
  have Ca0_1 := Lib.hid ((hbd.cell (p := ⟨w.heap.size, 1, none⟩) (by simp only []; omega)).trans Ca0_1.out)
  have Ca1_0 := Lib.hid ((hbd.cell (p := ⟨w.heap.size + 1, 0, none⟩) (by simp only []; omega)).trans Ca1_0.out)
  have Ca1_1 := Lib.hid ((hbd.cell (p := ⟨w.heap.size + 1, 1, none⟩) (by simp only []; omega)).trans Ca1_1.out)
  have Cx0_0 := Lib.hid ((hbd.cell (p := ⟨w9.heap.size, 0, none⟩) (by simp only []; omega)).trans Cx0_0.out)
  have Cx0_1 := Lib.hid ((hbd.cell (p := ⟨w9.heap.size, 1, none⟩) (by simp only []; omega)).trans Cx0_1.out)
  have Cx1_0 := Lib.hid ((hbd.cell (p := ⟨w11.heap.size, 0, none⟩) (by simp only []; omega)).trans Cx1_0.out)
  have Cx1_1 := Lib.hid ((hbd.cell (p := ⟨w11.heap.size, 1, none⟩) (by simp only []; omega)).trans Cx1_1.out)
  have Ox0 := Lib.hid (show OwD w14 w8.heap.size xA0 xc0 y0 from OwD.below Ox0.out hbd)
  have Ox1 := Lib.hid (show OwD w14 w10.heap.size xA1 xc1 y1 from OwD.below Ox1.out hbd)
  clear hbd
  have SBY := Lib.hid SD.out
  refine (toCode_any w.heap.size A0 c0 y0 w14 hl0 (by omega) (H0.out.below HB.out)).mono ?_
  rintro e w15 ⟨yA0, yc0, rfl, hown, hbel⟩
  have Oy0' := Lib.hid hown
  clear hown
  have hsw15 : w14.heap.size ≤ w15.heap.size := hbel.size
  have HB := Lib.hid (HB.out.trans (hbel.mono (by omega)))
  have Ca0_0 := Lib.hid ((hbel.cell (p := ⟨w.heap.size, 0, none⟩) (by simp only []; omega)).trans Ca0_0.out)
  have Ca0_1 := Lib.hid ((hbel.cell (p := ⟨w.heap.size, 1, none⟩) (by simp only []; omega)).trans Ca0_1.out)
  have Ca1_0 := Lib.hid ((hbel.cell (p := ⟨w.heap.size + 1, 0, none⟩) (by simp only []; omega)).trans Ca1_0.out)
  have Ca1_1 := Lib.hid ((hbel.cell (p := ⟨w.heap.size + 1, 1, none⟩) (by simp only []; omega)).trans Ca1_1.out)
  have Cx0_0 := Lib.hid ((hbel.cell (p := ⟨w9.heap.size, 0, none⟩) (by simp only []; omega)).trans Cx0_0.out)
  have Cx0_1 := Lib.hid ((hbel.cell (p := ⟨w9.heap.size, 1, none⟩) (by simp only []; omega)).trans Cx0_1.out)
  have Cx1_0 := Lib.hid ((hbel.cell (p := ⟨w11.heap.size, 0, none⟩) (by simp only []; omega)).trans Cx1_0.out)
  have Cx1_1 := Lib.hid ((hbel.cell (p := ⟨w11.heap.size, 1, none⟩) (by simp only []; omega)).trans Cx1_1.out)
  have Ox0 := Lib.hid (show OwD w15 w8.heap.size xA0 xc0 y0 from OwD.below Ox0.out hbel)
  have Ox1 := Lib.hid (show OwD w15 w10.heap.size xA1 xc1 y1 from OwD.below Ox1.out hbel)
  have SBY := Lib.hid (SBY.out.trans (hbel.mono (by omega)))
  clear hbel
  have Oy0 := Lib.hid (show OwD w15 w14.heap.size yA0 yc0 y0 from Oy0'.out)
  have Uy0 := Lib.hid (show ∀ k, (Value.slice yA0 y0.ops.length yc0).ownBlock = some k → k < w15.heap.size from fun k hk => (own_block Oy0.out k hk).2)
  clear Oy0'
  go_simp
  refine hK _ _ (SBY.out) ?_
  clear hK K
  (refine T_hv rfl (by kernel_rfl) (fun K hK => ?_); go_simp)
  go_at_call 23
  refine (eqCode_refl w15.heap.size w15.heap.size xA0 yA0 xc0 yc0 y0 w15 (by omega) (Nat.le_refl _) (Nat.le_refl _) (Ox0.out).rd (Oy0.out).rd).mono ?_
  rintro e w16 ⟨rfl, hbel⟩
  have hsw16 : w15.heap.size ≤ w16.heap.size := hbel.size
  have HB := Lib.hid (HB.out.trans (hbel.mono (by omega)))
  have Ca0_0 := Lib.hid ((hbel.cell (p := ⟨w.heap.size, 0, none⟩) (by simp only []; omega)).trans Ca0_0.out)
  have Ca0_1 := Lib.hid ((hbel.cell (p := ⟨w.heap.size, 1, none⟩) (by simp only []; omega)).trans Ca0_1.out)
  have Ca1_0 := Lib.hid ((hbel.cell (p := ⟨w.heap.size + 1, 0, none⟩) (by simp only []; omega)).trans Ca1_0.out)
  have Ca1_1 := Lib.hid ((hbel.cell (p := ⟨w.heap.size + 1, 1, none⟩) (by simp only []; omega)).trans Ca1_1.out)
  have Cx0_0 := Lib.hid ((hbel.cell (p := ⟨w9.heap.size, 0, none⟩) (by simp only []; omega)).trans Cx0_0.out)
  have Cx0_1 := Lib.hid ((hbel.cell (p := ⟨w9.heap.size, 1, none⟩) (by simp only []; omega)).trans Cx0_1.out)
  have Cx1_0 := Lib.hid ((hbel.cell (p := ⟨w11.heap.size, 0, none⟩) (by simp only []; omega)).trans Cx1_0.out)
  have Cx1_1 := Lib.hid ((hbel.cell (p := ⟨w11.heap.size, 1, none⟩) (by simp only []; omega)).trans Cx1_1.out)
  have Ox0 := Lib.hid (show OwD w16 w8.heap.size xA0 xc0 y0 from OwD.below Ox0.out hbel)
  have Ox1 := Lib.hid (show OwD w16 w10.heap.size xA1 xc1 y1 from OwD.below Ox1.out hbel)
  have Oy0 := Lib.hid (show OwD w16 w14.heap.size yA0 yc0 y0 from OwD.below Oy0.out hbel)
  clear hbel
  (go_simp; refine hK _ _ ?_; clear hK K)
  (repeat (first | (refine T_lp rfl (fun K hK => ?_); go_simp; refine hK _ ?_; clear hK K) | (refine T_ls rfl rfl (fun K hK => ?_); go_simp; refine hK _ ?_; clear hK K)))
  refine T_done ?_
  go_wp2
  have Fx1_0 := Lib.hid (show ∀ x, Below w16.heap.size w16 x → x.cell? ⟨w11.heap.size, 0, none⟩ = some (.slice xA1 y1.ops.length xc1) from fun x hx => (hx.cell (p := ⟨w11.heap.size, 0, none⟩) (by simp only []; omega)).trans Cx1_0.out)
  have Fx1_1 := Lib.hid (show ∀ x, Below w16.heap.size w16 x → x.cell? ⟨w11.heap.size, 1, none⟩ = some (.int .i64 y1.out) from fun x hx => (hx.cell (p := ⟨w11.heap.size, 1, none⟩) (by simp only []; omega)).trans Cx1_1.out)
  have Fa1_0 := Lib.hid (show ∀ x, Below w16.heap.size w16 x → x.cell? ⟨w.heap.size + 1, 0, none⟩ = some (.slice A1 y1.ops.length c1) from fun x hx => (hx.cell (p := ⟨w.heap.size + 1, 0, none⟩) (by simp only []; omega)).trans Ca1_0.out)
  have Fa1_1 := Lib.hid (show ∀ x, Below w16.heap.size w16 x → x.cell? ⟨w.heap.size + 1, 1, none⟩ = some (.int .i64 y1.out) from fun x hx => (hx.cell (p := ⟨w.heap.size + 1, 1, none⟩) (by simp only []; omega)).trans Ca1_1.out)
  have SD := Lib.hid (show Below w16.heap.size w16 w16.drew from (Below.refl _ _).drew)
  refine wp_region_T (fun x : World => Below w16.heap.size w16 x) [0, 1, 4] [0, 1] (.ls 0 (.ls 1 (.hv 2 (.hv 3 (.lp 4 (.done)))))) (by kernel_rfl) (by kernel_rfl) ?_
  refine T_ls1 (v := .agg #[.slice xA1 y1.ops.length xc1, .int .i64 y1.out]) rfl rfl SD.out (fun x hx => (by have h1 := Fx1_0.out x hx; have h2 := Fx1_1.out x hx; go_simp)) (fun K hK => ?_)
  (go_simp; refine hK _ ?_; clear hK K)
  refine T_ls1 (v := .agg #[.slice A1 y1.ops.length c1, .int .i64 y1.out]) rfl rfl SD.out (fun x hx => (by have h1 := Fa1_0.out x hx; have h2 := Fa1_1.out x hx; go_simp)) (fun K hK => ?_)
  (go_simp; refine hK _ ?_; clear hK K)
  refine T_hvS rfl (fun K hK => ?_)
  go_simp
  go_at_call 21
  generalize hwd : w16.drew = w17 at SD ⊢
  clear hwd
  have hbd := SD.out
  have hsw17 : w16.heap.size ≤ w17.heap.size := hbd.size
  have HB := Lib.hid (HB.out.trans (hbd.mono (by omega)))
  have Ca0_0 := Lib.hid ((hbd.cell (p := ⟨w.heap.size, 0, none⟩) (by simp only []; omega)).trans Ca0_0.out)
  have Ca0_1 := Lib.hid ((hbd.cell (p := ⟨w.heap.size, 1, none⟩) (by simp only []; omega)).trans Ca0_1.out)
  have Ca1_0 := Lib.hid ((hbd.cell (p := ⟨w.heap.size + 1, 0, none⟩) (by simp only []; omega)).trans Ca1_0.out)
  have Ca1_1 := Lib.hid ((hbd.cell (p := ⟨w.heap.size + 1, 1, none⟩) (by simp only []; omega)).trans Ca1_1.out)
  have Cx0_0 := Lib.hid ((hbd.cell (p := ⟨w9.heap.size, 0, none⟩) (by simp only []; omega)).trans Cx0_0.out)
  have Cx0_1 := Lib.hid ((hbd.cell (p := ⟨w9.heap.size, 1, none⟩) (by simp only []; omega)).trans Cx0_1.out)
  have Cx1_0 := Lib.hid ((hbd.cell (p := ⟨w11.heap.size, 0, none⟩) (by simp only []; omega)).trans Cx1_0.out)
  have Cx1_1 := Lib.hid ((hbd.cell (p := ⟨w11.heap.size, 1, none⟩) (by simp only []; omega)).trans Cx1_1.out)
  have Ox0 := Lib.hid (show OwD w17 w8.heap.size xA0 xc0 y0 from OwD.below Ox0.out hbd)
  have Ox1 := Lib.hid (show OwD w17 w10.heap.size xA1 xc1 y1 from OwD.below Ox1.out hbd)
  clear hbd
  have SBY := Lib.hid SD.out
  refine (toCode_any w.heap.size A1 c1 y1 w17 hl1 (by omega) (H1.out.below HB.out)).mono ?_
  rintro e w18 ⟨yA1, yc1, rfl, hown, hbel⟩
  have Oy1' := Lib.hid hown
  clear hown
  have hsw18 : w17.heap.size ≤ w18.heap.size := hbel.size
  have HB := Lib.hid (HB.out.trans (hbel.mono (by omega)))
  have Ca0_0 := Lib.hid ((hbel.cell (p := ⟨w.heap.size, 0, none⟩) (by simp only []; omega)).trans Ca0_0.out)
  have Ca0_1 := Lib.hid ((hbel.cell (p := ⟨w.heap.size, 1, none⟩) (by simp only []; omega)).trans Ca0_1.out)
  have Ca1_0 := Lib.hid ((hbel.cell (p := ⟨w.heap.size + 1, 0, none⟩) (by simp only []; omega)).trans Ca1_0.out)
  have Ca1_1 := Lib.hid ((hbel.cell (p := ⟨w.heap.size + 1, 1, none⟩) (by simp only []; omega)).trans Ca1_1.out)
  have Cx0_0 := Lib.hid ((hbel.cell (p := ⟨w9.heap.size, 0, none⟩) (by simp only []; omega)).trans Cx0_0.out)
  have Cx0_1 := Lib.hid ((hbel.cell (p := ⟨w9.heap.size, 1, none⟩) (by simp only []; omega)).trans Cx0_1.out)
  have Cx1_0 := Lib.hid ((hbel.cell (p := ⟨w11.heap.size, 0, none⟩) (by simp only []; omega)).trans Cx1_0.out)
  have Cx1_1 := Lib.hid ((hbel.cell (p := ⟨w11.heap.size, 1, none⟩) (by simp only []; omega)).trans Cx1_1.out)
  have Ox0 := Lib.hid (show OwD w18 w8.heap.size xA0 xc0 y0 from OwD.below Ox0.out hbel)
  have Ox1 := Lib.hid (show OwD w18 w10.heap.size xA1 xc1 y1 from OwD.below Ox1.out hbel)
  have SBY := Lib.hid (SBY.out.trans (hbel.mono (by omega)))
  clear hbel
  have Oy1 := Lib.hid (show OwD w18 w17.heap.size yA1 yc1 y1 from Oy1'.out)
  have Uy1 := Lib.hid (show ∀ k, (Value.slice yA1 y1.ops.length yc1).ownBlock = some k → k < w18.heap.size from fun k hk => (own_block Oy1.out k hk).2)
  clear Oy1'
  go_simp
  refine hK _ _ (SBY.out) ?_
  clear hK K
  (refine T_hv rfl (by kernel_rfl) (fun K hK => ?_); go_simp)
  go_at_call 23
  refine (eqCode_refl w18.heap.size w18.heap.size xA1 yA1 xc1 yc1 y1 w18 (by omega) (Nat.le_refl _) (Nat.le_refl _) (Ox1.out).rd (Oy1.out).rd).mono ?_
  rintro e w19 ⟨rfl, hbel⟩
  have hsw19 : w18.heap.size ≤ w19.heap.size := hbel.size
  have HB := Lib.hid (HB.out.trans (hbel.mono (by omega)))
  have Ca0_0 := Lib.hid ((hbel.cell (p := ⟨w.heap.size, 0, none⟩) (by simp only []; omega)).trans Ca0_0.out)
  have Ca0_1 := Lib.hid ((hbel.cell (p := ⟨w.heap.size, 1, none⟩) (by simp only []; omega)).trans Ca0_1.out)
  have Ca1_0 := Lib.hid ((hbel.cell (p := ⟨w.heap.size + 1, 0, none⟩) (by simp only []; omega)).trans Ca1_0.out)
  have Ca1_1 := Lib.hid ((hbel.cell (p := ⟨w.heap.size + 1, 1, none⟩) (by simp only []; omega)).trans Ca1_1.out)
  have Cx0_0 := Lib.hid ((hbel.cell (p := ⟨w9.heap.size, 0, none⟩) (by simp only []; omega)).trans Cx0_0.out)
  have Cx0_1 := Lib.hid ((hbel.cell (p := ⟨w9.heap.size, 1, none⟩) (by simp only []; omega)).trans Cx0_1.out)
  have Cx1_0 := Lib.hid ((hbel.cell (p := ⟨w11.heap.size, 0, none⟩) (by simp only []; omega)).trans Cx1_0.out)
  have Cx1_1 := Lib.hid ((hbel.cell (p := ⟨w11.heap.size, 1, none⟩) (by simp only []; omega)).trans Cx1_1.out)
  have Ox0 := Lib.hid (show OwD w19 w8.heap.size xA0 xc0 y0 from OwD.below Ox0.out hbel)
  have Ox1 := Lib.hid (show OwD w19 w10.heap.size xA1 xc1 y1 from OwD.below Ox1.out hbel)
  have Oy1 := Lib.hid (show OwD w19 w17.heap.size yA1 yc1 y1 from OwD.below Oy1.out hbel)
  clear hbel
  (go_simp; refine hK _ _ ?_; clear hK K)
  (repeat (first | (refine T_lp rfl (fun K hK => ?_); go_simp; refine hK _ ?_; clear hK K) | (refine T_ls rfl rfl (fun K hK => ?_); go_simp; refine hK _ ?_; clear hK K)))
  refine T_done ?_
  go_wp2
  go_ret
  exact ⟨rfl, HB.out⟩

end Go.Proofs.Ytpopomcaknbhnaa
