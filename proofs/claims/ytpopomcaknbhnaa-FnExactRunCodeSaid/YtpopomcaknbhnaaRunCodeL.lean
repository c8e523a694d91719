/- The walk of the law FnExactRunCode. -/
import Derived.Test.YtpopomcaknbhnaaGa6
import Derived.Test.YtpopomcaknbhnaaH8b
import Derived.Test.YtpopomcaknbhnaaH8n
namespace Go.Proofs.Ytpopomcaknbhnaa
open Go.ChangeShapes Go.WideShapes Go.ChangeAt Go.RowKit Go.Deep Go.Joins

set_option maxRecDepth 100000 in
set_option maxHeartbeats 8000000 in
theorem lawRunCode (A0 : Option Addr) (c0 : Nat) (y0 : Cd) (x1 : Int) (x2 : Int) (w : World) (hn0 : y0.ops.length ≤ 9223372036854775807) (hr0 : RdD w w.heap.size A0 y0) :
    Calls Try.prog 4 #[.agg #[.slice A0 y0.ops.length c0, .int .i64 y0.out], .int .i64 x1, .int .i64 x2] w fun e w' => e = .returned (.bool true) ∧ Below w.heap.size w w' := by
  have H0 := Lib.hid hr0
  clear hr0
  obtain ⟨sz0, hsz0⟩ : ∃ qx, szR 1048576 y0.ops.length = qx := ⟨_, rfl⟩
  have hsc0 := fun W => szCode_any A0 c0 y0 1048576 W (by omega) (by omega) hn0
  rw [hsz0] at hsc0
  have SZ0 := Lib.hid hsc0
  have SX0 := Lib.hid hsz0
  clear hsz0 hsc0
  go_enter Try.func4, Try.ntmps4
  go_wp2_with fail
  go_at_call 19
  generalize hww1 : World.alloc w _ = w1
  obtain ⟨x0', x1', hxw1, hbx⟩ := bx2 hww1
  clear hww1
  have hxP := hxw1
  have hsw1 : w.heap.size ≤ w1.heap.size := hbx.size
  have HB := Lib.hid hbx
  clear hbx
  have Ca0_0 := Lib.hid x0'
  have Ca0_1 := Lib.hid x1'
  clear x0' x1'
  refine (SZ0.out _).mono ?_
  rintro e w2 ⟨rfl, hbel⟩
  have hsw2 : w1.heap.size ≤ w2.heap.size := hbel.size
  have HB := Lib.hid (HB.out.trans (hbel.mono (by omega)))
  have Ca0_0 := Lib.hid ((hbel.cell (p := ⟨w.heap.size, 0, none⟩) (by simp only []; omega)).trans Ca0_0.out)
  have Ca0_1 := Lib.hid ((hbel.cell (p := ⟨w.heap.size, 1, none⟩) (by simp only []; omega)).trans Ca0_1.out)
  clear hbel
  by_cases hneg0 : sz0 < 0
  · go_wp2
    go_ret
    exact ⟨rfl, HB.out⟩
  have hl0 := szR_ok (n := y0.ops.length) (left := 1048576) (by omega) (by rw [SX0.out]; exact hneg0)
  obtain ⟨U0, hU0⟩ : ∃ gx, rcA8 y0 x1 x2 = gx := ⟨_, rfl⟩
  obtain ⟨U1, hU1⟩ : ∃ gx, rcG y0 x1 x2 = gx := ⟨_, rfl⟩
  have hspec := fun (W : World) A0' c0' => specRun8_any (World.heap W).size A0' c0' y0 x1 x2 W (Nat.le_refl _) hl0
  have himpl := fun (W : World) A0' c0' => implRun8_any (World.heap W).size A0' c0' y0 x1 x2 W (Nat.le_refl _) hl0
  rw [hU0, hU1] at hspec himpl
  have HSPEC := Lib.hid hspec
  have HIMPL := Lib.hid himpl
  clear hU0 hU1 hspec himpl
  have v1 := Ca0_0.out
  have v2 := Ca0_1.out
  go_wp2_with fail
  go_at_call 21
  clear v1 v2
  refine (toCode_any w.heap.size A0 c0 y0 w2 hl0 (by omega) (H0.out.below HB.out)).mono ?_
  rintro e w3 ⟨sA0, sc0, rfl, hown, hbel⟩
  have Os0' := Lib.hid hown
  clear hown
  have hsw3 : w2.heap.size ≤ w3.heap.size := hbel.size
  have HB := Lib.hid (HB.out.trans (hbel.mono (by omega)))
  have Ca0_0 := Lib.hid ((hbel.cell (p := ⟨w.heap.size, 0, none⟩) (by simp only []; omega)).trans Ca0_0.out)
  have Ca0_1 := Lib.hid ((hbel.cell (p := ⟨w.heap.size, 1, none⟩) (by simp only []; omega)).trans Ca0_1.out)
  clear hbel
  have Os0 := Lib.hid (show OwD w3 w2.heap.size sA0 sc0 y0 from Os0'.out)
  have Us0 := Lib.hid (show ∀ k, (Value.slice sA0 y0.ops.length sc0).ownBlock = some k → k < w3.heap.size from fun k hk => (own_block Os0.out k hk).2)
  clear Os0'
  go_wp2_with fail
  go_at_call 24
  refine (HSPEC.out w3 sA0 sc0 (Os0.out).cap (Os0.out).rd).mono ?_
  rintro e w4 ⟨rfl, hbel⟩
  have hsw4 : w3.heap.size ≤ w4.heap.size := hbel.size
  have HB := Lib.hid (HB.out.trans (hbel.mono (by omega)))
  have Ca0_0 := Lib.hid ((hbel.cell (p := ⟨w.heap.size, 0, none⟩) (by simp only []; omega)).trans Ca0_0.out)
  have Ca0_1 := Lib.hid ((hbel.cell (p := ⟨w.heap.size, 1, none⟩) (by simp only []; omega)).trans Ca0_1.out)
  have Os0 := Lib.hid (show OwD w4 w2.heap.size sA0 sc0 y0 from OwD.below Os0.out hbel)
  clear hbel
  have v3 := Ca0_0.out
  have v4 := Ca0_1.out
  go_wp2_with fail
  go_at_call 21
  clear v3 v4
  refine (toCode_any w.heap.size A0 c0 y0 w4 hl0 (by omega) (H0.out.below HB.out)).mono ?_
  rintro e w5 ⟨xA0, xc0, rfl, hown, hbel⟩
  have Ox0' := Lib.hid hown
  clear hown
  have hsw5 : w4.heap.size ≤ w5.heap.size := hbel.size
  have HB := Lib.hid (HB.out.trans (hbel.mono (by omega)))
  have Ca0_0 := Lib.hid ((hbel.cell (p := ⟨w.heap.size, 0, none⟩) (by simp only []; omega)).trans Ca0_0.out)
  have Ca0_1 := Lib.hid ((hbel.cell (p := ⟨w.heap.size, 1, none⟩) (by simp only []; omega)).trans Ca0_1.out)
  clear hbel
  have Ox0 := Lib.hid (show OwD w5 w4.heap.size xA0 xc0 y0 from Ox0'.out)
  have Ux0 := Lib.hid (show ∀ k, (Value.slice xA0 y0.ops.length xc0).ownBlock = some k → k < w5.heap.size from fun k hk => (own_block Ox0.out k hk).2)
  clear Ox0'
  go_wp2_with fail
  go_at_call 25
  generalize hww6 : World.alloc w5 _ = w6
  obtain ⟨x0', x1', hxw6, hbx⟩ := bx2 hww6
  clear hww6
  have hxP := hxw6
  have hsw6 : w5.heap.size ≤ w6.heap.size := hbx.size
  have HB := Lib.hid (HB.out.trans (hbx.mono (by omega)))
  have Ca0_0 := Lib.hid ((hbx.cell (p := ⟨w.heap.size, 0, none⟩) (by simp only []; omega)).trans Ca0_0.out)
  have Ca0_1 := Lib.hid ((hbx.cell (p := ⟨w.heap.size, 1, none⟩) (by simp only []; omega)).trans Ca0_1.out)
  have Ox0 := Lib.hid (show OwD w6 w4.heap.size xA0 xc0 y0 from OwD.below Ox0.out hbx)
  clear hbx
  have Cx0_0 := Lib.hid x0'
  have Cx0_1 := Lib.hid x1'
  clear x0' x1'
  refine (HIMPL.out w6 xA0 xc0 (Ox0.out).cap (Ox0.out).rd).mono ?_
  rintro e w7 ⟨rfl, hbel⟩
  have hsw7 : w6.heap.size ≤ w7.heap.size := hbel.size
  have HB := Lib.hid (HB.out.trans (hbel.mono (by omega)))
  have Ca0_0 := Lib.hid ((hbel.cell (p := ⟨w.heap.size, 0, none⟩) (by simp only []; omega)).trans Ca0_0.out)
  have Ca0_1 := Lib.hid ((hbel.cell (p := ⟨w.heap.size, 1, none⟩) (by simp only []; omega)).trans Ca0_1.out)
  have Cx0_0 := Lib.hid ((hbel.cell (p := ⟨w5.heap.size, 0, none⟩) (by simp only []; omega)).trans Cx0_0.out)
  have Cx0_1 := Lib.hid ((hbel.cell (p := ⟨w5.heap.size, 1, none⟩) (by simp only []; omega)).trans Cx0_1.out)
  have Ox0 := Lib.hid (show OwD w7 w4.heap.size xA0 xc0 y0 from OwD.below Ox0.out hbel)
  clear hbel
  go_wp2
  have Fx0_0 := Lib.hid (show ∀ x, Below w7.heap.size w7 x → x.cell? ⟨w5.heap.size, 0, none⟩ = some (.slice xA0 y0.ops.length xc0) from fun x hx => (hx.cell (p := ⟨w5.heap.size, 0, none⟩) (by simp only []; omega)).trans Cx0_0.out)
  have Fx0_1 := Lib.hid (show ∀ x, Below w7.heap.size w7 x → x.cell? ⟨w5.heap.size, 1, none⟩ = some (.int .i64 y0.out) from fun x hx => (hx.cell (p := ⟨w5.heap.size, 1, none⟩) (by simp only []; omega)).trans Cx0_1.out)
  have Fa0_0 := Lib.hid (show ∀ x, Below w7.heap.size w7 x → x.cell? ⟨w.heap.size, 0, none⟩ = some (.slice A0 y0.ops.length c0) from fun x hx => (hx.cell (p := ⟨w.heap.size, 0, none⟩) (by simp only []; omega)).trans Ca0_0.out)
  have Fa0_1 := Lib.hid (show ∀ x, Below w7.heap.size w7 x → x.cell? ⟨w.heap.size, 1, none⟩ = some (.int .i64 y0.out) from fun x hx => (hx.cell (p := ⟨w.heap.size, 1, none⟩) (by simp only []; omega)).trans Ca0_1.out)
  have SD := Lib.hid (show Below w7.heap.size w7 w7.drew from (Below.refl _ _).drew)
  refine wp_region_T (fun x : World => Below w7.heap.size w7 x) [0, 1, 4] [0, 1] (.ls 0 (.ls 1 (.hv 2 (.hv 3 (.lp 4 (.done)))))) (by kernel_rfl) (by kernel_rfl) ?_
  refine T_ls1 (v := .agg #[.slice xA0 y0.ops.length xc0, .int .i64 y0.out]) rfl rfl SD.out (fun x hx => (by have h1 := Fx0_0.out x hx; have h2 := Fx0_1.out x hx; go_simp)) (fun K hK => ?_)
  (go_simp; refine hK _ ?_; clear hK K)
  refine T_ls1 (v := .agg #[.slice A0 y0.ops.length c0, .int .i64 y0.out]) rfl rfl SD.out (fun x hx => (by have h1 := Fa0_0.out x hx; have h2 := Fa0_1.out x hx; go_simp)) (fun K hK => ?_)
  (go_simp; refine hK _ ?_; clear hK K)
  refine T_hvS rfl (fun K hK => ?_)
  go_simp
  go_at_call 21
  generalize hwd : w7.drew = w8 at SD ⊢
  clear hwd
  have hbd := SD.out
  have hsw8 : w7.heap.size ≤ w8.heap.size := hbd.size
  have HB := Lib.hid (HB.out.trans (hbd.mono (by omega)))
  have Ca0_0 := Lib.hid ((hbd.cell (p := ⟨w.heap.size, 0, none⟩) (by simp only []; omega)).trans Ca0_0.out)
  have Ca0_1 := Lib.hid ((hbd.cell (p := ⟨w.heap.size, 1, none⟩) (by simp only []; omega)).trans Ca0_1.out)
  have Cx0_0 := Lib.hid ((hbd.cell (p := ⟨w5.heap.size, 0, none⟩) (by simp only []; omega)).trans Cx0_0.out)
  have Cx0_1 := Lib.hid ((hbd.cell (p := ⟨w5.heap.size, 1, none⟩) (by simp only []; omega)).trans Cx0_1.out)
  have Ox0 := Lib.hid (show OwD w8 w4.heap.size xA0 xc0 y0 from OwD.below Ox0.out hbd)
  clear hbd
  have SBY := Lib.hid SD.out
  refine (toCode_any w.heap.size A0 c0 y0 w8 hl0 (by omega) (H0.out.below HB.out)).mono ?_
  rintro e w9 ⟨yA0, yc0, rfl, hown, hbel⟩
  have Oy0' := Lib.hid hown
  clear hown
  have hsw9 : w8.heap.size ≤ w9.heap.size := hbel.size
  have HB := Lib.hid (HB.out.trans (hbel.mono (by omega)))
  have Ca0_0 := Lib.hid ((hbel.cell (p := ⟨w.heap.size, 0, none⟩) (by simp only []; omega)).trans Ca0_0.out)
  have Ca0_1 := Lib.hid ((hbel.cell (p := ⟨w.heap.size, 1, none⟩) (by simp only []; omega)).trans Ca0_1.out)
  have Cx0_0 := Lib.hid ((hbel.cell (p := ⟨w5.heap.size, 0, none⟩) (by simp only []; omega)).trans Cx0_0.out)
  have Cx0_1 := Lib.hid ((hbel.cell (p := ⟨w5.heap.size, 1, none⟩) (by simp only []; omega)).trans Cx0_1.out)
  have Ox0 := Lib.hid (show OwD w9 w4.heap.size xA0 xc0 y0 from OwD.below Ox0.out hbel)
  have SBY := Lib.hid (SBY.out.trans (hbel.mono (by omega)))
  clear hbel
  have Oy0 := Lib.hid (show OwD w9 w8.heap.size yA0 yc0 y0 from Oy0'.out)
  have Uy0 := Lib.hid (show ∀ k, (Value.slice yA0 y0.ops.length yc0).ownBlock = some k → k < w9.heap.size from fun k hk => (own_block Oy0.out k hk).2)
  clear Oy0'
  go_simp
  refine hK _ _ (SBY.out) ?_
  clear hK K
  (refine T_hv rfl (by kernel_rfl) (fun K hK => ?_); go_simp)
  go_at_call 23
  refine (eqCode_refl w9.heap.size w9.heap.size xA0 yA0 xc0 yc0 y0 w9 (by omega) (Nat.le_refl _) (Nat.le_refl _) (Ox0.out).rd (Oy0.out).rd).mono ?_
  rintro e w10 ⟨rfl, hbel⟩
  have hsw10 : w9.heap.size ≤ w10.heap.size := hbel.size
  have HB := Lib.hid (HB.out.trans (hbel.mono (by omega)))
  have Ca0_0 := Lib.hid ((hbel.cell (p := ⟨w.heap.size, 0, none⟩) (by simp only []; omega)).trans Ca0_0.out)
  have Ca0_1 := Lib.hid ((hbel.cell (p := ⟨w.heap.size, 1, none⟩) (by simp only []; omega)).trans Ca0_1.out)
  have Cx0_0 := Lib.hid ((hbel.cell (p := ⟨w5.heap.size, 0, none⟩) (by simp only []; omega)).trans Cx0_0.out)
  have Cx0_1 := Lib.hid ((hbel.cell (p := ⟨w5.heap.size, 1, none⟩) (by simp only []; omega)).trans Cx0_1.out)
  have Ox0 := Lib.hid (show OwD w10 w4.heap.size xA0 xc0 y0 from OwD.below Ox0.out hbel)
  have Oy0 := Lib.hid (show OwD w10 w8.heap.size yA0 yc0 y0 from OwD.below Oy0.out hbel)
  clear hbel
  (go_simp; refine hK _ _ ?_; clear hK K)
  (repeat (first | (refine T_lp rfl (fun K hK => ?_); go_simp; refine hK _ ?_; clear hK K) | (refine T_ls rfl rfl (fun K hK => ?_); go_simp; refine hK _ ?_; clear hK K)))
  refine T_done ?_
  go_wp2
  go_ret
  exact ⟨rfl, HB.out⟩

end Go.Proofs.Ytpopomcaknbhnaa
