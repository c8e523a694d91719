/- The law FnExactCheckRegCode holds: for every argument, valid or not, CheckRegCode of the program answers as CheckRegCode of the model, writes into no argument, and its answer owns its memory. No condition. -/
import Derived.Test.YtbbjgcagkmlngaaPR0
import Derived.Test.YtbbjgcagkmlngaaPR1
import Derived.Test.YtbbjgcagkmlngaaPU0
namespace Go.Proofs.Ytbbjgcagkmlngaa
open Go.ChangeShapes Go.WideShapes Go.ChangeAt Go.RowKit Go.Deep Go.Joins

set_option maxRecDepth 100000 in
set_option maxHeartbeats 8000000 in
theorem lawCheckRegCode (A0 : Option Addr) (B0 : Option Addr) (G0 : Option Addr) (c0 : Nat) (d0 : Nat) (g0 : Nat) (q0 : Rc) (A1 : Option Addr) (B1 : Option Addr) (c1 : Nat) (d1 : Nat) (p1 : Pl) (w : World) (hn0 : q0.i.length ≤ 9223372036854775807) (hm0 : q0.ops.length ≤ 9223372036854775807) (ho0 : q0.o.length ≤ 9223372036854775807) (hr0 : RdC w w.heap.size A0 B0 G0 q0) (hn1 : p1.s.length ≤ 9223372036854775807) (hm1 : p1.o.length ≤ 9223372036854775807) (hr1 : RdP w w.heap.size A1 B1 p1) :
    Calls Try.prog 9 #[.agg #[.int .i64 q0.r, .slice A0 q0.i.length c0, .slice B0 q0.ops.length d0, .slice G0 q0.o.length g0], .agg #[.int .i64 p1.n, .slice A1 p1.s.length c1, .slice B1 p1.o.length d1]] w fun e w' => e = .returned (.bool true) ∧ Below w.heap.size w w' := by
  have H0 := Lib.hid hr0
  clear hr0
  have H1 := Lib.hid hr1
  clear hr1
  obtain ⟨sz0, hsz0⟩ : ∃ qx, szRc q0 1048576 = qx := ⟨_, rfl⟩
  have hsc0 := fun W => szRegCode_any A0 B0 G0 c0 d0 g0 q0 1048576 W (by omega) (by omega) hn0 hm0 ho0
  rw [hsz0] at hsc0
  have hbz0 := szRc_bd (c := q0) (left := 1048576) (by omega) (by omega)
  rw [hsz0] at hbz0
  obtain ⟨hbz0, hbz0'⟩ := hbz0
  have SZ0 := Lib.hid hsc0
  have SX0 := Lib.hid hsz0
  clear hsz0 hsc0
  obtain ⟨sz1, hsz1⟩ : ∃ qx, szPl p1 sz0 = qx := ⟨_, rfl⟩
  have hsc1 := fun W => szPlan_any A1 B1 c1 d1 p1 sz0 W (by omega) (by omega) hn1 hm1
  rw [hsz1] at hsc1
  have SZ1 := Lib.hid hsc1
  have SX1 := Lib.hid hsz1
  clear hsz1 hsc1
  go_enter Try.func9, Try.ntmps9
  go_wp2_with fail
  go_at_call 15
  generalize hww1 : World.alloc w _ = w1
  obtain ⟨x0', x1', x2', x3', hxw1, hbx⟩ := bx4 hww1
  clear hww1
  have hxP := hxw1
  have hsw1 : w.heap.size ≤ w1.heap.size := hbx.size
  have HB := Lib.hid hbx
  clear hbx
  have Ca0_0 := Lib.hid x0'
  have Ca0_1 := Lib.hid x1'
  have Ca0_2 := Lib.hid x2'
  have Ca0_3 := Lib.hid x3'
  clear x0' x1' x2' x3'
  generalize hww2 : World.alloc w1 _ = w2
  obtain ⟨x0', x1', x2', hxw2, hbx⟩ := bx3 hww2
  clear hww2
  rw [hxP] at x0' x1' x2'
  have hxP := (show w2.heap.size = w.heap.size + 1 + 1 by omega)
  have hsw2 : w1.heap.size ≤ w2.heap.size := hbx.size
  have HB := Lib.hid (HB.out.trans (hbx.mono (by omega)))
  have Ca0_0 := Lib.hid ((hbx.cell (p := ⟨w.heap.size, 0, none⟩) (by simp only []; omega)).trans Ca0_0.out)
  have Ca0_1 := Lib.hid ((hbx.cell (p := ⟨w.heap.size, 1, none⟩) (by simp only []; omega)).trans Ca0_1.out)
  have Ca0_2 := Lib.hid ((hbx.cell (p := ⟨w.heap.size, 2, none⟩) (by simp only []; omega)).trans Ca0_2.out)
  have Ca0_3 := Lib.hid ((hbx.cell (p := ⟨w.heap.size, 3, none⟩) (by simp only []; omega)).trans Ca0_3.out)
  clear hbx
  have Ca1_0 := Lib.hid x0'
  have Ca1_1 := Lib.hid x1'
  have Ca1_2 := Lib.hid x2'
  clear x0' x1' x2'
  refine (SZ0.out _).mono ?_
  rintro e w3 ⟨rfl, hbel⟩
  have hsw3 : w2.heap.size ≤ w3.heap.size := hbel.size
  have HB := Lib.hid (HB.out.trans (hbel.mono (by omega)))
  have Ca0_0 := Lib.hid ((hbel.cell (p := ⟨w.heap.size, 0, none⟩) (by simp only []; omega)).trans Ca0_0.out)
  have Ca0_1 := Lib.hid ((hbel.cell (p := ⟨w.heap.size, 1, none⟩) (by simp only []; omega)).trans Ca0_1.out)
  have Ca0_2 := Lib.hid ((hbel.cell (p := ⟨w.heap.size, 2, none⟩) (by simp only []; omega)).trans Ca0_2.out)
  have Ca0_3 := Lib.hid ((hbel.cell (p := ⟨w.heap.size, 3, none⟩) (by simp only []; omega)).trans Ca0_3.out)
  have Ca1_0 := Lib.hid ((hbel.cell (p := ⟨w.heap.size + 1, 0, none⟩) (by simp only []; omega)).trans Ca1_0.out)
  have Ca1_1 := Lib.hid ((hbel.cell (p := ⟨w.heap.size + 1, 1, none⟩) (by simp only []; omega)).trans Ca1_1.out)
  have Ca1_2 := Lib.hid ((hbel.cell (p := ⟨w.heap.size + 1, 2, none⟩) (by simp only []; omega)).trans Ca1_2.out)
  clear hbel
  by_cases hneg0 : sz0 < 0
  · go_wp2
    go_ret
    exact ⟨rfl, HB.out⟩
  obtain ⟨hli0, hlp0, hlo0⟩ := szRc_ok (c := q0) (left := 1048576) (by omega) (by rw [SX0.out]; exact hneg0)
  have v1 := Ca1_0.out
  have v2 := Ca1_1.out
  have v3 := Ca1_2.out
  go_wp2_with fail
  go_at_call 32
  clear v1 v2 v3
  refine (SZ1.out _).mono ?_
  rintro e w4 ⟨rfl, hbel⟩
  have hsw4 : w3.heap.size ≤ w4.heap.size := hbel.size
  have HB := Lib.hid (HB.out.trans (hbel.mono (by omega)))
  have Ca0_0 := Lib.hid ((hbel.cell (p := ⟨w.heap.size, 0, none⟩) (by simp only []; omega)).trans Ca0_0.out)
  have Ca0_1 := Lib.hid ((hbel.cell (p := ⟨w.heap.size, 1, none⟩) (by simp only []; omega)).trans Ca0_1.out)
  have Ca0_2 := Lib.hid ((hbel.cell (p := ⟨w.heap.size, 2, none⟩) (by simp only []; omega)).trans Ca0_2.out)
  have Ca0_3 := Lib.hid ((hbel.cell (p := ⟨w.heap.size, 3, none⟩) (by simp only []; omega)).trans Ca0_3.out)
  have Ca1_0 := Lib.hid ((hbel.cell (p := ⟨w.heap.size + 1, 0, none⟩) (by simp only []; omega)).trans Ca1_0.out)
  have Ca1_1 := Lib.hid ((hbel.cell (p := ⟨w.heap.size + 1, 1, none⟩) (by simp only []; omega)).trans Ca1_1.out)
  have Ca1_2 := Lib.hid ((hbel.cell (p := ⟨w.heap.size + 1, 2, none⟩) (by simp only []; omega)).trans Ca1_2.out)
  clear hbel
  by_cases hneg1 : sz1 < 0
  · go_wp2
    go_ret
    exact ⟨rfl, HB.out⟩
  obtain ⟨hl1, ho1⟩ := szPl_ok2 (p := p1) (left := sz0) (by omega) (by rw [SX1.out]; exact hneg1)
  obtain ⟨U0, hU0⟩ : ∃ gx, ckV q0 p1 = gx := ⟨_, rfl⟩
  obtain ⟨U1, hU1⟩ : ∃ gx, ckG q0 p1 = gx := ⟨_, rfl⟩
  have hspec := fun (W : World) A0' B0' G0' c0' d0' g0' A1' B1' c1' d1' => specCheck_any (World.heap W).size A0' B0' G0' c0' d0' g0' q0 A1' B1' c1' d1' p1 W (Nat.le_refl _) hli0 hlp0 hlo0 hl1 ho1
  have himpl := fun (W : World) A0' B0' G0' c0' d0' g0' A1' B1' c1' d1' => implCheck_any (World.heap W).size A0' B0' G0' c0' d0' g0' q0 A1' B1' c1' d1' p1 W (Nat.le_refl _) hli0 hlp0 hlo0 hl1 ho1
  rw [hU0, hU1] at hspec himpl
  have HSPEC := Lib.hid hspec
  have HIMPL := Lib.hid himpl
  clear hU0 hU1 hspec himpl
  go_wp2
  have Fs0_0 := Lib.hid (show ∀ x, Below w4.heap.size w4 x → x.cell? ⟨w.heap.size, 0, none⟩ = some (.int .i64 q0.r) from fun x hx => (hx.cell (p := ⟨w.heap.size, 0, none⟩) (by simp only []; omega)).trans Ca0_0.out)
  have Fs0_1 := Lib.hid (show ∀ x, Below w4.heap.size w4 x → x.cell? ⟨w.heap.size, 1, none⟩ = some (.slice A0 q0.i.length c0) from fun x hx => (hx.cell (p := ⟨w.heap.size, 1, none⟩) (by simp only []; omega)).trans Ca0_1.out)
  have Fs0_2 := Lib.hid (show ∀ x, Below w4.heap.size w4 x → x.cell? ⟨w.heap.size, 2, none⟩ = some (.slice B0 q0.ops.length d0) from fun x hx => (hx.cell (p := ⟨w.heap.size, 2, none⟩) (by simp only []; omega)).trans Ca0_2.out)
  have Fs0_3 := Lib.hid (show ∀ x, Below w4.heap.size w4 x → x.cell? ⟨w.heap.size, 3, none⟩ = some (.slice G0 q0.o.length g0) from fun x hx => (hx.cell (p := ⟨w.heap.size, 3, none⟩) (by simp only []; omega)).trans Ca0_3.out)
  have Fs1_0 := Lib.hid (show ∀ x, Below w4.heap.size w4 x → x.cell? ⟨w.heap.size + 1, 0, none⟩ = some (.int .i64 p1.n) from fun x hx => (hx.cell (p := ⟨w.heap.size + 1, 0, none⟩) (by simp only []; omega)).trans Ca1_0.out)
  have Fs1_1 := Lib.hid (show ∀ x, Below w4.heap.size w4 x → x.cell? ⟨w.heap.size + 1, 1, none⟩ = some (.slice A1 p1.s.length c1) from fun x hx => (hx.cell (p := ⟨w.heap.size + 1, 1, none⟩) (by simp only []; omega)).trans Ca1_1.out)
  have Fs1_2 := Lib.hid (show ∀ x, Below w4.heap.size w4 x → x.cell? ⟨w.heap.size + 1, 2, none⟩ = some (.slice B1 p1.o.length d1) from fun x hx => (hx.cell (p := ⟨w.heap.size + 1, 2, none⟩) (by simp only []; omega)).trans Ca1_2.out)
  have SD := Lib.hid (show Below w4.heap.size w4 w4.drew from (Below.refl _ _).drew)
  refine wp_region_T (fun x : World => Below w4.heap.size w4 x) [0, 2, 5, 6, 7, 8, 9] [0, 2] (.ls 0 (.ls 2 (.hv 1 (.hv 3 (.hv 4 (.lp 5 (.lp 6 (.lp 7 (.lp 8 (.lp 9 (.done))))))))))) (by kernel_rfl) (by kernel_rfl) ?_
  (repeat (refine T_lp rfl (fun K hK => ?_); go_simp; refine hK _ ?_; clear hK K))
  refine T_ls1 (v := .agg #[.int .i64 q0.r, .slice A0 q0.i.length c0, .slice B0 q0.ops.length d0, .slice G0 q0.o.length g0]) rfl rfl SD.out (fun x hx => (by have h1 := Fs0_0.out x hx; have h2 := Fs0_1.out x hx; have h3 := Fs0_2.out x hx; have h4 := Fs0_3.out x hx; go_simp)) (fun K hK => ?_)
  (go_simp; refine hK _ ?_; clear hK K)
  refine T_ls1 (v := .agg #[.int .i64 p1.n, .slice A1 p1.s.length c1, .slice B1 p1.o.length d1]) rfl rfl SD.out (fun x hx => (by have h1 := Fs1_0.out x hx; have h2 := Fs1_1.out x hx; have h3 := Fs1_2.out x hx; go_simp)) (fun K hK => ?_)
  (go_simp; refine hK _ ?_; clear hK K)
  refine T_hvS rfl (fun K hK => ?_)
  go_simp
  go_at_call 17
  generalize hwd : w4.drew = w5 at SD ⊢
  clear hwd
  have hbd := SD.out
  have hsw5 : w4.heap.size ≤ w5.heap.size := hbd.size
  have HB := Lib.hid (HB.out.trans (hbd.mono (by omega)))
  have Ca0_0 := Lib.hid ((hbd.cell (p := ⟨w.heap.size, 0, none⟩) (by simp only []; omega)).trans Ca0_0.out)
  have Ca0_1 := Lib.hid ((hbd.cell (p := ⟨w.heap.size, 1, none⟩) (by simp only []; omega)).trans Ca0_1.out)
  have Ca0_2 := Lib.hid ((hbd.cell (p := ⟨w.heap.size, 2, none⟩) (by simp only []; omega)).trans Ca0_2.out)
  have Ca0_3 := Lib.hid ((hbd.cell (p := ⟨w.heap.size, 3, none⟩) (by simp only []; omega)).trans Ca0_3.out)
  have Ca1_0 := Lib.hid ((hbd.cell (p := ⟨w.heap.size + 1, 0, none⟩) (by simp only []; omega)).trans Ca1_0.out)
  have Ca1_1 := Lib.hid ((hbd.cell (p := ⟨w.heap.size + 1, 1, none⟩) (by simp only []; omega)).trans Ca1_1.out)
  have Ca1_2 := Lib.hid ((hbd.cell (p := ⟨w.heap.size + 1, 2, none⟩) (by simp only []; omega)).trans Ca1_2.out)
  clear hbd
  have SBY := Lib.hid SD.out
  refine (toRegCode_any w.heap.size A0 B0 G0 c0 d0 g0 q0 w5 hli0 hlp0 hlo0 (by omega) (H0.out.below HB.out)).mono ?_
  rintro e w6 ⟨sA0, sB0, sG0, sc0, sd0, sg0, rfl, hown, hbel⟩
  have Os0' := Lib.hid hown
  clear hown
  have hsw6 : w5.heap.size ≤ w6.heap.size := hbel.size
  have HB := Lib.hid (HB.out.trans (hbel.mono (by omega)))
  have Ca0_0 := Lib.hid ((hbel.cell (p := ⟨w.heap.size, 0, none⟩) (by simp only []; omega)).trans Ca0_0.out)
  have Ca0_1 := Lib.hid ((hbel.cell (p := ⟨w.heap.size, 1, none⟩) (by simp only []; omega)).trans Ca0_1.out)
  have Ca0_2 := Lib.hid ((hbel.cell (p := ⟨w.heap.size, 2, none⟩) (by simp only []; omega)).trans Ca0_2.out)
  have Ca0_3 := Lib.hid ((hbel.cell (p := ⟨w.heap.size, 3, none⟩) (by simp only []; omega)).trans Ca0_3.out)
  have Ca1_0 := Lib.hid ((hbel.cell (p := ⟨w.heap.size + 1, 0, none⟩) (by simp only []; omega)).trans Ca1_0.out)
  have Ca1_1 := Lib.hid ((hbel.cell (p := ⟨w.heap.size + 1, 1, none⟩) (by simp only []; omega)).trans Ca1_1.out)
  have Ca1_2 := Lib.hid ((hbel.cell (p := ⟨w.heap.size + 1, 2, none⟩) (by simp only []; omega)).trans Ca1_2.out)
  have SBY := Lib.hid (SBY.out.trans (hbel.mono (by omega)))
  clear hbel
  have Os0 := Lib.hid (show OwC w6 w5.heap.size sA0 sB0 sG0 sc0 sd0 sg0 q0 from Os0'.out)
  have Us0 := Lib.hid (show (∀ k, (Value.slice sA0 q0.i.length sc0).ownBlock = some k → k < w6.heap.size) ∧ (∀ k, (Value.slice sB0 q0.ops.length sd0).ownBlock = some k → k < w6.heap.size) ∧ (∀ k, (Value.slice sG0 q0.o.length sg0).ownBlock = some k → k < w6.heap.size) from ⟨fun k hk => (own_block (Os0.out).1 k hk).2, fun k hk => (own_block (Os0.out).2.1 k hk).2, fun k hk => (own_block (Os0.out).2.2.1 k hk).2⟩)
  clear Os0'
  go_simp
  refine hK _ _ (SBY.out) ?_
  clear hK K
  refine T_hvS rfl (fun K hK => ?_)
  go_simp
  go_at_call 34
  refine (toPlan_any w.heap.size A1 B1 c1 d1 p1 w6 hl1 ho1 (by omega) (H1.out.below HB.out)).mono ?_
  rintro e w7 ⟨sA1, sB1, sc1, sd1, rfl, hown, hbel⟩
  have Os1' := Lib.hid hown
  clear hown
  have hsw7 : w6.heap.size ≤ w7.heap.size := hbel.size
  have HB := Lib.hid (HB.out.trans (hbel.mono (by omega)))
  have Ca0_0 := Lib.hid ((hbel.cell (p := ⟨w.heap.size, 0, none⟩) (by simp only []; omega)).trans Ca0_0.out)
  have Ca0_1 := Lib.hid ((hbel.cell (p := ⟨w.heap.size, 1, none⟩) (by simp only []; omega)).trans Ca0_1.out)
  have Ca0_2 := Lib.hid ((hbel.cell (p := ⟨w.heap.size, 2, none⟩) (by simp only []; omega)).trans Ca0_2.out)
  have Ca0_3 := Lib.hid ((hbel.cell (p := ⟨w.heap.size, 3, none⟩) (by simp only []; omega)).trans Ca0_3.out)
  have Ca1_0 := Lib.hid ((hbel.cell (p := ⟨w.heap.size + 1, 0, none⟩) (by simp only []; omega)).trans Ca1_0.out)
  have Ca1_1 := Lib.hid ((hbel.cell (p := ⟨w.heap.size + 1, 1, none⟩) (by simp only []; omega)).trans Ca1_1.out)
  have Ca1_2 := Lib.hid ((hbel.cell (p := ⟨w.heap.size + 1, 2, none⟩) (by simp only []; omega)).trans Ca1_2.out)
  have Os0 := Lib.hid (show OwC w7 w5.heap.size sA0 sB0 sG0 sc0 sd0 sg0 q0 from OwC.below Os0.out hbel)
  have SBY := Lib.hid (SBY.out.trans (hbel.mono (by omega)))
  clear hbel
  have Os1 := Lib.hid (show OwP w7 w6.heap.size sA1 sB1 sc1 sd1 p1 from Os1'.out)
  have Us1 := Lib.hid (show (∀ k, (Value.slice sA1 p1.s.length sc1).ownBlock = some k → k < w7.heap.size) ∧ (∀ k, (Value.slice sB1 p1.o.length sd1).ownBlock = some k → k < w7.heap.size) from ⟨fun k hk => (own_block (Os1.out).1 k hk).2, fun k hk => (own_block (Os1.out).2 k hk).2⟩)
  clear Os1'
  go_simp
  refine hK _ _ (SBY.out) ?_
  clear hK K
  refine T_hvS rfl (fun K hK => ?_)
  go_simp
  go_at_call 41
  refine (HSPEC.out w7 sA0 sB0 sG0 sc0 sd0 sg0 sA1 sB1 sc1 sd1 (Os0.out).cap (Os0.out).rd (Os1.out).rd).mono ?_
  rintro e w8 ⟨rfl, hbel⟩
  have hsw8 : w7.heap.size ≤ w8.heap.size := hbel.size
  have HB := Lib.hid (HB.out.trans (hbel.mono (by omega)))
  have Ca0_0 := Lib.hid ((hbel.cell (p := ⟨w.heap.size, 0, none⟩) (by simp only []; omega)).trans Ca0_0.out)
  have Ca0_1 := Lib.hid ((hbel.cell (p := ⟨w.heap.size, 1, none⟩) (by simp only []; omega)).trans Ca0_1.out)
  have Ca0_2 := Lib.hid ((hbel.cell (p := ⟨w.heap.size, 2, none⟩) (by simp only []; omega)).trans Ca0_2.out)
  have Ca0_3 := Lib.hid ((hbel.cell (p := ⟨w.heap.size, 3, none⟩) (by simp only []; omega)).trans Ca0_3.out)
  have Ca1_0 := Lib.hid ((hbel.cell (p := ⟨w.heap.size + 1, 0, none⟩) (by simp only []; omega)).trans Ca1_0.out)
  have Ca1_1 := Lib.hid ((hbel.cell (p := ⟨w.heap.size + 1, 1, none⟩) (by simp only []; omega)).trans Ca1_1.out)
  have Ca1_2 := Lib.hid ((hbel.cell (p := ⟨w.heap.size + 1, 2, none⟩) (by simp only []; omega)).trans Ca1_2.out)
  have Os0 := Lib.hid (show OwC w8 w5.heap.size sA0 sB0 sG0 sc0 sd0 sg0 q0 from OwC.below Os0.out hbel)
  have Os1 := Lib.hid (show OwP w8 w6.heap.size sA1 sB1 sc1 sd1 p1 from OwP.below Os1.out hbel)
  have SBY := Lib.hid (SBY.out.trans (hbel.mono (by omega)))
  clear hbel
  go_simp
  refine hK _ _ (SBY.out) ?_
  clear hK K
  (repeat (first | (refine T_lp rfl (fun K hK => ?_); go_simp; refine hK _ ?_; clear hK K) | (refine T_ls rfl rfl (fun K hK => ?_); go_simp; refine hK _ ?_; clear hK K)))
  refine T_done ?_
  have v4 := Ca0_0.out
  have v5 := Ca0_1.out
  have v6 := Ca0_2.out
  have v7 := Ca0_3.out
  go_wp2_with fail
  go_at_call 17
  clear v4 v5 v6 v7
  refine (toRegCode_any w.heap.size A0 B0 G0 c0 d0 g0 q0 w8 hli0 hlp0 hlo0 (by omega) (H0.out.below HB.out)).mono ?_
  rintro e w9 ⟨xA0, xB0, xG0, xc0, xd0, xg0, rfl, hown, hbel⟩
  have Ox0' := Lib.hid hown
  clear hown
  have hsw9 : w8.heap.size ≤ w9.heap.size := hbel.size
  have HB := Lib.hid (HB.out.trans (hbel.mono (by omega)))
  have Ca0_0 := Lib.hid ((hbel.cell (p := ⟨w.heap.size, 0, none⟩) (by simp only []; omega)).trans Ca0_0.out)
  have Ca0_1 := Lib.hid ((hbel.cell (p := ⟨w.heap.size, 1, none⟩) (by simp only []; omega)).trans Ca0_1.out)
  have Ca0_2 := Lib.hid ((hbel.cell (p := ⟨w.heap.size, 2, none⟩) (by simp only []; omega)).trans Ca0_2.out)
  have Ca0_3 := Lib.hid ((hbel.cell (p := ⟨w.heap.size, 3, none⟩) (by simp only []; omega)).trans Ca0_3.out)
  have Ca1_0 := Lib.hid ((hbel.cell (p := ⟨w.heap.size + 1, 0, none⟩) (by simp only []; omega)).trans Ca1_0.out)
  have Ca1_1 := Lib.hid ((hbel.cell (p := ⟨w.heap.size + 1, 1, none⟩) (by simp only []; omega)).trans Ca1_1.out)
  have Ca1_2 := Lib.hid ((hbel.cell (p := ⟨w.heap.size + 1, 2, none⟩) (by simp only []; omega)).trans Ca1_2.out)
  clear hbel
  have Ox0 := Lib.hid (show OwC w9 w8.heap.size xA0 xB0 xG0 xc0 xd0 xg0 q0 from Ox0'.out)
  have Ux0 := Lib.hid (show (∀ k, (Value.slice xA0 q0.i.length xc0).ownBlock = some k → k < w9.heap.size) ∧ (∀ k, (Value.slice xB0 q0.ops.length xd0).ownBlock = some k → k < w9.heap.size) ∧ (∀ k, (Value.slice xG0 q0.o.length xg0).ownBlock = some k → k < w9.heap.size) from ⟨fun k hk => (own_block (Ox0.out).1 k hk).2, fun k hk => (own_block (Ox0.out).2.1 k hk).2, fun k hk => (own_block (Ox0.out).2.2.1 k hk).2⟩)
  clear Ox0'
  have v8 := cell_kept Ca1_0.out
  have v9 := cell_kept Ca1_1.out
  have v10 := cell_kept Ca1_2.out
  go_wp2_with fail
  go_at_call 34
  clear v8 v9 v10
  generalize hww10 : World.alloc w9 _ = w10
  obtain ⟨x0', x1', x2', x3', hxw10, hbx⟩ := bx4 hww10
  clear hww10
  have hxP := hxw10
  have hsw10 : w9.heap.size ≤ w10.heap.size := hbx.size
  have HB := Lib.hid (HB.out.trans (hbx.mono (by omega)))
  have Ca0_0 := Lib.hid ((hbx.cell (p := ⟨w.heap.size, 0, none⟩) (by simp only []; omega)).trans Ca0_0.out)
  have Ca0_1 := Lib.hid ((hbx.cell (p := ⟨w.heap.size, 1, none⟩) (by simp only []; omega)).trans Ca0_1.out)
  have Ca0_2 := Lib.hid ((hbx.cell (p := ⟨w.heap.size, 2, none⟩) (by simp only []; omega)).trans Ca0_2.out)
  have Ca0_3 := Lib.hid ((hbx.cell (p := ⟨w.heap.size, 3, none⟩) (by simp only []; omega)).trans Ca0_3.out)
  have Ca1_0 := Lib.hid ((hbx.cell (p := ⟨w.heap.size + 1, 0, none⟩) (by simp only []; omega)).trans Ca1_0.out)
  have Ca1_1 := Lib.hid ((hbx.cell (p := ⟨w.heap.size + 1, 1, none⟩) (by simp only []; omega)).trans Ca1_1.out)
  have Ca1_2 := Lib.hid ((hbx.cell (p := ⟨w.heap.size + 1, 2, none⟩) (by simp only []; omega)).trans Ca1_2.out)
  have Ox0 := Lib.hid (show OwC w10 w8.heap.size xA0 xB0 xG0 xc0 xd0 xg0 q0 from OwC.below Ox0.out hbx)
  clear hbx
  have Cx0_0 := Lib.hid x0'
  have Cx0_1 := Lib.hid x1'
  have Cx0_2 := Lib.hid x2'
  have Cx0_3 := Lib.hid x3'
  clear x0' x1' x2' x3'
  refine (toPlan_any w.heap.size A1 B1 c1 d1 p1 w10 hl1 ho1 (by omega) (H1.out.below HB.out)).mono ?_
  rintro e w11 ⟨xA1, xB1, xc1, xd1, rfl, hown, hbel⟩
  have Ox1' := Lib.hid hown
  clear hown
  have hsw11 : w10.heap.size ≤ w11.heap.size := hbel.size
  have HB := Lib.hid (HB.out.trans (hbel.mono (by omega)))
  have Ca0_0 := Lib.hid ((hbel.cell (p := ⟨w.heap.size, 0, none⟩) (by simp only []; omega)).trans Ca0_0.out)
  have Ca0_1 := Lib.hid ((hbel.cell (p := ⟨w.heap.size, 1, none⟩) (by simp only []; omega)).trans Ca0_1.out)
  have Ca0_2 := Lib.hid ((hbel.cell (p := ⟨w.heap.size, 2, none⟩) (by simp only []; omega)).trans Ca0_2.out)
  have Ca0_3 := Lib.hid ((hbel.cell (p := ⟨w.heap.size, 3, none⟩) (by simp only []; omega)).trans Ca0_3.out)
  have Ca1_0 := Lib.hid ((hbel.cell (p := ⟨w.heap.size + 1, 0, none⟩) (by simp only []; omega)).trans Ca1_0.out)
  have Ca1_1 := Lib.hid ((hbel.cell (p := ⟨w.heap.size + 1, 1, none⟩) (by simp only []; omega)).trans Ca1_1.out)
  have Ca1_2 := Lib.hid ((hbel.cell (p := ⟨w.heap.size + 1, 2, none⟩) (by simp only []; omega)).trans Ca1_2.out)
  have Cx0_0 := Lib.hid ((hbel.cell (p := ⟨w9.heap.size, 0, none⟩) (by simp only []; omega)).trans Cx0_0.out)
  have Cx0_1 := Lib.hid ((hbel.cell (p := ⟨w9.heap.size, 1, none⟩) (by simp only []; omega)).trans Cx0_1.out)
  have Cx0_2 := Lib.hid ((hbel.cell (p := ⟨w9.heap.size, 2, none⟩) (by simp only []; omega)).trans Cx0_2.out)
  have Cx0_3 := Lib.hid ((hbel.cell (p := ⟨w9.heap.size, 3, none⟩) (by simp only []; omega)).trans Cx0_3.out)
  have Ox0 := Lib.hid (show OwC w11 w8.heap.size xA0 xB0 xG0 xc0 xd0 xg0 q0 from OwC.below Ox0.out hbel)
  clear hbel
  have Ox1 := Lib.hid (show OwP w11 w10.heap.size xA1 xB1 xc1 xd1 p1 from Ox1'.out)
  have Ux1 := Lib.hid (show (∀ k, (Value.slice xA1 p1.s.length xc1).ownBlock = some k → k < w11.heap.size) ∧ (∀ k, (Value.slice xB1 p1.o.length xd1).ownBlock = some k → k < w11.heap.size) from ⟨fun k hk => (own_block (Ox1.out).1 k hk).2, fun k hk => (own_block (Ox1.out).2 k hk).2⟩)
  clear Ox1'
  have v11 := cell_kept Cx0_0.out
  have v12 := cell_kept Cx0_1.out
  have v13 := cell_kept Cx0_2.out
  have v14 := cell_kept Cx0_3.out
  go_wp2_with fail
  go_at_call 42
  clear v11 v12 v13 v14
  generalize hww12 : World.alloc w11 _ = w12
  obtain ⟨x0', x1', x2', hxw12, hbx⟩ := bx3 hww12
  clear hww12
  have hxP := hxw12
  have hsw12 : w11.heap.size ≤ w12.heap.size := hbx.size
  have HB := Lib.hid (HB.out.trans (hbx.mono (by omega)))
  have Ca0_0 := Lib.hid ((hbx.cell (p := ⟨w.heap.size, 0, none⟩) (by simp only []; omega)).trans Ca0_0.out)
  have Ca0_1 := Lib.hid ((hbx.cell (p := ⟨w.heap.size, 1, none⟩) (by simp only []; omega)).trans Ca0_1.out)
  have Ca0_2 := Lib.hid ((hbx.cell (p := ⟨w.heap.size, 2, none⟩) (by simp only []; omega)).trans Ca0_2.out)
  have Ca0_3 := Lib.hid ((hbx.cell (p := ⟨w.heap.size, 3, none⟩) (by simp only []; omega)).trans Ca0_3.out)
  have Ca1_0 := Lib.hid ((hbx.cell (p := ⟨w.heap.size + 1, 0, none⟩) (by simp only []; omega)).trans Ca1_0.out)
  have Ca1_1 := Lib.hid ((hbx.cell (p := ⟨w.heap.size + 1, 1, none⟩) (by simp only []; omega)).trans Ca1_1.out)
  have Ca1_2 := Lib.hid ((hbx.cell (p := ⟨w.heap.size + 1, 2, none⟩) (by simp only []; omega)).trans Ca1_2.out)
  have Cx0_0 := Lib.hid ((hbx.cell (p := ⟨w9.heap.size, 0, none⟩) (by simp only []; omega)).trans Cx0_0.out)
  have Cx0_1 := Lib.hid ((hbx.cell (p := ⟨w9.heap.size, 1, none⟩) (by simp only []; omega)).trans Cx0_1.out)
  have Cx0_2 := Lib.hid ((hbx.cell (p := ⟨w9.heap.size, 2, none⟩) (by simp only []; omega)).trans Cx0_2.out)
  have Cx0_3 := Lib.hid ((hbx.cell (p := ⟨w9.heap.size, 3, none⟩) (by simp only []; omega)).trans Cx0_3.out)
  have Ox0 := Lib.hid (show OwC w12 w8.heap.size xA0 xB0 xG0 xc0 xd0 xg0 q0 from OwC.below Ox0.out hbx)
  have Ox1 := Lib.hid (show OwP w12 w10.heap.size xA1 xB1 xc1 xd1 p1 from OwP.below Ox1.out hbx)
  clear hbx
  have Cx1_0 := Lib.hid x0'
  have Cx1_1 := Lib.hid x1'
  have Cx1_2 := Lib.hid x2'
  clear x0' x1' x2'
  refine (HIMPL.out w12 xA0 xB0 xG0 xc0 xd0 xg0 xA1 xB1 xc1 xd1 (Ox0.out).cap (Ox0.out).rd (Ox1.out).rd).mono ?_
  rintro e w13 ⟨rfl, hbel⟩
  have hsw13 : w12.heap.size ≤ w13.heap.size := hbel.size
  have HB := Lib.hid (HB.out.trans (hbel.mono (by omega)))
  have Ca0_0 := Lib.hid ((hbel.cell (p := ⟨w.heap.size, 0, none⟩) (by simp only []; omega)).trans Ca0_0.out)
  have Ca0_1 := Lib.hid ((hbel.cell (p := ⟨w.heap.size, 1, none⟩) (by simp only []; omega)).trans Ca0_1.out)
  have Ca0_2 := Lib.hid ((hbel.cell (p := ⟨w.heap.size, 2, none⟩) (by simp only []; omega)).trans Ca0_2.out)
  have Ca0_3 := Lib.hid ((hbel.cell (p := ⟨w.heap.size, 3, none⟩) (by simp only []; omega)).trans Ca0_3.out)
  have Ca1_0 := Lib.hid ((hbel.cell (p := ⟨w.heap.size + 1, 0, none⟩) (by simp only []; omega)).trans Ca1_0.out)
  have Ca1_1 := Lib.hid ((hbel.cell (p := ⟨w.heap.size + 1, 1, none⟩) (by simp only []; omega)).trans Ca1_1.out)
  have Ca1_2 := Lib.hid ((hbel.cell (p := ⟨w.heap.size + 1, 2, none⟩) (by simp only []; omega)).trans Ca1_2.out)
  have Cx0_0 := Lib.hid ((hbel.cell (p := ⟨w9.heap.size, 0, none⟩) (by simp only []; omega)).trans Cx0_0.out)
  have Cx0_1 := Lib.hid ((hbel.cell (p := ⟨w9.heap.size, 1, none⟩) (by simp only []; omega)).trans Cx0_1.out)
  have Cx0_2 := Lib.hid ((hbel.cell (p := ⟨w9.heap.size, 2, none⟩) (by simp only []; omega)).trans Cx0_2.out)
  have Cx0_3 := Lib.hid ((hbel.cell (p := ⟨w9.heap.size, 3, none⟩) (by simp only []; omega)).trans Cx0_3.out)
  have Cx1_0 := Lib.hid ((hbel.cell (p := ⟨w11.heap.size, 0, none⟩) (by simp only []; omega)).trans Cx1_0.out)
  have Cx1_1 := Lib.hid ((hbel.cell (p := ⟨w11.heap.size, 1, none⟩) (by simp only []; omega)).trans Cx1_1.out)
  have Cx1_2 := Lib.hid ((hbel.cell (p := ⟨w11.heap.size, 2, none⟩) (by simp only []; omega)).trans Cx1_2.out)
  have Ox0 := Lib.hid (show OwC w13 w8.heap.size xA0 xB0 xG0 xc0 xd0 xg0 q0 from OwC.below Ox0.out hbel)
  have Ox1 := Lib.hid (show OwP w13 w10.heap.size xA1 xB1 xc1 xd1 p1 from OwP.below Ox1.out hbel)
  clear hbel
  go_wp2
  have Fx0_0 := Lib.hid (show ∀ x, Below w13.heap.size w13 x → x.cell? ⟨w9.heap.size, 0, none⟩ = some (.int .i64 q0.r) from fun x hx => (hx.cell (p := ⟨w9.heap.size, 0, none⟩) (by simp only []; omega)).trans Cx0_0.out)
  have Fx0_1 := Lib.hid (show ∀ x, Below w13.heap.size w13 x → x.cell? ⟨w9.heap.size, 1, none⟩ = some (.slice xA0 q0.i.length xc0) from fun x hx => (hx.cell (p := ⟨w9.heap.size, 1, none⟩) (by simp only []; omega)).trans Cx0_1.out)
  have Fx0_2 := Lib.hid (show ∀ x, Below w13.heap.size w13 x → x.cell? ⟨w9.heap.size, 2, none⟩ = some (.slice xB0 q0.ops.length xd0) from fun x hx => (hx.cell (p := ⟨w9.heap.size, 2, none⟩) (by simp only []; omega)).trans Cx0_2.out)
  have Fx0_3 := Lib.hid (show ∀ x, Below w13.heap.size w13 x → x.cell? ⟨w9.heap.size, 3, none⟩ = some (.slice xG0 q0.o.length xg0) from fun x hx => (hx.cell (p := ⟨w9.heap.size, 3, none⟩) (by simp only []; omega)).trans Cx0_3.out)
  have Fa0_0 := Lib.hid (show ∀ x, Below w13.heap.size w13 x → x.cell? ⟨w.heap.size, 0, none⟩ = some (.int .i64 q0.r) from fun x hx => (hx.cell (p := ⟨w.heap.size, 0, none⟩) (by simp only []; omega)).trans Ca0_0.out)
  have Fa0_1 := Lib.hid (show ∀ x, Below w13.heap.size w13 x → x.cell? ⟨w.heap.size, 1, none⟩ = some (.slice A0 q0.i.length c0) from fun x hx => (hx.cell (p := ⟨w.heap.size, 1, none⟩) (by simp only []; omega)).trans Ca0_1.out)
  have Fa0_2 := Lib.hid (show ∀ x, Below w13.heap.size w13 x → x.cell? ⟨w.heap.size, 2, none⟩ = some (.slice B0 q0.ops.length d0) from fun x hx => (hx.cell (p := ⟨w.heap.size, 2, none⟩) (by simp only []; omega)).trans Ca0_2.out)
  have Fa0_3 := Lib.hid (show ∀ x, Below w13.heap.size w13 x → x.cell? ⟨w.heap.size, 3, none⟩ = some (.slice G0 q0.o.length g0) from fun x hx => (hx.cell (p := ⟨w.heap.size, 3, none⟩) (by simp only []; omega)).trans Ca0_3.out)
  have SD := Lib.hid (show Below w13.heap.size w13 w13.drew from (Below.refl _ _).drew)
  refine wp_region_T (fun x : World => Below w13.heap.size w13 x) [0, 1, 4] [0, 1] (.ls 0 (.ls 1 (.hv 2 (.hv 3 (.lp 4 (.done)))))) (by kernel_rfl) (by kernel_rfl) ?_
  refine T_ls1 (v := .agg #[.int .i64 q0.r, .slice xA0 q0.i.length xc0, .slice xB0 q0.ops.length xd0, .slice xG0 q0.o.length xg0]) rfl rfl SD.out (fun x hx => (by have h1 := Fx0_0.out x hx; have h2 := Fx0_1.out x hx; have h3 := Fx0_2.out x hx; have h4 := Fx0_3.out x hx; go_simp)) (fun K hK => ?_)
  (go_simp; refine hK _ ?_; clear hK K)
  refine T_ls1 (v := .agg #[.int .i64 q0.r, .slice A0 q0.i.length c0, .slice B0 q0.ops.length d0, .slice G0 q0.o.length g0]) rfl rfl SD.out (fun x hx => (by have h1 := Fa0_0.out x hx; have h2 := Fa0_1.out x hx; have h3 := Fa0_2.out x hx; have h4 := Fa0_3.out x hx; go_simp)) (fun K hK => ?_)
  (go_simp; refine hK _ ?_; clear hK K)
  refine T_hvS rfl (fun K hK => ?_)
  go_simp
  go_at_call 17
  generalize hwd : w13.drew = w14 at SD ⊢
  clear hwd
  have hbd := SD.out
  have hsw14 : w13.heap.size ≤ w14.heap.size := hbd.size
  have HB := Lib.hid (HB.out.trans (hbd.mono (by omega)))
  have Ca0_0 := Lib.hid ((hbd.cell (p := ⟨w.heap.size, 0, none⟩) (by simp only []; omega)).trans Ca0_0.out)
  have Ca0_1 := Lib.hid ((hbd.cell (p := ⟨w.heap.size, 1, none⟩) (by simp only []; omega)).trans Ca0_1.out)
  have Ca0_2 := Lib.hid ((hbd.cell (p := ⟨w.heap.size, 2, none⟩) (by simp only []; omega)).trans Ca0_2.out)
  have Ca0_3 := Lib.hid ((hbd.cell (p := ⟨w.heap.size, 3, none⟩) (by simp only []; omega)).trans Ca0_3.out)
  have Ca1_0 := Lib.hid ((hbd.cell (p := ⟨w.heap.size + 1, 0, none⟩) (by simp only []; omega)).trans Ca1_0.out)
  have Ca1_1 := Lib.hid ((hbd.cell (p := ⟨w.heap.size + 1, 1, none⟩) (by simp only []; omega)).trans Ca1_1.out)
  have Ca1_2 := Lib.hid ((hbd.cell (p := ⟨w.heap.size + 1, 2, none⟩) (by simp only []; omega)).trans Ca1_2.out)
  have Cx0_0 := Lib.hid ((hbd.cell (p := ⟨w9.heap.size, 0, none⟩) (by simp only []; omega)).trans Cx0_0.out)
  have Cx0_1 := Lib.hid ((hbd.cell (p := ⟨w9.heap.size, 1, none⟩) (by simp only []; omega)).trans Cx0_1.out)
  have Cx0_2 := Lib.hid ((hbd.cell (p := ⟨w9.heap.size, 2, none⟩) (by simp only []; omega)).trans Cx0_2.out)
  have Cx0_3 := Lib.hid ((hbd.cell (p := ⟨w9.heap.size, 3, none⟩) (by simp only []; omega)).trans Cx0_3.out)
  have Cx1_0 := Lib.hid ((hbd.cell (p := ⟨w11.heap.size, 0, none⟩) (by simp only []; omega)).trans Cx1_0.out)
  have Cx1_1 := Lib.hid ((hbd.cell (p := ⟨w11.heap.size, 1, none⟩) (by simp only []; omega)).trans Cx1_1.out)
  have Cx1_2 := Lib.hid ((hbd.cell (p := ⟨w11.heap.size, 2, none⟩) (by simp only []; omega)).trans Cx1_2.out)
  have Ox0 := Lib.hid (show OwC w14 w8.heap.size xA0 xB0 xG0 xc0 xd0 xg0 q0 from OwC.below Ox0.out hbd)
  have Ox1 := Lib.hid (show OwP w14 w10.heap.size xA1 xB1 xc1 xd1 p1 from OwP.below Ox1.out hbd)
  clear hbd
  have SBY := Lib.hid SD.out
  refine (toRegCode_any w.heap.size A0 B0 G0 c0 d0 g0 q0 w14 hli0 hlp0 hlo0 (by omega) (H0.out.below HB.out)).mono ?_
  rintro e w15 ⟨yA0, yB0, yG0, yc0, yd0, yg0, rfl, hown, hbel⟩
  have Oy0' := Lib.hid hown
  clear hown
  have hsw15 : w14.heap.size ≤ w15.heap.size := hbel.size
  have HB := Lib.hid (HB.out.trans (hbel.mono (by omega)))
  have Ca0_0 := Lib.hid ((hbel.cell (p := ⟨w.heap.size, 0, none⟩) (by simp only []; omega)).trans Ca0_0.out)
  have Ca0_1 := Lib.hid ((hbel.cell (p := ⟨w.heap.size, 1, none⟩) (by simp only []; omega)).trans Ca0_1.out)
  have Ca0_2 := Lib.hid ((hbel.cell (p := ⟨w.heap.size, 2, none⟩) (by simp only []; omega)).trans Ca0_2.out)
  have Ca0_3 := Lib.hid ((hbel.cell (p := ⟨w.heap.size, 3, none⟩) (by simp only []; omega)).trans Ca0_3.out)
  have Ca1_0 := Lib.hid ((hbel.cell (p := ⟨w.heap.size + 1, 0, none⟩) (by simp only []; omega)).trans Ca1_0.out)
  have Ca1_1 := Lib.hid ((hbel.cell (p := ⟨w.heap.size + 1, 1, none⟩) (by simp only []; omega)).trans Ca1_1.out)
  have Ca1_2 := Lib.hid ((hbel.cell (p := ⟨w.heap.size + 1, 2, none⟩) (by simp only []; omega)).trans Ca1_2.out)
  have Cx0_0 := Lib.hid ((hbel.cell (p := ⟨w9.heap.size, 0, none⟩) (by simp only []; omega)).trans Cx0_0.out)
  have Cx0_1 := Lib.hid ((hbel.cell (p := ⟨w9.heap.size, 1, none⟩) (by simp only []; omega)).trans Cx0_1.out)
  have Cx0_2 := Lib.hid ((hbel.cell (p := ⟨w9.heap.size, 2, none⟩) (by simp only []; omega)).trans Cx0_2.out)
  have Cx0_3 := Lib.hid ((hbel.cell (p := ⟨w9.heap.size, 3, none⟩) (by simp only []; omega)).trans Cx0_3.out)
  have Cx1_0 := Lib.hid ((hbel.cell (p := ⟨w11.heap.size, 0, none⟩) (by simp only []; omega)).trans Cx1_0.out)
  have Cx1_1 := Lib.hid ((hbel.cell (p := ⟨w11.heap.size, 1, none⟩) (by simp only []; omega)).trans Cx1_1.out)
  have Cx1_2 := Lib.hid ((hbel.cell (p := ⟨w11.heap.size, 2, none⟩) (by simp only []; omega)).trans Cx1_2.out)
  have Ox0 := Lib.hid (show OwC w15 w8.heap.size xA0 xB0 xG0 xc0 xd0 xg0 q0 from OwC.below Ox0.out hbel)
  have Ox1 := Lib.hid (show OwP w15 w10.heap.size xA1 xB1 xc1 xd1 p1 from OwP.below Ox1.out hbel)
  have SBY := Lib.hid (SBY.out.trans (hbel.mono (by omega)))
  clear hbel
  have Oy0 := Lib.hid (show OwC w15 w14.heap.size yA0 yB0 yG0 yc0 yd0 yg0 q0 from Oy0'.out)
  have Uy0 := Lib.hid (show (∀ k, (Value.slice yA0 q0.i.length yc0).ownBlock = some k → k < w15.heap.size) ∧ (∀ k, (Value.slice yB0 q0.ops.length yd0).ownBlock = some k → k < w15.heap.size) ∧ (∀ k, (Value.slice yG0 q0.o.length yg0).ownBlock = some k → k < w15.heap.size) from ⟨fun k hk => (own_block (Oy0.out).1 k hk).2, fun k hk => (own_block (Oy0.out).2.1 k hk).2, fun k hk => (own_block (Oy0.out).2.2.1 k hk).2⟩)
  clear Oy0'
  go_simp
  refine hK _ _ (SBY.out) ?_
  clear hK K
  (refine T_hv rfl (by kernel_rfl) (fun K hK => ?_); go_simp)
  go_at_call 19
  refine (eqRegCode_refl w15.heap.size w15.heap.size xA0 xB0 xG0 yA0 yB0 yG0 xc0 xd0 xg0 yc0 yd0 yg0 q0 w15 (by omega) (by omega) (by omega) (Nat.le_refl _) (Nat.le_refl _) (Ox0.out).rd (Oy0.out).rd).mono ?_
  rintro e w16 ⟨rfl, hbel⟩
  have hsw16 : w15.heap.size ≤ w16.heap.size := hbel.size
  have HB := Lib.hid (HB.out.trans (hbel.mono (by omega)))
  have Ca0_0 := Lib.hid ((hbel.cell (p := ⟨w.heap.size, 0, none⟩) (by simp only []; omega)).trans Ca0_0.out)
  have Ca0_1 := Lib.hid ((hbel.cell (p := ⟨w.heap.size, 1, none⟩) (by simp only []; omega)).trans Ca0_1.out)
  have Ca0_2 := Lib.hid ((hbel.cell (p := ⟨w.heap.size, 2, none⟩) (by simp only []; omega)).trans Ca0_2.out)
  have Ca0_3 := Lib.hid ((hbel.cell (p := ⟨w.heap.size, 3, none⟩) (by simp only []; omega)).trans Ca0_3.out)
  have Ca1_0 := Lib.hid ((hbel.cell (p := ⟨w.heap.size + 1, 0, none⟩) (by simp only []; omega)).trans Ca1_0.out)
  have Ca1_1 := Lib.hid ((hbel.cell (p := ⟨w.heap.size + 1, 1, none⟩) (by simp only []; omega)).trans Ca1_1.out)
  have Ca1_2 := Lib.hid ((hbel.cell (p := ⟨w.heap.size + 1, 2, none⟩) (by simp only []; omega)).trans Ca1_2.out)
  have Cx0_0 := Lib.hid ((hbel.cell (p := ⟨w9.heap.size, 0, none⟩) (by simp only []; omega)).trans Cx0_0.out)
  have Cx0_1 := Lib.hid ((hbel.cell (p := ⟨w9.heap.size, 1, none⟩) (by simp only []; omega)).trans Cx0_1.out)
  have Cx0_2 := Lib.hid ((hbel.cell (p := ⟨w9.heap.size, 2, none⟩) (by simp only []; omega)).trans Cx0_2.out)
  have Cx0_3 := Lib.hid ((hbel.cell (p := ⟨w9.heap.size, 3, none⟩) (by simp only []; omega)).trans Cx0_3.out)
  have Cx1_0 := Lib.hid ((hbel.cell (p := ⟨w11.heap.size, 0, none⟩) (by simp only []; omega)).trans Cx1_0.out)
  have Cx1_1 := Lib.hid ((hbel.cell (p := ⟨w11.heap.size, 1, none⟩) (by simp only []; omega)).trans Cx1_1.out)
  have Cx1_2 := Lib.hid ((hbel.cell (p := ⟨w11.heap.size, 2, none⟩) (by simp only []; omega)).trans Cx1_2.out)
  have Ox0 := Lib.hid (show OwC w16 w8.heap.size xA0 xB0 xG0 xc0 xd0 xg0 q0 from OwC.below Ox0.out hbel)
  have Ox1 := Lib.hid (show OwP w16 w10.heap.size xA1 xB1 xc1 xd1 p1 from OwP.below Ox1.out hbel)
  have Oy0 := Lib.hid (show OwC w16 w14.heap.size yA0 yB0 yG0 yc0 yd0 yg0 q0 from OwC.below Oy0.out hbel)
  clear hbel
  (go_simp; refine hK _ _ ?_; clear hK K)
  (repeat (first | (refine T_lp rfl (fun K hK => ?_); go_simp; refine hK _ ?_; clear hK K) | (refine T_ls rfl rfl (fun K hK => ?_); go_simp; refine hK _ ?_; clear hK K)))
  refine T_done ?_
  go_wp2
  have Fx1_0 := Lib.hid (show ∀ x, Below w16.heap.size w16 x → x.cell? ⟨w11.heap.size, 0, none⟩ = some (.int .i64 p1.n) from fun x hx => (hx.cell (p := ⟨w11.heap.size, 0, none⟩) (by simp only []; omega)).trans Cx1_0.out)
  have Fx1_1 := Lib.hid (show ∀ x, Below w16.heap.size w16 x → x.cell? ⟨w11.heap.size, 1, none⟩ = some (.slice xA1 p1.s.length xc1) from fun x hx => (hx.cell (p := ⟨w11.heap.size, 1, none⟩) (by simp only []; omega)).trans Cx1_1.out)
  have Fx1_2 := Lib.hid (show ∀ x, Below w16.heap.size w16 x → x.cell? ⟨w11.heap.size, 2, none⟩ = some (.slice xB1 p1.o.length xd1) from fun x hx => (hx.cell (p := ⟨w11.heap.size, 2, none⟩) (by simp only []; omega)).trans Cx1_2.out)
  have Fa1_0 := Lib.hid (show ∀ x, Below w16.heap.size w16 x → x.cell? ⟨w.heap.size + 1, 0, none⟩ = some (.int .i64 p1.n) from fun x hx => (hx.cell (p := ⟨w.heap.size + 1, 0, none⟩) (by simp only []; omega)).trans Ca1_0.out)
  have Fa1_1 := Lib.hid (show ∀ x, Below w16.heap.size w16 x → x.cell? ⟨w.heap.size + 1, 1, none⟩ = some (.slice A1 p1.s.length c1) from fun x hx => (hx.cell (p := ⟨w.heap.size + 1, 1, none⟩) (by simp only []; omega)).trans Ca1_1.out)
  have Fa1_2 := Lib.hid (show ∀ x, Below w16.heap.size w16 x → x.cell? ⟨w.heap.size + 1, 2, none⟩ = some (.slice B1 p1.o.length d1) from fun x hx => (hx.cell (p := ⟨w.heap.size + 1, 2, none⟩) (by simp only []; omega)).trans Ca1_2.out)
  have SD := Lib.hid (show Below w16.heap.size w16 w16.drew from (Below.refl _ _).drew)
  refine wp_region_T (fun x : World => Below w16.heap.size w16 x) [0, 1, 4] [0, 1] (.ls 0 (.ls 1 (.hv 2 (.hv 3 (.lp 4 (.done)))))) (by kernel_rfl) (by kernel_rfl) ?_
  refine T_ls1 (v := .agg #[.int .i64 p1.n, .slice xA1 p1.s.length xc1, .slice xB1 p1.o.length xd1]) rfl rfl SD.out (fun x hx => (by have h1 := Fx1_0.out x hx; have h2 := Fx1_1.out x hx; have h3 := Fx1_2.out x hx; go_simp)) (fun K hK => ?_)
  (go_simp; refine hK _ ?_; clear hK K)
  refine T_ls1 (v := .agg #[.int .i64 p1.n, .slice A1 p1.s.length c1, .slice B1 p1.o.length d1]) rfl rfl SD.out (fun x hx => (by have h1 := Fa1_0.out x hx; have h2 := Fa1_1.out x hx; have h3 := Fa1_2.out x hx; go_simp)) (fun K hK => ?_)
  (go_simp; refine hK _ ?_; clear hK K)
  refine T_hvS rfl (fun K hK => ?_)
  go_simp
  go_at_call 34
  generalize hwd : w16.drew = w17 at SD ⊢
  clear hwd
  have hbd := SD.out
  have hsw17 : w16.heap.size ≤ w17.heap.size := hbd.size
  have HB := Lib.hid (HB.out.trans (hbd.mono (by omega)))
  have Ca0_0 := Lib.hid ((hbd.cell (p := ⟨w.heap.size, 0, none⟩) (by simp only []; omega)).trans Ca0_0.out)
  have Ca0_1 := Lib.hid ((hbd.cell (p := ⟨w.heap.size, 1, none⟩) (by simp only []; omega)).trans Ca0_1.out)
  have Ca0_2 := Lib.hid ((hbd.cell (p := ⟨w.heap.size, 2, none⟩) (by simp only []; omega)).trans Ca0_2.out)
  have Ca0_3 := Lib.hid ((hbd.cell (p := ⟨w.heap.size, 3, none⟩) (by simp only []; omega)).trans Ca0_3.out)
  have Ca1_0 := Lib.hid ((hbd.cell (p := ⟨w.heap.size + 1, 0, none⟩) (by simp only []; omega)).trans Ca1_0.out)
  have Ca1_1 := Lib.hid ((hbd.cell (p := ⟨w.heap.size + 1, 1, none⟩) (by simp only []; omega)).trans Ca1_1.out)
  have Ca1_2 := Lib.hid ((hbd.cell (p := ⟨w.heap.size + 1, 2, none⟩) (by simp only []; omega)).trans Ca1_2.out)
  have Cx0_0 := Lib.hid ((hbd.cell (p := ⟨w9.heap.size, 0, none⟩) (by simp only []; omega)).trans Cx0_0.out)
  have Cx0_1 := Lib.hid ((hbd.cell (p := ⟨w9.heap.size, 1, none⟩) (by simp only []; omega)).trans Cx0_1.out)
  have Cx0_2 := Lib.hid ((hbd.cell (p := ⟨w9.heap.size, 2, none⟩) (by simp only []; omega)).trans Cx0_2.out)
  have Cx0_3 := Lib.hid ((hbd.cell (p := ⟨w9.heap.size, 3, none⟩) (by simp only []; omega)).trans Cx0_3.out)
  have Cx1_0 := Lib.hid ((hbd.cell (p := ⟨w11.heap.size, 0, none⟩) (by simp only []; omega)).trans Cx1_0.out)
  have Cx1_1 := Lib.hid ((hbd.cell (p := ⟨w11.heap.size, 1, none⟩) (by simp only []; omega)).trans Cx1_1.out)
  have Cx1_2 := Lib.hid ((hbd.cell (p := ⟨w11.heap.size, 2, none⟩) (by simp only []; omega)).trans Cx1_2.out)
  have Ox0 := Lib.hid (show OwC w17 w8.heap.size xA0 xB0 xG0 xc0 xd0 xg0 q0 from OwC.below Ox0.out hbd)
  have Ox1 := Lib.hid (show OwP w17 w10.heap.size xA1 xB1 xc1 xd1 p1 from OwP.below Ox1.out hbd)
  clear hbd
  have SBY := Lib.hid SD.out
  refine (toPlan_any w.heap.size A1 B1 c1 d1 p1 w17 hl1 ho1 (by omega) (H1.out.below HB.out)).mono ?_
  rintro e w18 ⟨yA1, yB1, yc1, yd1, rfl, hown, hbel⟩
  have Oy1' := Lib.hid hown
  clear hown
  have hsw18 : w17.heap.size ≤ w18.heap.size := hbel.size
  have HB := Lib.hid (HB.out.trans (hbel.mono (by omega)))
  have Ca0_0 := Lib.hid ((hbel.cell (p := ⟨w.heap.size, 0, none⟩) (by simp only []; omega)).trans Ca0_0.out)
  have Ca0_1 := Lib.hid ((hbel.cell (p := ⟨w.heap.size, 1, none⟩) (by simp only []; omega)).trans Ca0_1.out)
  have Ca0_2 := Lib.hid ((hbel.cell (p := ⟨w.heap.size, 2, none⟩) (by simp only []; omega)).trans Ca0_2.out)
  have Ca0_3 := Lib.hid ((hbel.cell (p := ⟨w.heap.size, 3, none⟩) (by simp only []; omega)).trans Ca0_3.out)
  have Ca1_0 := Lib.hid ((hbel.cell (p := ⟨w.heap.size + 1, 0, none⟩) (by simp only []; omega)).trans Ca1_0.out)
  have Ca1_1 := Lib.hid ((hbel.cell (p := ⟨w.heap.size + 1, 1, none⟩) (by simp only []; omega)).trans Ca1_1.out)
  have Ca1_2 := Lib.hid ((hbel.cell (p := ⟨w.heap.size + 1, 2, none⟩) (by simp only []; omega)).trans Ca1_2.out)
  have Cx0_0 := Lib.hid ((hbel.cell (p := ⟨w9.heap.size, 0, none⟩) (by simp only []; omega)).trans Cx0_0.out)
  have Cx0_1 := Lib.hid ((hbel.cell (p := ⟨w9.heap.size, 1, none⟩) (by simp only []; omega)).trans Cx0_1.out)
  have Cx0_2 := Lib.hid ((hbel.cell (p := ⟨w9.heap.size, 2, none⟩) (by simp only []; omega)).trans Cx0_2.out)
  have Cx0_3 := Lib.hid ((hbel.cell (p := ⟨w9.heap.size, 3, none⟩) (by simp only []; omega)).trans Cx0_3.out)
  have Cx1_0 := Lib.hid ((hbel.cell (p := ⟨w11.heap.size, 0, none⟩) (by simp only []; omega)).trans Cx1_0.out)
  have Cx1_1 := Lib.hid ((hbel.cell (p := ⟨w11.heap.size, 1, none⟩) (by simp only []; omega)).trans Cx1_1.out)
  have Cx1_2 := Lib.hid ((hbel.cell (p := ⟨w11.heap.size, 2, none⟩) (by simp only []; omega)).trans Cx1_2.out)
  have Ox0 := Lib.hid (show OwC w18 w8.heap.size xA0 xB0 xG0 xc0 xd0 xg0 q0 from OwC.below Ox0.out hbel)
  have Ox1 := Lib.hid (show OwP w18 w10.heap.size xA1 xB1 xc1 xd1 p1 from OwP.below Ox1.out hbel)
  have SBY := Lib.hid (SBY.out.trans (hbel.mono (by omega)))
  clear hbel
  have Oy1 := Lib.hid (show OwP w18 w17.heap.size yA1 yB1 yc1 yd1 p1 from Oy1'.out)
  have Uy1 := Lib.hid (show (∀ k, (Value.slice yA1 p1.s.length yc1).ownBlock = some k → k < w18.heap.size) ∧ (∀ k, (Value.slice yB1 p1.o.length yd1).ownBlock = some k → k < w18.heap.size) from ⟨fun k hk => (own_block (Oy1.out).1 k hk).2, fun k hk => (own_block (Oy1.out).2 k hk).2⟩)
  clear Oy1'
  go_simp
  refine hK _ _ (SBY.out) ?_
  clear hK K
  (refine T_hv rfl (by kernel_rfl) (fun K hK => ?_); go_simp)
  go_at_call 22
  have hE := eqPlan_any w18.heap.size w18.heap.size xA1 xB1 yA1 yB1 xc1 xd1 yc1 yd1 p1 p1 w18 (by omega) (by omega) (by omega) (by omega) (Nat.le_refl _) (Nat.le_refl _) (Ox1.out).rd (Oy1.out).rd
  rw [eqP_refl] at hE
  refine hE.mono ?_
  rintro e w19 ⟨rfl, hbel⟩
  clear hE
  have hsw19 : w18.heap.size ≤ w19.heap.size := hbel.size
  have HB := Lib.hid (HB.out.trans (hbel.mono (by omega)))
  have Ca0_0 := Lib.hid ((hbel.cell (p := ⟨w.heap.size, 0, none⟩) (by simp only []; omega)).trans Ca0_0.out)
  have Ca0_1 := Lib.hid ((hbel.cell (p := ⟨w.heap.size, 1, none⟩) (by simp only []; omega)).trans Ca0_1.out)
  have Ca0_2 := Lib.hid ((hbel.cell (p := ⟨w.heap.size, 2, none⟩) (by simp only []; omega)).trans Ca0_2.out)
  have Ca0_3 := Lib.hid ((hbel.cell (p := ⟨w.heap.size, 3, none⟩) (by simp only []; omega)).trans Ca0_3.out)
  have Ca1_0 := Lib.hid ((hbel.cell (p := ⟨w.heap.size + 1, 0, none⟩) (by simp only []; omega)).trans Ca1_0.out)
  have Ca1_1 := Lib.hid ((hbel.cell (p := ⟨w.heap.size + 1, 1, none⟩) (by simp only []; omega)).trans Ca1_1.out)
  have Ca1_2 := Lib.hid ((hbel.cell (p := ⟨w.heap.size + 1, 2, none⟩) (by simp only []; omega)).trans Ca1_2.out)
  have Cx0_0 := Lib.hid ((hbel.cell (p := ⟨w9.heap.size, 0, none⟩) (by simp only []; omega)).trans Cx0_0.out)
  have Cx0_1 := Lib.hid ((hbel.cell (p := ⟨w9.heap.size, 1, none⟩) (by simp only []; omega)).trans Cx0_1.out)
  have Cx0_2 := Lib.hid ((hbel.cell (p := ⟨w9.heap.size, 2, none⟩) (by simp only []; omega)).trans Cx0_2.out)
  have Cx0_3 := Lib.hid ((hbel.cell (p := ⟨w9.heap.size, 3, none⟩) (by simp only []; omega)).trans Cx0_3.out)
  have Cx1_0 := Lib.hid ((hbel.cell (p := ⟨w11.heap.size, 0, none⟩) (by simp only []; omega)).trans Cx1_0.out)
  have Cx1_1 := Lib.hid ((hbel.cell (p := ⟨w11.heap.size, 1, none⟩) (by simp only []; omega)).trans Cx1_1.out)
  have Cx1_2 := Lib.hid ((hbel.cell (p := ⟨w11.heap.size, 2, none⟩) (by simp only []; omega)).trans Cx1_2.out)
  have Ox0 := Lib.hid (show OwC w19 w8.heap.size xA0 xB0 xG0 xc0 xd0 xg0 q0 from OwC.below Ox0.out hbel)
  have Ox1 := Lib.hid (show OwP w19 w10.heap.size xA1 xB1 xc1 xd1 p1 from OwP.below Ox1.out hbel)
  have Oy1 := Lib.hid (show OwP w19 w17.heap.size yA1 yB1 yc1 yd1 p1 from OwP.below Oy1.out hbel)
  clear hbel
  (go_simp; refine hK _ _ ?_; clear hK K)
  (repeat (first | (refine T_lp rfl (fun K hK => ?_); go_simp; refine hK _ ?_; clear hK K) | (refine T_ls rfl rfl (fun K hK => ?_); go_simp; refine hK _ ?_; clear hK K)))
  refine T_done ?_
  go_wp2
  go_ret
  exact ⟨rfl, HB.out⟩

set_option maxRecDepth 100000 in
theorem checkRegCode_lifted (os : Os) (started : os.Started) (H : Type) (enc : TypeId × Value → H) :
    ReturnsInHanded {} Try.checked os 9 .any (Rows.fnExactCheckRegCodeSpec.pre6 enc Try.prog Try.f9 Rows.fnExactCheckRegCodeRow.domain false) (Rows.fnExactCheckRegCodeSpec.post enc Try.prog Try.f9 false true false false) := by
  refine returnsInHanded_of_change (C := Try.checked) own started (by kernel_rfl) Try.func9
    (ChangeSpec.witness6 (enc := enc) (C := Try.checked) false ⟨#[], #[.agg #[.int .i64 0, .slice none 0 0, .slice none 0 0, .slice none 0 0], .agg #[.int .i64 0, .slice none 0 0, .slice none 0 0]], []⟩ 8 (by kernel_rfl) (by kernel_rfl) (by kernel_rfl) (by kernel_rfl)) ?_
  intro W base args ds gs before hval0 hW _ _
  have hval : ∀ (j : Nat) t v, Try.f9.params[j]? = some t → args[j]? = some v → Value.okWide Try.prog W .any base t v := hval0
  have hW' := hW
  obtain ⟨p, q, hA0, hV, rfl, hfz, hnd⟩ := hW
  have hA : DataW.TrodAll enc Try.prog W 0 (fun _ => true) true Try.f9.params.toList args.toList ds p := hA0
  rw [Try.params9] at hA hval
  obtain ⟨v0, v1, d0, d1, pp0, pp1, rfl, rfl, rfl, h0, h1⟩ := trodAll_two hA
  obtain ⟨rfl, rfl⟩ := trodVars_none hV
  have h0k := h0
  have h1k := h1
  obtain ⟨A0, B0, G0, c0, d0', g0, q0, hx0, ln0, lo0, lp0, hrd0⟩ := open_code (hval 0 25 v0 rfl rfl) h0
  obtain ⟨A1, B1, c1, d1', pl1, hx1, ln1, lo1, hrd1⟩ := open_plan (hval 1 50 v1 rfl rfl) h1
  subst hx0
  subst hx1
  clear hA0 hval0
  simp only [List.append_nil] at hW'
  refine (lawCheckRegCode A0 B0 G0 c0 d0' g0 q0 A1 B1 c1 d1' pl1 W ln0 lo0 lp0 hrd0 ln1 lo1 hrd1).mono fun e W' ⟨he, hb⟩ => ?_
  subst he
  have hlt : ∀ x ∈ pp0 ++ pp1, x.block < W.heap.size := fun x hx => by simpa using hW'.lt x hx
  refine ⟨_, rfl, _, _, _, [], pp0 ++ pp1, [], hW', trodAll_mk1 (shut_bool Try.underlying4 _), ?_, rfl, hb.frame _, fun h => by cases h⟩
  exact trodAll_mk2 (Below.trod laidOut (by kernel_rfl) (of_decide_eq_true (by kernel_rfl)) h0k hb fun x hx => hlt x (List.mem_append_left _ hx)) (Below.trod laidOut (by kernel_rfl) (of_decide_eq_true (by kernel_rfl)) h1k hb fun x hx => hlt x (List.mem_append_right _ hx))

theorem checkRegCode_holds : Rows.FnExactCheckRegCodeSaid :=
  OpenClaim.holds_of_wide 9 Try.f9 rfl rfl rfl rfl rfl rfl rfl ⟨rfl, rfl, rfl, rfl, rfl⟩ rfl rfl rfl rfl rfl (by kernel_rfl) Try.func9 (by kernel_rfl)
    (of_decide_eq_true (by kernel_rfl)) (by unfold Func.isWrapper; rw [if_neg (of_decide_eq_false (by kernel_rfl))]; exact ⟨rfl, rfl⟩)
    (fun os started H enc _ => checkRegCode_lifted os started H enc)
end Go.Proofs.Ytbbjgcagkmlngaa
