/- The law FnExactPressureOf holds: for every argument, valid or not, PressureOf of the program answers as PressureOf of the model, writes into no argument, and its answer owns its memory. No condition. -/
import Derived.Test.YtbbjgcagkmlngaaPV0
import Derived.Test.YtbbjgcagkmlngaaPV3
namespace Go.Proofs.Ytbbjgcagkmlngaa
open Go.ChangeShapes Go.WideShapes Go.ChangeAt Go.RowKit Go.Deep Go.Joins

set_option maxRecDepth 100000 in
set_option maxHeartbeats 8000000 in
theorem lawPressureOf (A0 : Option Addr) (B0 : Option Addr) (c0 : Nat) (d0 : Nat) (p0 : Pl) (w : World) (hn0 : p0.s.length ≤ 9223372036854775807) (hm0 : p0.o.length ≤ 9223372036854775807) (hr0 : RdP w w.heap.size A0 B0 p0) :
    Calls Try.prog 7 #[.agg #[.int .i64 p0.n, .slice A0 p0.s.length c0, .slice B0 p0.o.length d0]] w fun e w' => e = .returned (.bool true) ∧ Below w.heap.size w w' := by
  have H0 := Lib.hid hr0
  clear hr0
  obtain ⟨sz0, hsz0⟩ : ∃ qx, szPl p0 1048576 = qx := ⟨_, rfl⟩
  have hsc0 := fun W => szPlan_any A0 B0 c0 d0 p0 1048576 W (by omega) (by omega) hn0 hm0
  rw [hsz0] at hsc0
  have SZ0 := Lib.hid hsc0
  have SX0 := Lib.hid hsz0
  clear hsz0 hsc0
  go_enter Try.func7, Try.ntmps7
  go_wp2_with fail
  go_at_call 32
  generalize hww1 : World.alloc w _ = w1
  obtain ⟨x0', x1', x2', hxw1, hbx⟩ := bx3 hww1
  clear hww1
  have hxP := hxw1
  have hsw1 : w.heap.size ≤ w1.heap.size := hbx.size
  have HB := Lib.hid hbx
  clear hbx
  have Ca0_0 := Lib.hid x0'
  have Ca0_1 := Lib.hid x1'
  have Ca0_2 := Lib.hid x2'
  clear x0' x1' x2'
  refine (SZ0.out _).mono ?_
  rintro e w2 ⟨rfl, hbel⟩
  have hsw2 : w1.heap.size ≤ w2.heap.size := hbel.size
  have HB := Lib.hid (HB.out.trans (hbel.mono (by omega)))
  have Ca0_0 := Lib.hid ((hbel.cell (p := ⟨w.heap.size, 0, none⟩) (by simp only []; omega)).trans Ca0_0.out)
  have Ca0_1 := Lib.hid ((hbel.cell (p := ⟨w.heap.size, 1, none⟩) (by simp only []; omega)).trans Ca0_1.out)
  have Ca0_2 := Lib.hid ((hbel.cell (p := ⟨w.heap.size, 2, none⟩) (by simp only []; omega)).trans Ca0_2.out)
  clear hbel
  by_cases hneg0 : sz0 < 0
  · go_wp2
    go_ret
    exact ⟨rfl, HB.out⟩
  obtain ⟨hl0, ho0⟩ := szPl_ok (p := p0) (by rw [SX0.out]; exact hneg0)
  obtain ⟨U0, hU0⟩ : ∃ gx, prR p0 = gx := ⟨_, rfl⟩
  obtain ⟨U1, hU1⟩ : ∃ gx, good p0 = gx := ⟨_, rfl⟩
  have hspec := fun (W : World) A0' B0' c0' d0' => specPressure_any (World.heap W).size A0' B0' c0' d0' p0 W (Nat.le_refl _) hl0 ho0
  have himpl := fun (W : World) A0' B0' c0' d0' => implPressure_any (World.heap W).size A0' B0' c0' d0' p0 W (Nat.le_refl _) hl0 ho0
  rw [hU0, hU1] at hspec himpl
  have HSPEC := Lib.hid hspec
  have HIMPL := Lib.hid himpl
  clear hU0 hU1 hspec himpl
  have v1 := Ca0_0.out
  have v2 := Ca0_1.out
  have v3 := Ca0_2.out
  go_wp2_with fail
  go_at_call 34
  clear v1 v2 v3
  refine (toPlan_any w.heap.size A0 B0 c0 d0 p0 w2 hl0 ho0 (by omega) (H0.out.below HB.out)).mono ?_
  rintro e w3 ⟨sA0, sB0, sc0, sd0, rfl, hown, hbel⟩
  have Os0' := Lib.hid hown
  clear hown
  have hsw3 : w2.heap.size ≤ w3.heap.size := hbel.size
  have HB := Lib.hid (HB.out.trans (hbel.mono (by omega)))
  have Ca0_0 := Lib.hid ((hbel.cell (p := ⟨w.heap.size, 0, none⟩) (by simp only []; omega)).trans Ca0_0.out)
  have Ca0_1 := Lib.hid ((hbel.cell (p := ⟨w.heap.size, 1, none⟩) (by simp only []; omega)).trans Ca0_1.out)
  have Ca0_2 := Lib.hid ((hbel.cell (p := ⟨w.heap.size, 2, none⟩) (by simp only []; omega)).trans Ca0_2.out)
  clear hbel
  have Os0 := Lib.hid (show OwP w3 w2.heap.size sA0 sB0 sc0 sd0 p0 from Os0'.out)
  have Us0 := Lib.hid (show (∀ k, (Value.slice sA0 p0.s.length sc0).ownBlock = some k → k < w3.heap.size) ∧ (∀ k, (Value.slice sB0 p0.o.length sd0).ownBlock = some k → k < w3.heap.size) from ⟨fun k hk => (own_block (Os0.out).1 k hk).2, fun k hk => (own_block (Os0.out).2 k hk).2⟩)
  clear Os0'
  go_wp2_with fail
  go_at_call 36
  refine (HSPEC.out w3 sA0 sB0 sc0 sd0 (own_cap (Os0.out).1) (Os0.out).rd).mono ?_
  rintro e w4 ⟨rfl, hbel⟩
  have hsw4 : w3.heap.size ≤ w4.heap.size := hbel.size
  have HB := Lib.hid (HB.out.trans (hbel.mono (by omega)))
  have Ca0_0 := Lib.hid ((hbel.cell (p := ⟨w.heap.size, 0, none⟩) (by simp only []; omega)).trans Ca0_0.out)
  have Ca0_1 := Lib.hid ((hbel.cell (p := ⟨w.heap.size, 1, none⟩) (by simp only []; omega)).trans Ca0_1.out)
  have Ca0_2 := Lib.hid ((hbel.cell (p := ⟨w.heap.size, 2, none⟩) (by simp only []; omega)).trans Ca0_2.out)
  have Os0 := Lib.hid (show OwP w4 w2.heap.size sA0 sB0 sc0 sd0 p0 from OwP.below Os0.out hbel)
  clear hbel
  have v4 := Ca0_0.out
  have v5 := Ca0_1.out
  have v6 := Ca0_2.out
  go_wp2_with fail
  go_at_call 34
  clear v4 v5 v6
  refine (toPlan_any w.heap.size A0 B0 c0 d0 p0 w4 hl0 ho0 (by omega) (H0.out.below HB.out)).mono ?_
  rintro e w5 ⟨xA0, xB0, xc0, xd0, rfl, hown, hbel⟩
  have Ox0' := Lib.hid hown
  clear hown
  have hsw5 : w4.heap.size ≤ w5.heap.size := hbel.size
  have HB := Lib.hid (HB.out.trans (hbel.mono (by omega)))
  have Ca0_0 := Lib.hid ((hbel.cell (p := ⟨w.heap.size, 0, none⟩) (by simp only []; omega)).trans Ca0_0.out)
  have Ca0_1 := Lib.hid ((hbel.cell (p := ⟨w.heap.size, 1, none⟩) (by simp only []; omega)).trans Ca0_1.out)
  have Ca0_2 := Lib.hid ((hbel.cell (p := ⟨w.heap.size, 2, none⟩) (by simp only []; omega)).trans Ca0_2.out)
  clear hbel
  have Ox0 := Lib.hid (show OwP w5 w4.heap.size xA0 xB0 xc0 xd0 p0 from Ox0'.out)
  have Ux0 := Lib.hid (show (∀ k, (Value.slice xA0 p0.s.length xc0).ownBlock = some k → k < w5.heap.size) ∧ (∀ k, (Value.slice xB0 p0.o.length xd0).ownBlock = some k → k < w5.heap.size) from ⟨fun k hk => (own_block (Ox0.out).1 k hk).2, fun k hk => (own_block (Ox0.out).2 k hk).2⟩)
  clear Ox0'
  go_wp2_with fail
  go_at_call 37
  generalize hww6 : World.alloc w5 _ = w6
  obtain ⟨x0', x1', x2', hxw6, hbx⟩ := bx3 hww6
  clear hww6
  have hxP := hxw6
  have hsw6 : w5.heap.size ≤ w6.heap.size := hbx.size
  have HB := Lib.hid (HB.out.trans (hbx.mono (by omega)))
  have Ca0_0 := Lib.hid ((hbx.cell (p := ⟨w.heap.size, 0, none⟩) (by simp only []; omega)).trans Ca0_0.out)
  have Ca0_1 := Lib.hid ((hbx.cell (p := ⟨w.heap.size, 1, none⟩) (by simp only []; omega)).trans Ca0_1.out)
  have Ca0_2 := Lib.hid ((hbx.cell (p := ⟨w.heap.size, 2, none⟩) (by simp only []; omega)).trans Ca0_2.out)
  have Ox0 := Lib.hid (show OwP w6 w4.heap.size xA0 xB0 xc0 xd0 p0 from OwP.below Ox0.out hbx)
  clear hbx
  have Cx0_0 := Lib.hid x0'
  have Cx0_1 := Lib.hid x1'
  have Cx0_2 := Lib.hid x2'
  clear x0' x1' x2'
  refine (HIMPL.out w6 xA0 xB0 xc0 xd0 (own_cap (Ox0.out).1) (Ox0.out).rd).mono ?_
  rintro e w7 ⟨rfl, hbel⟩
  have hsw7 : w6.heap.size ≤ w7.heap.size := hbel.size
  have HB := Lib.hid (HB.out.trans (hbel.mono (by omega)))
  have Ca0_0 := Lib.hid ((hbel.cell (p := ⟨w.heap.size, 0, none⟩) (by simp only []; omega)).trans Ca0_0.out)
  have Ca0_1 := Lib.hid ((hbel.cell (p := ⟨w.heap.size, 1, none⟩) (by simp only []; omega)).trans Ca0_1.out)
  have Ca0_2 := Lib.hid ((hbel.cell (p := ⟨w.heap.size, 2, none⟩) (by simp only []; omega)).trans Ca0_2.out)
  have Cx0_0 := Lib.hid ((hbel.cell (p := ⟨w5.heap.size, 0, none⟩) (by simp only []; omega)).trans Cx0_0.out)
  have Cx0_1 := Lib.hid ((hbel.cell (p := ⟨w5.heap.size, 1, none⟩) (by simp only []; omega)).trans Cx0_1.out)
  have Cx0_2 := Lib.hid ((hbel.cell (p := ⟨w5.heap.size, 2, none⟩) (by simp only []; omega)).trans Cx0_2.out)
  have Ox0 := Lib.hid (show OwP w7 w4.heap.size xA0 xB0 xc0 xd0 p0 from OwP.below Ox0.out hbel)
  clear hbel
  go_wp2
  have Fx0_0 := Lib.hid (show ∀ x, Below w7.heap.size w7 x → x.cell? ⟨w5.heap.size, 0, none⟩ = some (.int .i64 p0.n) from fun x hx => (hx.cell (p := ⟨w5.heap.size, 0, none⟩) (by simp only []; omega)).trans Cx0_0.out)
  have Fx0_1 := Lib.hid (show ∀ x, Below w7.heap.size w7 x → x.cell? ⟨w5.heap.size, 1, none⟩ = some (.slice xA0 p0.s.length xc0) from fun x hx => (hx.cell (p := ⟨w5.heap.size, 1, none⟩) (by simp only []; omega)).trans Cx0_1.out)
  have Fx0_2 := Lib.hid (show ∀ x, Below w7.heap.size w7 x → x.cell? ⟨w5.heap.size, 2, none⟩ = some (.slice xB0 p0.o.length xd0) from fun x hx => (hx.cell (p := ⟨w5.heap.size, 2, none⟩) (by simp only []; omega)).trans Cx0_2.out)
  have Fa0_0 := Lib.hid (show ∀ x, Below w7.heap.size w7 x → x.cell? ⟨w.heap.size, 0, none⟩ = some (.int .i64 p0.n) from fun x hx => (hx.cell (p := ⟨w.heap.size, 0, none⟩) (by simp only []; omega)).trans Ca0_0.out)
  have Fa0_1 := Lib.hid (show ∀ x, Below w7.heap.size w7 x → x.cell? ⟨w.heap.size, 1, none⟩ = some (.slice A0 p0.s.length c0) from fun x hx => (hx.cell (p := ⟨w.heap.size, 1, none⟩) (by simp only []; omega)).trans Ca0_1.out)
  have Fa0_2 := Lib.hid (show ∀ x, Below w7.heap.size w7 x → x.cell? ⟨w.heap.size, 2, none⟩ = some (.slice B0 p0.o.length d0) from fun x hx => (hx.cell (p := ⟨w.heap.size, 2, none⟩) (by simp only []; omega)).trans Ca0_2.out)
  have SD := Lib.hid (show Below w7.heap.size w7 w7.drew from (Below.refl _ _).drew)
  refine wp_region_T (fun x : World => Below w7.heap.size w7 x) [0, 1, 4] [0, 1] (.ls 0 (.ls 1 (.hv 2 (.hv 3 (.lp 4 (.done)))))) (by kernel_rfl) (by kernel_rfl) ?_
  refine T_ls1 (v := .agg #[.int .i64 p0.n, .slice xA0 p0.s.length xc0, .slice xB0 p0.o.length xd0]) rfl rfl SD.out (fun x hx => (by have h1 := Fx0_0.out x hx; have h2 := Fx0_1.out x hx; have h3 := Fx0_2.out x hx; go_simp)) (fun K hK => ?_)
  (go_simp; refine hK _ ?_; clear hK K)
  refine T_ls1 (v := .agg #[.int .i64 p0.n, .slice A0 p0.s.length c0, .slice B0 p0.o.length d0]) rfl rfl SD.out (fun x hx => (by have h1 := Fa0_0.out x hx; have h2 := Fa0_1.out x hx; have h3 := Fa0_2.out x hx; go_simp)) (fun K hK => ?_)
  (go_simp; refine hK _ ?_; clear hK K)
  refine T_hvS rfl (fun K hK => ?_)
  go_simp
  go_at_call 34
  generalize hwd : w7.drew = w8 at SD ⊢
  clear hwd
  have hbd := SD.out
  have hsw8 : w7.heap.size ≤ w8.heap.size := hbd.size
  have HB := Lib.hid (HB.out.trans (hbd.mono (by omega)))
  have Ca0_0 := Lib.hid ((hbd.cell (p := ⟨w.heap.size, 0, none⟩) (by simp only []; omega)).trans Ca0_0.out)
  have Ca0_1 := Lib.hid ((hbd.cell (p := ⟨w.heap.size, 1, none⟩) (by simp only []; omega)).trans Ca0_1.out)
  have Ca0_2 := Lib.hid ((hbd.cell (p := ⟨w.heap.size, 2, none⟩) (by simp only []; omega)).trans Ca0_2.out)
  have Cx0_0 := Lib.hid ((hbd.cell (p := ⟨w5.heap.size, 0, none⟩) (by simp only []; omega)).trans Cx0_0.out)
  have Cx0_1 := Lib.hid ((hbd.cell (p := ⟨w5.heap.size, 1, none⟩) (by simp only []; omega)).trans Cx0_1.out)
  have Cx0_2 := Lib.hid ((hbd.cell (p := ⟨w5.heap.size, 2, none⟩) (by simp only []; omega)).trans Cx0_2.out)
  have Ox0 := Lib.hid (show OwP w8 w4.heap.size xA0 xB0 xc0 xd0 p0 from OwP.below Ox0.out hbd)
  clear hbd
  have SBY := Lib.hid SD.out
  refine (toPlan_any w.heap.size A0 B0 c0 d0 p0 w8 hl0 ho0 (by omega) (H0.out.below HB.out)).mono ?_
  rintro e w9 ⟨yA0, yB0, yc0, yd0, rfl, hown, hbel⟩
  have Oy0' := Lib.hid hown
  clear hown
  have hsw9 : w8.heap.size ≤ w9.heap.size := hbel.size
  have HB := Lib.hid (HB.out.trans (hbel.mono (by omega)))
  have Ca0_0 := Lib.hid ((hbel.cell (p := ⟨w.heap.size, 0, none⟩) (by simp only []; omega)).trans Ca0_0.out)
  have Ca0_1 := Lib.hid ((hbel.cell (p := ⟨w.heap.size, 1, none⟩) (by simp only []; omega)).trans Ca0_1.out)
  have Ca0_2 := Lib.hid ((hbel.cell (p := ⟨w.heap.size, 2, none⟩) (by simp only []; omega)).trans Ca0_2.out)
  have Cx0_0 := Lib.hid ((hbel.cell (p := ⟨w5.heap.size, 0, none⟩) (by simp only []; omega)).trans Cx0_0.out)
  have Cx0_1 := Lib.hid ((hbel.cell (p := ⟨w5.heap.size, 1, none⟩) (by simp only []; omega)).trans Cx0_1.out)
  have Cx0_2 := Lib.hid ((hbel.cell (p := ⟨w5.heap.size, 2, none⟩) (by simp only []; omega)).trans Cx0_2.out)
  have Ox0 := Lib.hid (show OwP w9 w4.heap.size xA0 xB0 xc0 xd0 p0 from OwP.below Ox0.out hbel)
  have SBY := Lib.hid (SBY.out.trans (hbel.mono (by omega)))
  clear hbel
  have Oy0 := Lib.hid (show OwP w9 w8.heap.size yA0 yB0 yc0 yd0 p0 from Oy0'.out)
  have Uy0 := Lib.hid (show (∀ k, (Value.slice yA0 p0.s.length yc0).ownBlock = some k → k < w9.heap.size) ∧ (∀ k, (Value.slice yB0 p0.o.length yd0).ownBlock = some k → k < w9.heap.size) from ⟨fun k hk => (own_block (Oy0.out).1 k hk).2, fun k hk => (own_block (Oy0.out).2 k hk).2⟩)
  clear Oy0'
  go_simp
  refine hK _ _ (SBY.out) ?_
  clear hK K
  (refine T_hv rfl (by kernel_rfl) (fun K hK => ?_); go_simp)
  go_at_call 22
  have hE := eqPlan_any w9.heap.size w9.heap.size xA0 xB0 yA0 yB0 xc0 xd0 yc0 yd0 p0 p0 w9 (by omega) (by omega) (by omega) (by omega) (Nat.le_refl _) (Nat.le_refl _) (Ox0.out).rd (Oy0.out).rd
  rw [eqP_refl] at hE
  refine hE.mono ?_
  rintro e w10 ⟨rfl, hbel⟩
  clear hE
  have hsw10 : w9.heap.size ≤ w10.heap.size := hbel.size
  have HB := Lib.hid (HB.out.trans (hbel.mono (by omega)))
  have Ca0_0 := Lib.hid ((hbel.cell (p := ⟨w.heap.size, 0, none⟩) (by simp only []; omega)).trans Ca0_0.out)
  have Ca0_1 := Lib.hid ((hbel.cell (p := ⟨w.heap.size, 1, none⟩) (by simp only []; omega)).trans Ca0_1.out)
  have Ca0_2 := Lib.hid ((hbel.cell (p := ⟨w.heap.size, 2, none⟩) (by simp only []; omega)).trans Ca0_2.out)
  have Cx0_0 := Lib.hid ((hbel.cell (p := ⟨w5.heap.size, 0, none⟩) (by simp only []; omega)).trans Cx0_0.out)
  have Cx0_1 := Lib.hid ((hbel.cell (p := ⟨w5.heap.size, 1, none⟩) (by simp only []; omega)).trans Cx0_1.out)
  have Cx0_2 := Lib.hid ((hbel.cell (p := ⟨w5.heap.size, 2, none⟩) (by simp only []; omega)).trans Cx0_2.out)
  have Ox0 := Lib.hid (show OwP w10 w4.heap.size xA0 xB0 xc0 xd0 p0 from OwP.below Ox0.out hbel)
  have Oy0 := Lib.hid (show OwP w10 w8.heap.size yA0 yB0 yc0 yd0 p0 from OwP.below Oy0.out hbel)
  clear hbel
  (go_simp; refine hK _ _ ?_; clear hK K)
  (repeat (first | (refine T_lp rfl (fun K hK => ?_); go_simp; refine hK _ ?_; clear hK K) | (refine T_ls rfl rfl (fun K hK => ?_); go_simp; refine hK _ ?_; clear hK K)))
  refine T_done ?_
  go_wp2
  go_ret
  exact ⟨rfl, HB.out⟩

set_option maxRecDepth 100000 in
theorem pressureOf_lifted (os : Os) (started : os.Started) (H : Type) (enc : TypeId × Value → H) :
    ReturnsInHanded {} Try.checked os 7 .any (Rows.fnExactPressureOfSpec.pre6 enc Try.prog Try.f7 Rows.fnExactPressureOfRow.domain false) (Rows.fnExactPressureOfSpec.post enc Try.prog Try.f7 false true false false) := by
  refine returnsInHanded_of_change (C := Try.checked) own started (by kernel_rfl) Try.func7
    (ChangeSpec.witness6 (enc := enc) (C := Try.checked) false ⟨#[], #[.agg #[.int .i64 0, .slice none 0 0, .slice none 0 0]], []⟩ 8 (by kernel_rfl) (by kernel_rfl) (by kernel_rfl) (by kernel_rfl)) ?_
  intro W base args ds gs before hval0 hW _ _
  have hval : ∀ (j : Nat) t v, Try.f7.params[j]? = some t → args[j]? = some v → Value.okWide Try.prog W .any base t v := hval0
  have hW' := hW
  obtain ⟨p, q, hA0, hV, rfl, hfz, hnd⟩ := hW
  have hA : DataW.TrodAll enc Try.prog W 0 (fun _ => true) true Try.f7.params.toList args.toList ds p := hA0
  rw [Try.params7] at hA hval
  obtain ⟨v0, d0, rfl, rfl, h0⟩ := trodAll_one hA
  obtain ⟨rfl, rfl⟩ := trodVars_none hV
  have h0k := h0
  obtain ⟨A0, B0, c0, d0', pl0, hx0, ln0, lo0, hrd0⟩ := open_plan (hval 0 50 v0 rfl rfl) h0
  subst hx0
  clear hA0 hval0
  simp only [List.append_nil] at hW'
  refine (lawPressureOf A0 B0 c0 d0' pl0 W ln0 lo0 hrd0).mono fun e W' ⟨he, hb⟩ => ?_
  subst he
  have hlt : ∀ x ∈ p, x.block < W.heap.size := fun x hx => by simpa using hW'.lt x hx
  refine ⟨_, rfl, _, _, _, [], p, [], hW', trodAll_mk1 (shut_bool Try.underlying4 _), ?_, rfl, hb.frame _, fun h => by cases h⟩
  exact trodAll_mk1 (Below.trod laidOut (by kernel_rfl) (of_decide_eq_true (by kernel_rfl)) h0k hb hlt)

theorem pressureOf_holds : Rows.FnExactPressureOfSaid :=
  OpenClaim.holds_of_wide 7 Try.f7 rfl rfl rfl rfl rfl rfl rfl ⟨rfl, rfl, rfl, rfl, rfl⟩ rfl rfl rfl rfl rfl (by kernel_rfl) Try.func7 (by kernel_rfl)
    (of_decide_eq_true (by kernel_rfl)) (by unfold Func.isWrapper; rw [if_neg (of_decide_eq_false (by kernel_rfl))]; exact ⟨rfl, rfl⟩)
    (fun os started H enc _ => pressureOf_lifted os started H enc)
end Go.Proofs.Ytbbjgcagkmlngaa
