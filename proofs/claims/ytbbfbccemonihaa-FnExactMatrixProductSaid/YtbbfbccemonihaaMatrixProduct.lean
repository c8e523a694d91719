/- The law FnExactMatrixProduct holds: for every argument, valid or not, MatrixProduct of the program answers as MatrixProduct of the model, writes into no argument, and its answer owns its memory. No condition. -/
import Derived.Test.YtbbfbccemonihaaGa6
import Derived.Test.YtbbfbccemonihaaOp
import Derived.Test.YtbbfbccemonihaaMox
namespace Go.Proofs.Ytbbfbccemonihaa
open Go.ChangeShapes Go.WideShapes Go.ChangeAt Go.RowKit Go.Deep Go.Joins

set_option maxRecDepth 100000 in
set_option maxHeartbeats 8000000 in
theorem lawMatrixProduct (m0 : Mx) (m1 : Mx) (x2 : Int) (w : World)  :
    Calls Try.prog 6 #[.agg #[.int .i64 m0.a, .int .i64 m0.b, .int .i64 m0.c, .int .i64 m0.d], .agg #[.int .i64 m1.a, .int .i64 m1.b, .int .i64 m1.c, .int .i64 m1.d], .int .i64 x2] w fun e w' => e = .returned (.bool true) ∧ Below w.heap.size w w' := by
  go_enter Try.func6, Try.ntmps6
  obtain ⟨U0, hU0⟩ : ∃ gx, mpV m0 m1 x2 = gx := ⟨_, rfl⟩
  obtain ⟨U1, hU1⟩ : ∃ gx, mpG m0 m1 x2 = gx := ⟨_, rfl⟩
  have hspec := fun (W : World)  => specMP_any (World.heap W).size m0 m1 x2 W (Nat.le_refl _) 
  have himpl := fun (W : World)  => implMP_any (World.heap W).size m0 m1 x2 W (Nat.le_refl _) 
  rw [hU0, hU1] at hspec himpl
  simp only [mxV] at hspec himpl
  have HSPEC := Lib.hid hspec
  have HIMPL := Lib.hid himpl
  clear hU0 hU1 hspec himpl
  go_wp2
  generalize hww1 : World.alloc w _ = w1
  obtain ⟨x0', x1', x2', x3', hxw1, hbx⟩ := bx4 hww1
  clear hww1
  have hxP := hxw1
  have hsw1 : w.heap.size ≤ w1.heap.size := hbx.size
  have HB := Lib.hid hbx
  clear hbx
  have Ca0_0 := Lib.hid x0'
  have Ca0_1 := Lib.hid x1'
  have Ca0_2 := Lib.hid x2'
  have Ca0_3 := Lib.hid x3'
  clear x0' x1' x2' x3'
  generalize hww2 : World.alloc w1 _ = w2
  obtain ⟨x0', x1', x2', x3', hxw2, hbx⟩ := bx4 hww2
  clear hww2
  rw [hxP] at x0' x1' x2' x3'
  have hxP := (show w2.heap.size = w.heap.size + 1 + 1 by omega)
  have hsw2 : w1.heap.size ≤ w2.heap.size := hbx.size
  have HB := Lib.hid (HB.out.trans (hbx.mono (by omega)))
  have Ca0_0 := Lib.hid ((hbx.cell (p := ⟨w.heap.size, 0, none⟩) (by simp only []; omega)).trans Ca0_0.out)
  have Ca0_1 := Lib.hid ((hbx.cell (p := ⟨w.heap.size, 1, none⟩) (by simp only []; omega)).trans Ca0_1.out)
  have Ca0_2 := Lib.hid ((hbx.cell (p := ⟨w.heap.size, 2, none⟩) (by simp only []; omega)).trans Ca0_2.out)
  have Ca0_3 := Lib.hid ((hbx.cell (p := ⟨w.heap.size, 3, none⟩) (by simp only []; omega)).trans Ca0_3.out)
  clear hbx
  have Ca1_0 := Lib.hid x0'
  have Ca1_1 := Lib.hid x1'
  have Ca1_2 := Lib.hid x2'
  have Ca1_3 := Lib.hid x3'
  clear x0' x1' x2' x3'
  have Fa0_0 := Lib.hid (show ∀ x, Below w2.heap.size w2 x → x.cell? ⟨w.heap.size, 0, none⟩ = some (.int .i64 m0.a) from fun x hx => (hx.cell (p := ⟨w.heap.size, 0, none⟩) (by simp only []; omega)).trans Ca0_0.out)
  have Fa0_1 := Lib.hid (show ∀ x, Below w2.heap.size w2 x → x.cell? ⟨w.heap.size, 1, none⟩ = some (.int .i64 m0.b) from fun x hx => (hx.cell (p := ⟨w.heap.size, 1, none⟩) (by simp only []; omega)).trans Ca0_1.out)
  have Fa0_2 := Lib.hid (show ∀ x, Below w2.heap.size w2 x → x.cell? ⟨w.heap.size, 2, none⟩ = some (.int .i64 m0.c) from fun x hx => (hx.cell (p := ⟨w.heap.size, 2, none⟩) (by simp only []; omega)).trans Ca0_2.out)
  have Fa0_3 := Lib.hid (show ∀ x, Below w2.heap.size w2 x → x.cell? ⟨w.heap.size, 3, none⟩ = some (.int .i64 m0.d) from fun x hx => (hx.cell (p := ⟨w.heap.size, 3, none⟩) (by simp only []; omega)).trans Ca0_3.out)
  have Fa1_0 := Lib.hid (show ∀ x, Below w2.heap.size w2 x → x.cell? ⟨w.heap.size + 1, 0, none⟩ = some (.int .i64 m1.a) from fun x hx => (hx.cell (p := ⟨w.heap.size + 1, 0, none⟩) (by simp only []; omega)).trans Ca1_0.out)
  have Fa1_1 := Lib.hid (show ∀ x, Below w2.heap.size w2 x → x.cell? ⟨w.heap.size + 1, 1, none⟩ = some (.int .i64 m1.b) from fun x hx => (hx.cell (p := ⟨w.heap.size + 1, 1, none⟩) (by simp only []; omega)).trans Ca1_1.out)
  have Fa1_2 := Lib.hid (show ∀ x, Below w2.heap.size w2 x → x.cell? ⟨w.heap.size + 1, 2, none⟩ = some (.int .i64 m1.c) from fun x hx => (hx.cell (p := ⟨w.heap.size + 1, 2, none⟩) (by simp only []; omega)).trans Ca1_2.out)
  have Fa1_3 := Lib.hid (show ∀ x, Below w2.heap.size w2 x → x.cell? ⟨w.heap.size + 1, 3, none⟩ = some (.int .i64 m1.d) from fun x hx => (hx.cell (p := ⟨w.heap.size + 1, 3, none⟩) (by simp only []; omega)).trans Ca1_3.out)
  have SD := Lib.hid (show Below w2.heap.size w2 w2.drew from (Below.refl _ _).drew)
  go_cut [7, 8] (fun v u wx => ∃ g : Nat, v = .pointer (some ⟨g, 0, none⟩) ∧ u = .bool U1 ∧ w2.heap.size ≤ g ∧ wx.heap[g]? = some (.cells #[.int .i64 U0.a, .int .i64 U0.b, .int .i64 U0.c, .int .i64 U0.d] 46 (0, 0)) ∧ Below w2.heap.size w2 wx)
  case first =>
    refine wp_region_T (fun x : World => Below w2.heap.size w2 x) [0, 2, 4, 6, 7, 8, 11] [0, 2] (.lp 4 (.ls 0 (.ls 2 (.hv2 1 (.hv2 3 (.hv2 5 (.lp 6 (.lp 7 (.lp 8 (.hv 9 (.hv 10 (.lp 11 (.done))))))) 9 (.hv 5 (.lp 6 (.lp 7 (.lp 8 (.hv 10 (.lp 11 (.done)))))))) 9 (.hv 3 (.hv 5 (.lp 6 (.lp 7 (.lp 8 (.hv 10 (.lp 11 (.done))))))))) 9 (.hv 1 (.hv 3 (.hv 5 (.lp 6 (.lp 7 (.lp 8 (.hv 10 (.lp 11 (.done))))))))))))) (by kernel_rfl) (by kernel_rfl) ?_
    have sd := SD.out
    clear SD
    generalize World.drew w2 = wd at sd ⊢
    have HW := Lib.hid sd
    have hswd := sd.size
    clear sd
    (repeat (refine T_lp rfl (fun K hK => ?_); go_simp; refine hK _ ?_; clear hK K))
    refine T_ls1 (v := .agg #[.int .i64 m0.a, .int .i64 m0.b, .int .i64 m0.c, .int .i64 m0.d]) rfl rfl HW.out (fun x hx => (by have h1 := Fa0_0.out x hx; have h2 := Fa0_1.out x hx; have h3 := Fa0_2.out x hx; have h4 := Fa0_3.out x hx; go_simp)) (fun K hK => ?_)
    (go_simp; refine hK _ ?_; clear hK K)
    refine T_ls1 (v := .agg #[.int .i64 m1.a, .int .i64 m1.b, .int .i64 m1.c, .int .i64 m1.d]) rfl rfl HW.out (fun x hx => (by have h1 := Fa1_0.out x hx; have h2 := Fa1_1.out x hx; have h3 := Fa1_2.out x hx; have h4 := Fa1_3.out x hx; go_simp)) (fun K hK => ?_)
    (go_simp; refine hK _ ?_; clear hK K)
    refine T_hv2 ?_ ?_
    · refine T_hvS rfl (fun K hK => ?_)
      go_simp
      go_at_call 30
      refine (toMatrix_any m0 wd).mono ?_
      rintro e W0 ⟨rfl, hst⟩
      have HW := Lib.hid (HW.out.trans (hst.mono HW.out.size))
      have hszW0 : wd.heap.size ≤ W0.heap.size := hst.size
      clear hst
      go_simp
      refine hK _ _ HW.out ?_
      clear hK K
      refine T_hv2 ?_ ?_
      · refine T_hvS rfl (fun K hK => ?_)
        go_simp
        go_at_call 30
        refine (toMatrix_any m1 W0).mono ?_
        rintro e W1 ⟨rfl, hst⟩
        have HW := Lib.hid (HW.out.trans (hst.mono HW.out.size))
        have hszW1 : W0.heap.size ≤ W1.heap.size := hst.size
        clear hst
        go_simp
        refine hK _ _ HW.out ?_
        clear hK K
        refine T_hv2 ?_ ?_
        · refine T_hvS rfl (fun K hK => ?_)
          go_simp
          go_at_call 29
          refine (HSPEC.out W1).mono ?_
          rintro e W2 ⟨rfl, hst⟩
          have HW := Lib.hid (HW.out.trans (hst.mono HW.out.size))
          have hszW2 : W1.heap.size ≤ W2.heap.size := hst.size
          clear hst
          go_simp
          refine hK _ _ HW.out ?_
          clear hK K
          (repeat (refine T_lp rfl (fun K hK => ?_); go_simp; refine hK _ ?_; clear hK K))
          refine T_hvS rfl (fun K hK => ?_)
          go_simp
          refine hK _ _ (HW.out.alloc HW.out.size _) ?_
          clear hK K
          generalize hwa : World.alloc W2 _ = W3
          obtain ⟨hbx, hsx, hst⟩ := obj4 hwa
          clear hwa
          have hgb : w2.heap.size ≤ W2.heap.size := HW.out.size
          have HW := Lib.hid (HW.out.trans (hst.mono HW.out.size))
          have BX := Lib.hid hbx
          clear hbx hst
          obtain ⟨⟨t0, t1, t2, t3⟩, g0, g1, g2, g3⟩ := cells4 BX.out
          (refine T_hv rfl (by kernel_rfl) (fun K hK => ?_); go_simp; refine hK _ _ ?_; clear hK K)
          (repeat (refine T_lp rfl (fun K hK => ?_); go_simp; refine hK _ ?_; clear hK K))
          refine T_done ?_
          go_wp2
          go_meet
          case rel => exact ⟨W2.heap.size, rfl, rfl, hgb, obj_set4 BX.out, bel_set4 HW.out hgb _ _ _ _⟩
        · refine T_hvS rfl (fun K hK => ?_)
          go_simp
          refine hK _ _ (HW.out.alloc HW.out.size _) ?_
          clear hK K
          generalize hwa : World.alloc W1 _ = W4
          obtain ⟨hbx, hsx, hst⟩ := obj4 hwa
          clear hwa
          have hgb : w2.heap.size ≤ W1.heap.size := HW.out.size
          have HW := Lib.hid (HW.out.trans (hst.mono HW.out.size))
          have BX := Lib.hid hbx
          clear hbx hst
          refine T_hvS rfl (fun K hK => ?_)
          go_simp
          go_at_call 29
          refine (HSPEC.out W4).mono ?_
          rintro e W5 ⟨rfl, hst⟩
          have BX := Lib.hid (obj_keep BX.out hst (by omega))
          have HW := Lib.hid (HW.out.trans (hst.mono HW.out.size))
          have hszW5 : W4.heap.size ≤ W5.heap.size := hst.size
          clear hst
          go_simp
          refine hK _ _ HW.out ?_
          clear hK K
          (repeat (refine T_lp rfl (fun K hK => ?_); go_simp; refine hK _ ?_; clear hK K))
          obtain ⟨⟨t0, t1, t2, t3⟩, g0, g1, g2, g3⟩ := cells4 BX.out
          (refine T_hv rfl (by kernel_rfl) (fun K hK => ?_); go_simp; refine hK _ _ ?_; clear hK K)
          (repeat (refine T_lp rfl (fun K hK => ?_); go_simp; refine hK _ ?_; clear hK K))
          refine T_done ?_
          go_wp2
          go_meet
          case rel => exact ⟨W1.heap.size, rfl, rfl, hgb, obj_set4 BX.out, bel_set4 HW.out hgb _ _ _ _⟩
      · refine T_hvS rfl (fun K hK => ?_)
        go_simp
        refine hK _ _ (HW.out.alloc HW.out.size _) ?_
        clear hK K
        generalize hwa : World.alloc W0 _ = W6
        obtain ⟨hbx, hsx, hst⟩ := obj4 hwa
        clear hwa
        have hgb : w2.heap.size ≤ W0.heap.size := HW.out.size
        have HW := Lib.hid (HW.out.trans (hst.mono HW.out.size))
        have BX := Lib.hid hbx
        clear hbx hst
        refine T_hvS rfl (fun K hK => ?_)
        go_simp
        go_at_call 30
        refine (toMatrix_any m1 W6).mono ?_
        rintro e W7 ⟨rfl, hst⟩
        have BX := Lib.hid (obj_keep BX.out hst (by omega))
        have HW := Lib.hid (HW.out.trans (hst.mono HW.out.size))
        have hszW7 : W6.heap.size ≤ W7.heap.size := hst.size
        clear hst
        go_simp
        refine hK _ _ HW.out ?_
        clear hK K
        refine T_hvS rfl (fun K hK => ?_)
        go_simp
        go_at_call 29
        refine (HSPEC.out W7).mono ?_
        rintro e W8 ⟨rfl, hst⟩
        have BX := Lib.hid (obj_keep BX.out hst (by omega))
        have HW := Lib.hid (HW.out.trans (hst.mono HW.out.size))
        have hszW8 : W7.heap.size ≤ W8.heap.size := hst.size
        clear hst
        go_simp
        refine hK _ _ HW.out ?_
        clear hK K
        (repeat (refine T_lp rfl (fun K hK => ?_); go_simp; refine hK _ ?_; clear hK K))
        obtain ⟨⟨t0, t1, t2, t3⟩, g0, g1, g2, g3⟩ := cells4 BX.out
        (refine T_hv rfl (by kernel_rfl) (fun K hK => ?_); go_simp; refine hK _ _ ?_; clear hK K)
        (repeat (refine T_lp rfl (fun K hK => ?_); go_simp; refine hK _ ?_; clear hK K))
        refine T_done ?_
        go_wp2
        go_meet
        case rel => exact ⟨W0.heap.size, rfl, rfl, hgb, obj_set4 BX.out, bel_set4 HW.out hgb _ _ _ _⟩
    · refine T_hvS rfl (fun K hK => ?_)
      go_simp
      refine hK _ _ (HW.out.alloc HW.out.size _) ?_
      clear hK K
      generalize hwa : World.alloc wd _ = W9
      obtain ⟨hbx, hsx, hst⟩ := obj4 hwa
      clear hwa
      have hgb : w2.heap.size ≤ wd.heap.size := HW.out.size
      have HW := Lib.hid (HW.out.trans (hst.mono HW.out.size))
      have BX := Lib.hid hbx
      clear hbx hst
      refine T_hvS rfl (fun K hK => ?_)
      go_simp
      go_at_call 30
      refine (toMatrix_any m0 W9).mono ?_
      rintro e W10 ⟨rfl, hst⟩
      have BX := Lib.hid (obj_keep BX.out hst (by omega))
      have HW := Lib.hid (HW.out.trans (hst.mono HW.out.size))
      have hszW10 : W9.heap.size ≤ W10.heap.size := hst.size
      clear hst
      go_simp
      refine hK _ _ HW.out ?_
      clear hK K
      refine T_hvS rfl (fun K hK => ?_)
      go_simp
      go_at_call 30
      refine (toMatrix_any m1 W10).mono ?_
      rintro e W11 ⟨rfl, hst⟩
      have BX := Lib.hid (obj_keep BX.out hst (by omega))
      have HW := Lib.hid (HW.out.trans (hst.mono HW.out.size))
      have hszW11 : W10.heap.size ≤ W11.heap.size := hst.size
      clear hst
      go_simp
      refine hK _ _ HW.out ?_
      clear hK K
      refine T_hvS rfl (fun K hK => ?_)
      go_simp
      go_at_call 29
      refine (HSPEC.out W11).mono ?_
      rintro e W12 ⟨rfl, hst⟩
      have BX := Lib.hid (obj_keep BX.out hst (by omega))
      have HW := Lib.hid (HW.out.trans (hst.mono HW.out.size))
      have hszW12 : W11.heap.size ≤ W12.heap.size := hst.size
      clear hst
      go_simp
      refine hK _ _ HW.out ?_
      clear hK K
      (repeat (refine T_lp rfl (fun K hK => ?_); go_simp; refine hK _ ?_; clear hK K))
      obtain ⟨⟨t0, t1, t2, t3⟩, g0, g1, g2, g3⟩ := cells4 BX.out
      (refine T_hv rfl (by kernel_rfl) (fun K hK => ?_); go_simp; refine hK _ _ ?_; clear hK K)
      (repeat (refine T_lp rfl (fun K hK => ?_); go_simp; refine hK _ ?_; clear hK K))
      refine T_done ?_
      go_wp2
      go_meet
      case rel => exact ⟨wd.heap.size, rfl, rfl, hgb, obj_set4 BX.out, bel_set4 HW.out hgb _ _ _ _⟩
  case rest =>
    obtain ⟨gw, rfl, rfl, hggw, hblk, hbel⟩ := hcut
    have BLK := Lib.hid hblk
    have hglgw : gw < wc.heap.size := (Array.getElem?_eq_some_iff.1 hblk).1
    clear hblk
    obtain ⟨w3, rfl⟩ : ∃ x, x = wc := ⟨wc, rfl⟩
    have hsw3 : w2.heap.size ≤ w3.heap.size := hbel.size
    have HB := Lib.hid (HB.out.trans (hbel.mono (by omega)))
    have Ca0_0 := Lib.hid ((hbel.cell (p := ⟨w.heap.size, 0, none⟩) (by simp only []; omega)).trans Ca0_0.out)
    have Ca0_1 := Lib.hid ((hbel.cell (p := ⟨w.heap.size, 1, none⟩) (by simp only []; omega)).trans Ca0_1.out)
    have Ca0_2 := Lib.hid ((hbel.cell (p := ⟨w.heap.size, 2, none⟩) (by simp only []; omega)).trans Ca0_2.out)
    have Ca0_3 := Lib.hid ((hbel.cell (p := ⟨w.heap.size, 3, none⟩) (by simp only []; omega)).trans Ca0_3.out)
    have Ca1_0 := Lib.hid ((hbel.cell (p := ⟨w.heap.size + 1, 0, none⟩) (by simp only []; omega)).trans Ca1_0.out)
    have Ca1_1 := Lib.hid ((hbel.cell (p := ⟨w.heap.size + 1, 1, none⟩) (by simp only []; omega)).trans Ca1_1.out)
    have Ca1_2 := Lib.hid ((hbel.cell (p := ⟨w.heap.size + 1, 2, none⟩) (by simp only []; omega)).trans Ca1_2.out)
    have Ca1_3 := Lib.hid ((hbel.cell (p := ⟨w.heap.size + 1, 3, none⟩) (by simp only []; omega)).trans Ca1_3.out)
    clear hbel
    obtain ⟨⟨x0', x1', x2', x3'⟩, _⟩ := cells4 BLK.out
    have Cw0_0 := Lib.hid x0'
    have Cw0_1 := Lib.hid x1'
    have Cw0_2 := Lib.hid x2'
    have Cw0_3 := Lib.hid x3'
    clear x0' x1' x2' x3'
    go_wp2
    have Fa0_0 := Lib.hid (show ∀ x, Below w3.heap.size w3 x → x.cell? ⟨w.heap.size, 0, none⟩ = some (.int .i64 m0.a) from fun x hx => (hx.cell (p := ⟨w.heap.size, 0, none⟩) (by simp only []; omega)).trans Ca0_0.out)
    have Fa0_1 := Lib.hid (show ∀ x, Below w3.heap.size w3 x → x.cell? ⟨w.heap.size, 1, none⟩ = some (.int .i64 m0.b) from fun x hx => (hx.cell (p := ⟨w.heap.size, 1, none⟩) (by simp only []; omega)).trans Ca0_1.out)
    have Fa0_2 := Lib.hid (show ∀ x, Below w3.heap.size w3 x → x.cell? ⟨w.heap.size, 2, none⟩ = some (.int .i64 m0.c) from fun x hx => (hx.cell (p := ⟨w.heap.size, 2, none⟩) (by simp only []; omega)).trans Ca0_2.out)
    have Fa0_3 := Lib.hid (show ∀ x, Below w3.heap.size w3 x → x.cell? ⟨w.heap.size, 3, none⟩ = some (.int .i64 m0.d) from fun x hx => (hx.cell (p := ⟨w.heap.size, 3, none⟩) (by simp only []; omega)).trans Ca0_3.out)
    have Fa1_0 := Lib.hid (show ∀ x, Below w3.heap.size w3 x → x.cell? ⟨w.heap.size + 1, 0, none⟩ = some (.int .i64 m1.a) from fun x hx => (hx.cell (p := ⟨w.heap.size + 1, 0, none⟩) (by simp only []; omega)).trans Ca1_0.out)
    have Fa1_1 := Lib.hid (show ∀ x, Below w3.heap.size w3 x → x.cell? ⟨w.heap.size + 1, 1, none⟩ = some (.int .i64 m1.b) from fun x hx => (hx.cell (p := ⟨w.heap.size + 1, 1, none⟩) (by simp only []; omega)).trans Ca1_1.out)
    have Fa1_2 := Lib.hid (show ∀ x, Below w3.heap.size w3 x → x.cell? ⟨w.heap.size + 1, 2, none⟩ = some (.int .i64 m1.c) from fun x hx => (hx.cell (p := ⟨w.heap.size + 1, 2, none⟩) (by simp only []; omega)).trans Ca1_2.out)
    have Fa1_3 := Lib.hid (show ∀ x, Below w3.heap.size w3 x → x.cell? ⟨w.heap.size + 1, 3, none⟩ = some (.int .i64 m1.d) from fun x hx => (hx.cell (p := ⟨w.heap.size + 1, 3, none⟩) (by simp only []; omega)).trans Ca1_3.out)
    have SD := Lib.hid (show Below w3.heap.size w3 w3.drew from (Below.refl _ _).drew)
    go_cut [9, 10] (fun v u wx => ∃ g : Nat, v = .pointer (some ⟨g, 0, none⟩) ∧ u = .bool U1 ∧ w3.heap.size ≤ g ∧ wx.heap[g]? = some (.cells #[.int .i64 U0.a, .int .i64 U0.b, .int .i64 U0.c, .int .i64 U0.d] 46 (0, 0)) ∧ Below w3.heap.size w3 wx)
    case first =>
      refine wp_region_T (fun x : World => Below w3.heap.size w3 x) [0, 2, 4, 6, 7, 8, 11] [0, 2] (.lp 4 (.ls 0 (.ls 2 (.hv2 1 (.hv2 3 (.hv2 5 (.lp 6 (.lp 7 (.lp 8 (.hv 9 (.hv 10 (.lp 11 (.done))))))) 9 (.hv 5 (.lp 6 (.lp 7 (.lp 8 (.hv 10 (.lp 11 (.done)))))))) 9 (.hv 3 (.hv 5 (.lp 6 (.lp 7 (.lp 8 (.hv 10 (.lp 11 (.done))))))))) 9 (.hv 1 (.hv 3 (.hv 5 (.lp 6 (.lp 7 (.lp 8 (.hv 10 (.lp 11 (.done))))))))))))) (by kernel_rfl) (by kernel_rfl) ?_
      have sd := SD.out
      clear SD
      generalize World.drew w3 = wd at sd ⊢
      have HW := Lib.hid sd
      have hswd := sd.size
      clear sd
      (repeat (refine T_lp rfl (fun K hK => ?_); go_simp; refine hK _ ?_; clear hK K))
      refine T_ls1 (v := .agg #[.int .i64 m0.a, .int .i64 m0.b, .int .i64 m0.c, .int .i64 m0.d]) rfl rfl HW.out (fun x hx => (by have h1 := Fa0_0.out x hx; have h2 := Fa0_1.out x hx; have h3 := Fa0_2.out x hx; have h4 := Fa0_3.out x hx; go_simp)) (fun K hK => ?_)
      (go_simp; refine hK _ ?_; clear hK K)
      refine T_ls1 (v := .agg #[.int .i64 m1.a, .int .i64 m1.b, .int .i64 m1.c, .int .i64 m1.d]) rfl rfl HW.out (fun x hx => (by have h1 := Fa1_0.out x hx; have h2 := Fa1_1.out x hx; have h3 := Fa1_2.out x hx; have h4 := Fa1_3.out x hx; go_simp)) (fun K hK => ?_)
      (go_simp; refine hK _ ?_; clear hK K)
      refine T_hv2 ?_ ?_
      · refine T_hvS rfl (fun K hK => ?_)
        go_simp
        go_at_call 30
        refine (toMatrix_any m0 wd).mono ?_
        rintro e W13 ⟨rfl, hst⟩
        have HW := Lib.hid (HW.out.trans (hst.mono HW.out.size))
        have hszW13 : wd.heap.size ≤ W13.heap.size := hst.size
        clear hst
        go_simp
        refine hK _ _ HW.out ?_
        clear hK K
        refine T_hv2 ?_ ?_
        · refine T_hvS rfl (fun K hK => ?_)
          go_simp
          go_at_call 30
          refine (toMatrix_any m1 W13).mono ?_
          rintro e W14 ⟨rfl, hst⟩
          have HW := Lib.hid (HW.out.trans (hst.mono HW.out.size))
          have hszW14 : W13.heap.size ≤ W14.heap.size := hst.size
          clear hst
          go_simp
          refine hK _ _ HW.out ?_
          clear hK K
          refine T_hv2 ?_ ?_
          · refine T_hvS rfl (fun K hK => ?_)
            go_simp
            go_at_call 31
            refine (HIMPL.out W14).mono ?_
            rintro e W15 ⟨rfl, hst⟩
            have HW := Lib.hid (HW.out.trans (hst.mono HW.out.size))
            have hszW15 : W14.heap.size ≤ W15.heap.size := hst.size
            clear hst
            go_simp
            refine hK _ _ HW.out ?_
            clear hK K
            (repeat (refine T_lp rfl (fun K hK => ?_); go_simp; refine hK _ ?_; clear hK K))
            refine T_hvS rfl (fun K hK => ?_)
            go_simp
            refine hK _ _ (HW.out.alloc HW.out.size _) ?_
            clear hK K
            generalize hwa : World.alloc W15 _ = W16
            obtain ⟨hbx, hsx, hst⟩ := obj4 hwa
            clear hwa
            have hgb : w3.heap.size ≤ W15.heap.size := HW.out.size
            have HW := Lib.hid (HW.out.trans (hst.mono HW.out.size))
            have BX := Lib.hid hbx
            clear hbx hst
            obtain ⟨⟨t0, t1, t2, t3⟩, g0, g1, g2, g3⟩ := cells4 BX.out
            (refine T_hv rfl (by kernel_rfl) (fun K hK => ?_); go_simp; refine hK _ _ ?_; clear hK K)
            (repeat (refine T_lp rfl (fun K hK => ?_); go_simp; refine hK _ ?_; clear hK K))
            refine T_done ?_
            go_wp2
            go_meet
            case rel => exact ⟨W15.heap.size, rfl, rfl, hgb, obj_set4 BX.out, bel_set4 HW.out hgb _ _ _ _⟩
          · refine T_hvS rfl (fun K hK => ?_)
            go_simp
            refine hK _ _ (HW.out.alloc HW.out.size _) ?_
            clear hK K
            generalize hwa : World.alloc W14 _ = W17
            obtain ⟨hbx, hsx, hst⟩ := obj4 hwa
            clear hwa
            have hgb : w3.heap.size ≤ W14.heap.size := HW.out.size
            have HW := Lib.hid (HW.out.trans (hst.mono HW.out.size))
            have BX := Lib.hid hbx
            clear hbx hst
            refine T_hvS rfl (fun K hK => ?_)
            go_simp
            go_at_call 31
            refine (HIMPL.out W17).mono ?_
            rintro e W18 ⟨rfl, hst⟩
            have BX := Lib.hid (obj_keep BX.out hst (by omega))
            have HW := Lib.hid (HW.out.trans (hst.mono HW.out.size))
            have hszW18 : W17.heap.size ≤ W18.heap.size := hst.size
            clear hst
            go_simp
            refine hK _ _ HW.out ?_
            clear hK K
            (repeat (refine T_lp rfl (fun K hK => ?_); go_simp; refine hK _ ?_; clear hK K))
            obtain ⟨⟨t0, t1, t2, t3⟩, g0, g1, g2, g3⟩ := cells4 BX.out
            (refine T_hv rfl (by kernel_rfl) (fun K hK => ?_); go_simp; refine hK _ _ ?_; clear hK K)
            (repeat (refine T_lp rfl (fun K hK => ?_); go_simp; refine hK _ ?_; clear hK K))
            refine T_done ?_
            go_wp2
            go_meet
            case rel => exact ⟨W14.heap.size, rfl, rfl, hgb, obj_set4 BX.out, bel_set4 HW.out hgb _ _ _ _⟩
        · refine T_hvS rfl (fun K hK => ?_)
          go_simp
          refine hK _ _ (HW.out.alloc HW.out.size _) ?_
          clear hK K
          generalize hwa : World.alloc W13 _ = W19
          obtain ⟨hbx, hsx, hst⟩ := obj4 hwa
          clear hwa
          have hgb : w3.heap.size ≤ W13.heap.size := HW.out.size
          have HW := Lib.hid (HW.out.trans (hst.mono HW.out.size))
          have BX := Lib.hid hbx
          clear hbx hst
          refine T_hvS rfl (fun K hK => ?_)
          go_simp
          go_at_call 30
          refine (toMatrix_any m1 W19).mono ?_
          rintro e W20 ⟨rfl, hst⟩
          have BX := Lib.hid (obj_keep BX.out hst (by omega))
          have HW := Lib.hid (HW.out.trans (hst.mono HW.out.size))
          have hszW20 : W19.heap.size ≤ W20.heap.size := hst.size
          clear hst
          go_simp
          refine hK _ _ HW.out ?_
          clear hK K
          refine T_hvS rfl (fun K hK => ?_)
          go_simp
          go_at_call 31
          refine (HIMPL.out W20).mono ?_
          rintro e W21 ⟨rfl, hst⟩
          have BX := Lib.hid (obj_keep BX.out hst (by omega))
          have HW := Lib.hid (HW.out.trans (hst.mono HW.out.size))
          have hszW21 : W20.heap.size ≤ W21.heap.size := hst.size
          clear hst
          go_simp
          refine hK _ _ HW.out ?_
          clear hK K
          (repeat (refine T_lp rfl (fun K hK => ?_); go_simp; refine hK _ ?_; clear hK K))
          obtain ⟨⟨t0, t1, t2, t3⟩, g0, g1, g2, g3⟩ := cells4 BX.out
          (refine T_hv rfl (by kernel_rfl) (fun K hK => ?_); go_simp; refine hK _ _ ?_; clear hK K)
          (repeat (refine T_lp rfl (fun K hK => ?_); go_simp; refine hK _ ?_; clear hK K))
          refine T_done ?_
          go_wp2
          go_meet
          case rel => exact ⟨W13.heap.size, rfl, rfl, hgb, obj_set4 BX.out, bel_set4 HW.out hgb _ _ _ _⟩
      · refine T_hvS rfl (fun K hK => ?_)
        go_simp
        refine hK _ _ (HW.out.alloc HW.out.size _) ?_
        clear hK K
        generalize hwa : World.alloc wd _ = W22
        obtain ⟨hbx, hsx, hst⟩ := obj4 hwa
        clear hwa
        have hgb : w3.heap.size ≤ wd.heap.size := HW.out.size
        have HW := Lib.hid (HW.out.trans (hst.mono HW.out.size))
        have BX := Lib.hid hbx
        clear hbx hst
        refine T_hvS rfl (fun K hK => ?_)
        go_simp
        go_at_call 30
        refine (toMatrix_any m0 W22).mono ?_
        rintro e W23 ⟨rfl, hst⟩
        have BX := Lib.hid (obj_keep BX.out hst (by omega))
        have HW := Lib.hid (HW.out.trans (hst.mono HW.out.size))
        have hszW23 : W22.heap.size ≤ W23.heap.size := hst.size
        clear hst
        go_simp
        refine hK _ _ HW.out ?_
        clear hK K
        refine T_hvS rfl (fun K hK => ?_)
        go_simp
        go_at_call 30
        refine (toMatrix_any m1 W23).mono ?_
        rintro e W24 ⟨rfl, hst⟩
        have BX := Lib.hid (obj_keep BX.out hst (by omega))
        have HW := Lib.hid (HW.out.trans (hst.mono HW.out.size))
        have hszW24 : W23.heap.size ≤ W24.heap.size := hst.size
        clear hst
        go_simp
        refine hK _ _ HW.out ?_
        clear hK K
        refine T_hvS rfl (fun K hK => ?_)
        go_simp
        go_at_call 31
        refine (HIMPL.out W24).mono ?_
        rintro e W25 ⟨rfl, hst⟩
        have BX := Lib.hid (obj_keep BX.out hst (by omega))
        have HW := Lib.hid (HW.out.trans (hst.mono HW.out.size))
        have hszW25 : W24.heap.size ≤ W25.heap.size := hst.size
        clear hst
        go_simp
        refine hK _ _ HW.out ?_
        clear hK K
        (repeat (refine T_lp rfl (fun K hK => ?_); go_simp; refine hK _ ?_; clear hK K))
        obtain ⟨⟨t0, t1, t2, t3⟩, g0, g1, g2, g3⟩ := cells4 BX.out
        (refine T_hv rfl (by kernel_rfl) (fun K hK => ?_); go_simp; refine hK _ _ ?_; clear hK K)
        (repeat (refine T_lp rfl (fun K hK => ?_); go_simp; refine hK _ ?_; clear hK K))
        refine T_done ?_
        go_wp2
        go_meet
        case rel => exact ⟨wd.heap.size, rfl, rfl, hgb, obj_set4 BX.out, bel_set4 HW.out hgb _ _ _ _⟩
    case rest =>
      obtain ⟨gg, rfl, rfl, hggg, hblk, hbel⟩ := hcut
      have BLK := Lib.hid hblk
      have hglgg : gg < wc.heap.size := (Array.getElem?_eq_some_iff.1 hblk).1
      clear hblk
      obtain ⟨w4, rfl⟩ : ∃ x, x = wc := ⟨wc, rfl⟩
      have hsw4 : w3.heap.size ≤ w4.heap.size := hbel.size
      have HB := Lib.hid (HB.out.trans (hbel.mono (by omega)))
      have Ca0_0 := Lib.hid ((hbel.cell (p := ⟨w.heap.size, 0, none⟩) (by simp only []; omega)).trans Ca0_0.out)
      have Ca0_1 := Lib.hid ((hbel.cell (p := ⟨w.heap.size, 1, none⟩) (by simp only []; omega)).trans Ca0_1.out)
      have Ca0_2 := Lib.hid ((hbel.cell (p := ⟨w.heap.size, 2, none⟩) (by simp only []; omega)).trans Ca0_2.out)
      have Ca0_3 := Lib.hid ((hbel.cell (p := ⟨w.heap.size, 3, none⟩) (by simp only []; omega)).trans Ca0_3.out)
      have Ca1_0 := Lib.hid ((hbel.cell (p := ⟨w.heap.size + 1, 0, none⟩) (by simp only []; omega)).trans Ca1_0.out)
      have Ca1_1 := Lib.hid ((hbel.cell (p := ⟨w.heap.size + 1, 1, none⟩) (by simp only []; omega)).trans Ca1_1.out)
      have Ca1_2 := Lib.hid ((hbel.cell (p := ⟨w.heap.size + 1, 2, none⟩) (by simp only []; omega)).trans Ca1_2.out)
      have Ca1_3 := Lib.hid ((hbel.cell (p := ⟨w.heap.size + 1, 3, none⟩) (by simp only []; omega)).trans Ca1_3.out)
      have Cw0_0 := Lib.hid ((hbel.cell (p := ⟨gw, 0, none⟩) (by simp only []; omega)).trans Cw0_0.out)
      have Cw0_1 := Lib.hid ((hbel.cell (p := ⟨gw, 1, none⟩) (by simp only []; omega)).trans Cw0_1.out)
      have Cw0_2 := Lib.hid ((hbel.cell (p := ⟨gw, 2, none⟩) (by simp only []; omega)).trans Cw0_2.out)
      have Cw0_3 := Lib.hid ((hbel.cell (p := ⟨gw, 3, none⟩) (by simp only []; omega)).trans Cw0_3.out)
      clear hbel
      obtain ⟨⟨x0', x1', x2', x3'⟩, _⟩ := cells4 BLK.out
      have Cg0_0 := Lib.hid x0'
      have Cg0_1 := Lib.hid x1'
      have Cg0_2 := Lib.hid x2'
      have Cg0_3 := Lib.hid x3'
      clear x0' x1' x2' x3'
      have v1 := Cg0_0.out
      have v2 := Cg0_1.out
      have v3 := Cg0_2.out
      have v4 := Cg0_3.out
      have v5 := Cw0_0.out
      have v6 := Cw0_1.out
      have v7 := Cw0_2.out
      have v8 := Cw0_3.out
      go_wp2_with fail
      go_at_call 32
      clear v1 v2 v3 v4 v5 v6 v7 v8
      refine (eqMatrix_refl U0 w4).mono ?_
      rintro e w5 ⟨rfl, hbel⟩
      have hsw5 : w4.heap.size ≤ w5.heap.size := hbel.size
      have HB := Lib.hid (HB.out.trans (hbel.mono (by omega)))
      have Ca0_0 := Lib.hid ((hbel.cell (p := ⟨w.heap.size, 0, none⟩) (by simp only []; omega)).trans Ca0_0.out)
      have Ca0_1 := Lib.hid ((hbel.cell (p := ⟨w.heap.size, 1, none⟩) (by simp only []; omega)).trans Ca0_1.out)
      have Ca0_2 := Lib.hid ((hbel.cell (p := ⟨w.heap.size, 2, none⟩) (by simp only []; omega)).trans Ca0_2.out)
      have Ca0_3 := Lib.hid ((hbel.cell (p := ⟨w.heap.size, 3, none⟩) (by simp only []; omega)).trans Ca0_3.out)
      have Ca1_0 := Lib.hid ((hbel.cell (p := ⟨w.heap.size + 1, 0, none⟩) (by simp only []; omega)).trans Ca1_0.out)
      have Ca1_1 := Lib.hid ((hbel.cell (p := ⟨w.heap.size + 1, 1, none⟩) (by simp only []; omega)).trans Ca1_1.out)
      have Ca1_2 := Lib.hid ((hbel.cell (p := ⟨w.heap.size + 1, 2, none⟩) (by simp only []; omega)).trans Ca1_2.out)
      have Ca1_3 := Lib.hid ((hbel.cell (p := ⟨w.heap.size + 1, 3, none⟩) (by simp only []; omega)).trans Ca1_3.out)
      have Cw0_0 := Lib.hid ((hbel.cell (p := ⟨gw, 0, none⟩) (by simp only []; omega)).trans Cw0_0.out)
      have Cw0_1 := Lib.hid ((hbel.cell (p := ⟨gw, 1, none⟩) (by simp only []; omega)).trans Cw0_1.out)
      have Cw0_2 := Lib.hid ((hbel.cell (p := ⟨gw, 2, none⟩) (by simp only []; omega)).trans Cw0_2.out)
      have Cw0_3 := Lib.hid ((hbel.cell (p := ⟨gw, 3, none⟩) (by simp only []; omega)).trans Cw0_3.out)
      have Cg0_0 := Lib.hid ((hbel.cell (p := ⟨gg, 0, none⟩) (by simp only []; omega)).trans Cg0_0.out)
      have Cg0_1 := Lib.hid ((hbel.cell (p := ⟨gg, 1, none⟩) (by simp only []; omega)).trans Cg0_1.out)
      have Cg0_2 := Lib.hid ((hbel.cell (p := ⟨gg, 2, none⟩) (by simp only []; omega)).trans Cg0_2.out)
      have Cg0_3 := Lib.hid ((hbel.cell (p := ⟨gg, 3, none⟩) (by simp only []; omega)).trans Cg0_3.out)
      clear hbel
      go_wp2
      go_ret
      exact ⟨rfl, HB.out⟩

set_option maxRecDepth 100000 in
theorem matrixProduct_lifted (os : Os) (started : os.Started) (H : Type) (enc : TypeId × Value → H) :
    ReturnsInHanded {} Try.checked os 6 .any (Rows.fnExactMatrixProductSpec.pre6 enc Try.prog Try.f6 Rows.fnExactMatrixProductRow.domain false) (Rows.fnExactMatrixProductSpec.post enc Try.prog Try.f6 false true false false) := by
  refine returnsInHanded_of_change (C := Try.checked) own started (by kernel_rfl) Try.func6
    (ChangeSpec.witness6 (enc := enc) (C := Try.checked) false ⟨#[], #[.agg #[.int .i64 0, .int .i64 0, .int .i64 0, .int .i64 0], .agg #[.int .i64 0, .int .i64 0, .int .i64 0, .int .i64 0], .int .i64 0], []⟩ 8 (by kernel_rfl) (by kernel_rfl) (by kernel_rfl) (by kernel_rfl)) ?_
  intro W base args ds gs before hval0 hW _ _
  have hval : ∀ (j : Nat) t v, Try.f6.params[j]? = some t → args[j]? = some v → Value.okWide Try.prog W .any base t v := hval0
  have hW' := hW
  obtain ⟨p, q, hA0, hV, rfl, hfz, hnd⟩ := hW
  have hA : DataW.TrodAll enc Try.prog W 0 (fun _ => true) true Try.f6.params.toList args.toList ds p := hA0
  rw [Try.params6] at hA hval
  obtain ⟨v0, v1, v2, d0, d1, d2, pp0, pp1, pp2, rfl, rfl, hps, h0, h1, h2⟩ := trodAll_three hA
  rw [List.append_assoc] at hps
  subst hps
  obtain ⟨rfl, rfl⟩ := trodVars_none hV
  have h0k := h0
  have h1k := h1
  have h2k := h2
  obtain ⟨m0, hx0⟩ := open_matrix (hval 0 45 v0 rfl rfl) h0
  obtain ⟨m1, hx1⟩ := open_matrix (hval 1 45 v1 rfl rfl) h1
  obtain ⟨x2, hx2, _, _, _⟩ := open_int Try.underlying3 (hval 2 3 v2 rfl rfl) h2
  subst hx0
  subst hx1
  subst hx2
  clear hA0 hval0
  simp only [List.append_nil] at hW'
  refine (lawMatrixProduct m0 m1 x2 W ).mono fun e W' ⟨he, hb⟩ => ?_
  subst he
  have hlt : ∀ x ∈ pp0 ++ (pp1 ++ pp2), x.block < W.heap.size := fun x hx => by simpa using hW'.lt x hx
  refine ⟨_, rfl, _, _, _, [], pp0 ++ (pp1 ++ pp2), [], hW', trodAll_mk1 (shut_bool Try.underlying4 _), ?_, rfl, hb.frame _, fun h => by cases h⟩
  exact trodAll_mk3 (Below.trod laidOut (by kernel_rfl) (of_decide_eq_true (by kernel_rfl)) h0k hb fun x hx => hlt x (List.mem_append_left _ hx)) (Below.trod laidOut (by kernel_rfl) (of_decide_eq_true (by kernel_rfl)) h1k hb fun x hx => hlt x (List.mem_append_right _ (List.mem_append_left _ hx))) (Below.trod laidOut (by kernel_rfl) (of_decide_eq_true (by kernel_rfl)) h2k hb fun x hx => hlt x (List.mem_append_right _ (List.mem_append_right _ hx)))

theorem matrixProduct_holds : Rows.FnExactMatrixProductSaid :=
  OpenClaim.holds_of_wide 6 Try.f6 rfl rfl rfl rfl rfl rfl rfl ⟨rfl, rfl, rfl, rfl, rfl⟩ rfl rfl rfl rfl rfl (by kernel_rfl) Try.func6 (by kernel_rfl)
    (of_decide_eq_true (by kernel_rfl)) (by unfold Func.isWrapper; rw [if_neg (of_decide_eq_false (by kernel_rfl))]; exact ⟨rfl, rfl⟩)
    (fun os started H enc _ => matrixProduct_lifted os started H enc)
end Go.Proofs.Ytbbfbccemonihaa
