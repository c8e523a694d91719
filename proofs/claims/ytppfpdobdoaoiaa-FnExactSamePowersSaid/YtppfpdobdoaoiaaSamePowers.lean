/- The law FnExactSamePowers holds: for every two plans, valid or not, SamePowers of the program answers as SamePowers of the model, and the plans read afterwards as before. No condition. -/
import Derived.Test.YtppfpdobdoaoiaaOp
import Derived.Test.YtppfpdobdoaoiaaEa
import Derived.Test.YtppfpdobdoaoiaaPv
namespace Go.Proofs.Ytppfpdobdoaoiaa
open Go.ChangeShapes Go.WideShapes Go.ChangeAt Go.RowKit Go.Deep Go.Joins

theorem szPl_ok2 {p : Pl} {x : Int} (hx : x ≤ 1048576) (h : ¬ szPl p x < 0) : p.s.length ≤ 1048576 ∧ p.o.length ≤ 1048576 := by
  unfold szPl szR at h
  by_cases h1 : x - (p.s.length : Int) < 0
  · simp [h1] at h
  · simp only [h1, if_false] at h
    by_cases h2 : x - (p.s.length : Int) - p.o.length < 0
    · simp [h2] at h
    · omega
theorem szPl_le {p : Pl} : szPl p 1048576 ≤ 1048576 := by
  unfold szPl szR; split <;> split <;> omega

set_option maxRecDepth 100000 in
set_option maxHeartbeats 4000000 in
theorem lawSamePowers (A1 A2 A3 A4 : Option Addr) (c1 c2 c3 c4 : Nat) (p q : Pl) (w : World) (hn1 : p.s.length ≤ 9223372036854775807) (hn2 : p.o.length ≤ 9223372036854775807) (hn3 : q.s.length ≤ 9223372036854775807) (hn4 : q.o.length ≤ 9223372036854775807) (hr : RdP w w.heap.size A1 A2 p) (hr' : RdP w w.heap.size A3 A4 q) :
    Calls Try.prog 7 #[.agg #[.int .i64 p.n, .slice A1 p.s.length c1, .slice A2 p.o.length c2], .agg #[.int .i64 q.n, .slice A3 q.s.length c3, .slice A4 q.o.length c4]] w fun e w' => e = .returned (.bool true) ∧ Below w.heap.size w w' := by
  have H := Lib.hid hr
  have H' := Lib.hid hr'
  clear hr hr'
  obtain ⟨x, hx⟩ : ∃ x, szPl p 1048576 = x := ⟨_, rfl⟩
  have hsz := fun W => szPlan_any A1 A2 c1 c2 p 1048576 W (by omega) (by omega) hn1 hn2
  rw [hx] at hsz
  have HX := Lib.hid hx
  have HSZ := Lib.hid hsz
  have hxle : x ≤ 1048576 := by rw [← hx]; exact szPl_le
  have HXL := Lib.hid hxle
  clear hx hsz hxle
  by_cases hneg : x < 0
  · go_enter Try.func7, Try.ntmps7
    go_wp2_with fail
    go_at_call 21
    generalize hw1 : World.alloc (World.alloc w _) _ = w1
    obtain ⟨⟨x0, x1, x2⟩, ⟨x3, x4, x5⟩, xs, xb⟩ := boxes2c hw1
    clear hw1
    refine (HSZ.out _).mono ?_
    rintro e w2 ⟨rfl, hb2⟩
    go_wp2
    go_ret
    exact ⟨rfl, xb.trans (hb2.mono (by omega))⟩
  obtain ⟨l1, l2⟩ := szPl_ok (p := p) (by rw [HX.out]; exact hneg)
  obtain ⟨y, hy⟩ : ∃ y, szPl q x = y := ⟨_, rfl⟩
  have hsz := fun W => szPlan_any A3 A4 c3 c4 q x W (by omega) HXL.out hn3 hn4
  rw [hy] at hsz
  have HY := Lib.hid hy
  have HSY := Lib.hid hsz
  clear hy hsz
  by_cases hneg2 : y < 0
  · go_enter Try.func7, Try.ntmps7
    go_wp2_with fail
    go_at_call 21
    generalize hw1 : World.alloc (World.alloc w _) _ = w1
    obtain ⟨⟨x0, x1, x2⟩, ⟨x3, x4, x5⟩, xs, xb⟩ := boxes2c hw1
    clear hw1
    refine (HSZ.out _).mono ?_
    rintro e w2 ⟨rfl, hb2⟩
    have y3 := (hb2.cell (p := ⟨w.heap.size + 1, 0, none⟩) (by simp only []; omega)).trans x3
    have y4 := (hb2.cell (p := ⟨w.heap.size + 1, 1, none⟩) (by simp only []; omega)).trans x4
    have y5 := (hb2.cell (p := ⟨w.heap.size + 1, 2, none⟩) (by simp only []; omega)).trans x5
    have HB2 := Lib.hid (xb.trans (hb2.mono (show w.heap.size ≤ w1.heap.size by omega)))
    clear x0 x1 x2 x3 x4 x5 xs xb hb2
    go_wp2_with fail
    go_at_call 21
    refine (HSY.out _).mono ?_
    rintro e w3 ⟨rfl, hb3⟩
    go_wp2
    go_ret
    exact ⟨rfl, HB2.out.trans (hb3.mono (by have := HB2.out.size; omega))⟩
  obtain ⟨l3, l4⟩ := szPl_ok2 (p := q) HXL.out (by rw [HY.out]; exact hneg2)
  obtain ⟨V, hV⟩ : ∃ V, spV p q = V := ⟨_, rfl⟩
  obtain ⟨G, hG⟩ : ∃ G, (good p && good q) = G := ⟨_, rfl⟩
  have hC1 := fun W B B1 B2 B3 B4 d1 d2 d3 d4 hB hr1 hr2 => specSame_any B B1 B2 B3 B4 d1 d2 d3 d4 p q W hB (by omega) (by omega) (by omega) (by omega) hr1 hr2
  have hC2 := fun W B B1 B2 B3 B4 d1 d2 d3 d4 hB hr1 hr2 => implSame_any B B1 B2 B3 B4 d1 d2 d3 d4 p q W hB (by omega) (by omega) (by omega) (by omega) hr1 hr2
  simp only [hV, hG] at hC1 hC2
  have C1 := Lib.hid hC1
  have C2 := Lib.hid hC2
  clear hC1 hC2 hV hG
  go_enter Try.func7, Try.ntmps7
  go_wp2_with fail
  go_at_call 21
  generalize hw1 : World.alloc (World.alloc w _) _ = w1
  obtain ⟨⟨x0, x1, x2⟩, ⟨x3, x4, x5⟩, xs, xb⟩ := boxes2c hw1
  clear hw1
  refine (HSZ.out _).mono ?_
  rintro e w2 ⟨rfl, hb2⟩
  have y0 := (hb2.cell (p := ⟨w.heap.size, 0, none⟩) (by simp only []; omega)).trans x0
  have y1 := (hb2.cell (p := ⟨w.heap.size, 1, none⟩) (by simp only []; omega)).trans x1
  have y2 := (hb2.cell (p := ⟨w.heap.size, 2, none⟩) (by simp only []; omega)).trans x2
  have y3 := (hb2.cell (p := ⟨w.heap.size + 1, 0, none⟩) (by simp only []; omega)).trans x3
  have y4 := (hb2.cell (p := ⟨w.heap.size + 1, 1, none⟩) (by simp only []; omega)).trans x4
  have y5 := (hb2.cell (p := ⟨w.heap.size + 1, 2, none⟩) (by simp only []; omega)).trans x5
  have hs2 : w.heap.size + 2 ≤ w2.heap.size := by have := hb2.size; omega
  have HB2 := Lib.hid (xb.trans (hb2.mono (show w.heap.size ≤ w1.heap.size by omega)))
  clear x0 x1 x2 x3 x4 x5 xs xb hb2
  go_wp2_with fail
  go_at_call 21
  refine (HSY.out _).mono ?_
  rintro e w3 ⟨rfl, hb3⟩
  have HB3 := Lib.hid (HB2.out.trans (hb3.mono (by omega)))
  have hs3 : w.heap.size + 2 ≤ w3.heap.size := by have := hb3.size; omega
  have FS := Lib.hid (show ∀ x, Below w3.heap.size w3 x → (x.cell? ⟨w.heap.size, 0, none⟩ = some (.int .i64 p.n) ∧ x.cell? ⟨w.heap.size, 1, none⟩ = some (.slice A1 p.s.length c1) ∧ x.cell? ⟨w.heap.size, 2, none⟩ = some (.slice A2 p.o.length c2)) ∧
      (x.cell? ⟨w.heap.size + 1, 0, none⟩ = some (.int .i64 q.n) ∧ x.cell? ⟨w.heap.size + 1, 1, none⟩ = some (.slice A3 q.s.length c3) ∧ x.cell? ⟨w.heap.size + 1, 2, none⟩ = some (.slice A4 q.o.length c4)) from fun x hx => by
    have hx2 : Below w2.heap.size w2 x := hb3.trans (hx.mono hb3.size)
    exact ⟨⟨(hx2.cell (p := ⟨w.heap.size, 0, none⟩) (by simp only []; omega)).trans y0, (hx2.cell (p := ⟨w.heap.size, 1, none⟩) (by simp only []; omega)).trans y1, (hx2.cell (p := ⟨w.heap.size, 2, none⟩) (by simp only []; omega)).trans y2⟩,
      ⟨(hx2.cell (p := ⟨w.heap.size + 1, 0, none⟩) (by simp only []; omega)).trans y3, (hx2.cell (p := ⟨w.heap.size + 1, 1, none⟩) (by simp only []; omega)).trans y4, (hx2.cell (p := ⟨w.heap.size + 1, 2, none⟩) (by simp only []; omega)).trans y5⟩⟩)
  have S0 := Lib.hid (show Below w3.heap.size w3 w3.drew from (Below.refl _ _).drew)
  have H3 := Lib.hid (H.out.below HB3.out)
  have H3' := Lib.hid (H'.out.below HB3.out)
  clear y0 y1 y2 y3 y4 y5 hb3 hs2
  go_wp2
  refine wp_region_T (fun x : World => Below w3.heap.size w3 x) [0, 2, 5, 6, 7, 8, 9] [0, 2] (.ls 0 (.ls 2 (.hv 1 (.hv 3 (.hv 4 (.lp 5 (.lp 6 (.lp 7 (.lp 8 (.lp 9 (.done))))))))))) (by kernel_rfl) (by kernel_rfl) ?_
  (repeat (refine T_lp rfl (fun K hK => ?_); go_simp; refine hK _ ?_; clear hK K))
  refine T_ls1 (v := .agg #[.int .i64 p.n, .slice A1 p.s.length c1, .slice A2 p.o.length c2]) rfl rfl S0.out (fun x hx => (by obtain ⟨⟨h0, h1, h2⟩, _⟩ := FS.out x hx; go_simp)) (fun K hK => ?_)
  (go_simp; refine hK _ ?_; clear hK K)
  (repeat (refine T_lp rfl (fun K hK => ?_); go_simp; refine hK _ ?_; clear hK K))
  refine T_ls1 (v := .agg #[.int .i64 q.n, .slice A3 q.s.length c3, .slice A4 q.o.length c4]) rfl rfl S0.out (fun x hx => (by obtain ⟨_, ⟨h0, h1, h2⟩⟩ := FS.out x hx; go_simp)) (fun K hK => ?_)
  (go_simp; refine hK _ ?_; clear hK K)
  (repeat (refine T_lp rfl (fun K hK => ?_); go_simp; refine hK _ ?_; clear hK K))
  refine T_hvS rfl (fun K hK => ?_)
  go_simp
  go_at_call 23
  refine (toPlan_any w.heap.size A1 A2 c1 c2 p w3.drew l1 l2 (by simp; omega) H3.out.drew).mono ?_
  rintro e w4 ⟨B1, B2, d1, d2, rfl, hown4, hb4⟩
  have hb34 : Below w3.heap.size w3 w4 := (Below.refl _ _).drew.trans hb4
  have OW4 := Lib.hid hown4
  have HB34 := Lib.hid hb34
  have hs4 : w3.heap.size ≤ w4.heap.size := hb34.size
  clear hown4 hb4
  go_simp
  refine hK _ _ hb34 ?_
  clear hK K hb34
  refine T_hvS rfl (fun K hK => ?_)
  go_simp
  go_at_call 23
  refine (toPlan_any w.heap.size A3 A4 c3 c4 q w4 l3 l4 (by omega) (H3'.out.below (HB34.out.mono (by omega)))).mono ?_
  rintro e w5 ⟨B3, B4, d3, d4, rfl, hown5, hb5⟩
  have hb35 : Below w3.heap.size w3 w5 := HB34.out.trans (hb5.mono hs4)
  have OW45 := Lib.hid (OW4.out.below hb5)
  have OW5 := Lib.hid hown5
  have HB35 := Lib.hid hb35
  have hs5 : w3.heap.size ≤ w5.heap.size := hb35.size
  clear hown5 hb5
  go_simp
  refine hK _ _ hb35 ?_
  clear hK K hb35
  refine T_hvS rfl (fun K hK => ?_)
  go_simp
  go_at_call 36
  refine (C1.out w5 w5.heap.size B1 B2 B3 B4 d1 d2 d3 d4 (Nat.le_refl _) OW45.out.rd OW5.out.rd).mono ?_
  rintro e w6 ⟨rfl, hb6⟩
  have hb36 : Below w3.heap.size w3 w6 := HB35.out.trans (hb6.mono hs5)
  have HB36 := Lib.hid hb36
  have hs6 : w3.heap.size ≤ w6.heap.size := hb36.size
  clear hb6
  go_simp
  refine hK _ _ hb36 ?_
  clear hK K hb36
  (repeat (refine T_lp rfl (fun K hK => ?_); go_simp; refine hK _ ?_; clear hK K))
  refine T_done ?_
  obtain ⟨⟨z0, z1, z2⟩, ⟨z3, z4, z5⟩⟩ := FS.out w6 HB36.out
  go_wp2_with fail
  go_at_call 23
  refine (toPlan_any w.heap.size A1 A2 c1 c2 p w6 l1 l2 (by omega) (H3.out.below (HB36.out.mono (by omega)))).mono ?_
  rintro e w7 ⟨E1, E2, e1, e2, rfl, hown7, hb7⟩
  have hb37 : Below w3.heap.size w3 w7 := HB36.out.trans (hb7.mono hs6)
  have OW7 := Lib.hid hown7
  have HB37 := Lib.hid hb37
  have hs7 : w3.heap.size ≤ w7.heap.size := hb37.size
  clear z0 z1 z2 z3 z4 z5 hown7 hb7
  obtain ⟨_, ⟨z3, z4, z5⟩⟩ := FS.out w7 hb37
  have yk3 := cell_kept z3
  have yk4 := cell_kept z4
  have yk5 := cell_kept z5
  clear hb37
  go_wp2_with fail
  go_at_call 23
  generalize hw8 : World.alloc w7 _ = w8
  obtain ⟨k0, k1, k2, ks, kb⟩ := box3 hw8
  clear hw8 z3 z4 z5 yk3 yk4 yk5
  have hb38 : Below w3.heap.size w3 w8 := HB37.out.trans (kb.mono hs7)
  refine (toPlan_any w.heap.size A3 A4 c3 c4 q w8 l3 l4 (by omega) (H3'.out.below (hb38.mono (by omega)))).mono ?_
  rintro e w9 ⟨E3, E4, e3, e4, rfl, hown9, hb9⟩
  have hb79 : Below w7.heap.size w7 w9 := kb.trans (hb9.mono (by omega))
  have m0 := (hb9.cell (p := ⟨w7.heap.size, 0, none⟩) (by simp only []; omega)).trans k0
  have m1 := (hb9.cell (p := ⟨w7.heap.size, 1, none⟩) (by simp only []; omega)).trans k1
  have m2 := (hb9.cell (p := ⟨w7.heap.size, 2, none⟩) (by simp only []; omega)).trans k2
  have OW79 := Lib.hid (OW7.out.below hb79)
  have OW9 := Lib.hid hown9
  have HB39 := Lib.hid (HB37.out.trans (hb79.mono hs7))
  have hs9 : w7.heap.size + 1 ≤ w9.heap.size := by have := hb9.size; omega
  have mk0 := cell_kept m0
  have mk1 := cell_kept m1
  have mk2 := cell_kept m2
  clear k0 k1 k2 ks kb hb9 hb79 hown9 hb38
  go_wp2_with fail
  go_at_call 37
  generalize hw10 : World.alloc w9 _ = w10
  obtain ⟨n0, n1, n2, ns, nb⟩ := box3 hw10
  clear hw10 mk0 mk1 mk2
  refine (C2.out w10 w10.heap.size E1 E2 E3 E4 e1 e2 e3 e4 (Nat.le_refl _) (OW79.out.below nb).rd (OW9.out.below nb).rd).mono ?_
  rintro e w11 ⟨rfl, hb11⟩
  have hb911 : Below w9.heap.size w9 w11 := nb.trans (hb11.mono (by omega))
  have hs11 : w9.heap.size + 1 ≤ w11.heap.size := by have := hb11.size; omega
  have HB911 := Lib.hid hb911
  have OP := Lib.hid (OW79.out.below hb911)
  have OQ := Lib.hid (OW9.out.below hb911)
  have HB311 := Lib.hid (HB39.out.trans (hb911.mono (by omega)))
  have o0 := (hb911.cell (p := ⟨w7.heap.size, 0, none⟩) (by simp only []; omega)).trans m0
  have o1 := (hb911.cell (p := ⟨w7.heap.size, 1, none⟩) (by simp only []; omega)).trans m1
  have o2 := (hb911.cell (p := ⟨w7.heap.size, 2, none⟩) (by simp only []; omega)).trans m2
  have r0 := (hb11.cell (p := ⟨w9.heap.size, 0, none⟩) (by simp only []; omega)).trans n0
  have r1 := (hb11.cell (p := ⟨w9.heap.size, 1, none⟩) (by simp only []; omega)).trans n1
  have r2 := (hb11.cell (p := ⟨w9.heap.size, 2, none⟩) (by simp only []; omega)).trans n2
  have GS := Lib.hid (show ∀ x, Below w11.heap.size w11 x → ((x.cell? ⟨w.heap.size, 0, none⟩ = some (.int .i64 p.n) ∧ x.cell? ⟨w.heap.size, 1, none⟩ = some (.slice A1 p.s.length c1) ∧ x.cell? ⟨w.heap.size, 2, none⟩ = some (.slice A2 p.o.length c2)) ∧
      (x.cell? ⟨w.heap.size + 1, 0, none⟩ = some (.int .i64 q.n) ∧ x.cell? ⟨w.heap.size + 1, 1, none⟩ = some (.slice A3 q.s.length c3) ∧ x.cell? ⟨w.heap.size + 1, 2, none⟩ = some (.slice A4 q.o.length c4))) ∧
      (x.cell? ⟨w7.heap.size, 0, none⟩ = some (.int .i64 p.n) ∧ x.cell? ⟨w7.heap.size, 1, none⟩ = some (.slice E1 p.s.length e1) ∧ x.cell? ⟨w7.heap.size, 2, none⟩ = some (.slice E2 p.o.length e2)) ∧
      (x.cell? ⟨w9.heap.size, 0, none⟩ = some (.int .i64 q.n) ∧ x.cell? ⟨w9.heap.size, 1, none⟩ = some (.slice E3 q.s.length e3) ∧ x.cell? ⟨w9.heap.size, 2, none⟩ = some (.slice E4 q.o.length e4)) from fun x hx =>
    ⟨FS.out x (HB311.out.trans (hx.mono (by omega))),
      ⟨(hx.cell (p := ⟨w7.heap.size, 0, none⟩) (by simp only []; omega)).trans o0, (hx.cell (p := ⟨w7.heap.size, 1, none⟩) (by simp only []; omega)).trans o1, (hx.cell (p := ⟨w7.heap.size, 2, none⟩) (by simp only []; omega)).trans o2⟩,
      ⟨(hx.cell (p := ⟨w9.heap.size, 0, none⟩) (by simp only []; omega)).trans r0, (hx.cell (p := ⟨w9.heap.size, 1, none⟩) (by simp only []; omega)).trans r1, (hx.cell (p := ⟨w9.heap.size, 2, none⟩) (by simp only []; omega)).trans r2⟩⟩)
  have S1 := Lib.hid (show Below w11.heap.size w11 w11.drew from (Below.refl _ _).drew)
  have H11 := Lib.hid (H3.out.below (HB311.out.mono (by omega)))
  have H11' := Lib.hid (H3'.out.below (HB311.out.mono (by omega)))
  have HB11 := Lib.hid (HB3.out.trans (HB311.out.mono (by omega)))
  have hle : w.heap.size ≤ w11.heap.size := by omega
  clear hb11 hb911 m0 m1 m2 n0 n1 n2 ns nb o0 o1 o2 r0 r1 r2 hs3 hs4 hs5 hs6 hs7 hs9 hs11
  go_wp2
  refine wp_region_T (fun x : World => Below w11.heap.size w11 x) [0, 1, 4] [0, 1] (.ls 0 (.ls 1 (.hv 2 (.hv 3 (.lp 4 (.done)))))) (by kernel_rfl) (by kernel_rfl) ?_
  refine T_ls1 (v := .agg #[.int .i64 p.n, .slice E1 p.s.length e1, .slice E2 p.o.length e2]) rfl rfl S1.out (fun x hx => (by obtain ⟨_, ⟨h0, h1, h2⟩, _⟩ := GS.out x hx; go_simp)) (fun K hK => ?_)
  (go_simp; refine hK _ ?_; clear hK K)
  refine T_ls1 (v := .agg #[.int .i64 p.n, .slice A1 p.s.length c1, .slice A2 p.o.length c2]) rfl rfl S1.out (fun x hx => (by obtain ⟨⟨⟨h0, h1, h2⟩, _⟩, _⟩ := GS.out x hx; go_simp)) (fun K hK => ?_)
  (go_simp; refine hK _ ?_; clear hK K)
  refine T_hvS rfl (fun K hK => ?_)
  go_simp
  go_at_call 23
  refine (toPlan_any w.heap.size A1 A2 c1 c2 p w11.drew l1 l2 (by simp; omega) H11.out.drew).mono ?_
  rintro e w12 ⟨D1, D2, f1, f2, rfl, hown12, hb12⟩
  have hb1112 : Below w11.heap.size w11 w12 := (Below.refl _ _).drew.trans hb12
  have HO := Lib.hid hown12
  have HP := Lib.hid (OP.out.below hb1112)
  have HB1112 := Lib.hid hb1112
  clear hown12 hb12
  go_simp
  refine hK _ _ hb1112 ?_
  clear hK K hb1112
  refine T_hvS rfl (fun K hK => ?_)
  go_simp
  go_at_call 25
  have hE := eqPlan_any w12.heap.size w12.heap.size E1 E2 D1 D2 e1 e2 f1 f2 p p w12 (by omega) (by omega) (by omega) (by omega) (Nat.le_refl _) (Nat.le_refl _) HP.out.rd HO.out.rd
  rw [eqP_refl] at hE
  refine hE.mono ?_
  rintro e w13 ⟨rfl, hb13⟩
  have hb1113 : Below w11.heap.size w11 w13 := HB1112.out.trans (hb13.mono HB1112.out.size)
  have HB1113 := Lib.hid hb1113
  clear hE hb13
  go_simp
  refine hK _ _ hb1113 ?_
  clear hK K hb1113
  (repeat (refine T_lp rfl (fun K hK => ?_); go_simp; refine hK _ ?_; clear hK K))
  refine T_done ?_
  have hs13 : w11.heap.size ≤ w13.heap.size := HB1113.out.size
  have S2 := Lib.hid (show Below w11.heap.size w11 w13.drew from HB1113.out.drew)
  go_wp2
  refine wp_region_T (fun x : World => Below w11.heap.size w11 x) [0, 1, 4] [0, 1] (.ls 0 (.ls 1 (.hv 2 (.hv 3 (.lp 4 (.done)))))) (by kernel_rfl) (by kernel_rfl) ?_
  refine T_ls1 (v := .agg #[.int .i64 q.n, .slice E3 q.s.length e3, .slice E4 q.o.length e4]) rfl rfl S2.out (fun x hx => (by obtain ⟨_, _, ⟨h0, h1, h2⟩⟩ := GS.out x hx; go_simp)) (fun K hK => ?_)
  (go_simp; refine hK _ ?_; clear hK K)
  refine T_ls1 (v := .agg #[.int .i64 q.n, .slice A3 q.s.length c3, .slice A4 q.o.length c4]) rfl rfl S2.out (fun x hx => (by obtain ⟨⟨_, ⟨h0, h1, h2⟩⟩, _⟩ := GS.out x hx; go_simp)) (fun K hK => ?_)
  (go_simp; refine hK _ ?_; clear hK K)
  refine T_hvS rfl (fun K hK => ?_)
  go_simp
  go_at_call 23
  refine (toPlan_any w.heap.size A3 A4 c3 c4 q w13.drew l3 l4 (by simp; omega) ((H11'.out.below (HB1113.out.mono hle)).drew)).mono ?_
  rintro e w14 ⟨F1, F2, g1, g2, rfl, hown14, hb14⟩
  have hb1114 : Below w11.heap.size w11 w14 := S2.out.trans (hb14.mono (by simp; omega))
  have HO4 := Lib.hid hown14
  have HQ := Lib.hid (OQ.out.below hb1114)
  have HB1114 := Lib.hid hb1114
  clear hown14 hb14
  go_simp
  refine hK _ _ hb1114 ?_
  clear hK K hb1114
  refine T_hvS rfl (fun K hK => ?_)
  go_simp
  go_at_call 25
  have hE := eqPlan_any w14.heap.size w14.heap.size E3 E4 F1 F2 e3 e4 g1 g2 q q w14 (by omega) (by omega) (by omega) (by omega) (Nat.le_refl _) (Nat.le_refl _) HQ.out.rd HO4.out.rd
  rw [eqP_refl] at hE
  refine hE.mono ?_
  rintro e w15 ⟨rfl, hb15⟩
  have hb1115 : Below w11.heap.size w11 w15 := HB1114.out.trans (hb15.mono HB1114.out.size)
  have HB1115 := Lib.hid hb1115
  clear hE hb15
  go_simp
  refine hK _ _ hb1115 ?_
  clear hK K hb1115
  (repeat (refine T_lp rfl (fun K hK => ?_); go_simp; refine hK _ ?_; clear hK K))
  refine T_done ?_
  go_wp2
  go_ret
  exact ⟨rfl, HB11.out.trans (HB1115.out.mono hle)⟩

set_option maxRecDepth 100000 in
theorem samePowers_lifted (os : Os) (started : os.Started) (H : Type) (enc : TypeId × Value → H) :
    ReturnsInHanded {} Try.checked os 7 .any (Rows.fnExactSamePowersSpec.pre6 enc Try.prog Try.f7 Rows.fnExactSamePowersRow.domain false) (Rows.fnExactSamePowersSpec.post enc Try.prog Try.f7 false true false false) := by
  refine returnsInHanded_of_change (C := Try.checked) own started (by kernel_rfl) Try.func7
    (ChangeSpec.witness6 (enc := enc) (C := Try.checked) false ⟨#[], #[.agg #[.int .i64 0, .slice none 0 0, .slice none 0 0], .agg #[.int .i64 0, .slice none 0 0, .slice none 0 0]], []⟩ 8 (by kernel_rfl) (by kernel_rfl) (by kernel_rfl) (by kernel_rfl)) ?_
  intro W base args ds gs before hval0 hW _ _
  have hval : ∀ (j : Nat) t v, Try.f7.params[j]? = some t → args[j]? = some v → Value.okWide Try.prog W .any base t v := hval0
  have hW' := hW
  obtain ⟨p, q, hA0, hV, rfl, hfz, hnd⟩ := hW
  have hA : DataW.TrodAll enc Try.prog W 0 (fun _ => true) true Try.f7.params.toList args.toList ds p := hA0
  rw [Try.params7] at hA hval
  obtain ⟨v0, v1, d0, d1, p0, p1, rfl, rfl, rfl, h0, h1⟩ := trodAll_two hA
  obtain ⟨rfl, rfl⟩ := trodVars_none hV
  have hv0 := hval 0 38 v0 rfl rfl
  have hv1 := hval 1 38 v1 rfl rfl
  obtain ⟨A1, A2, c1, c2, pl, hv, l1, l2, hrd⟩ := open_plan hv0 h0
  obtain ⟨A3, A4, c3, c4, ql, hu, l3, l4, hrd'⟩ := open_plan hv1 h1
  have h0k := h0
  have h1k := h1
  subst hv
  subst hu
  clear hA0 hval0
  simp only [List.append_nil] at hW'
  refine (lawSamePowers A1 A2 A3 A4 c1 c2 c3 c4 pl ql W l1 l2 l3 l4 hrd hrd').mono fun e W' ⟨he, hb⟩ => ?_
  subst he
  have hlt : ∀ x ∈ p0 ++ p1, x.block < W.heap.size := fun x hx => by simpa using hW'.lt x hx
  refine ⟨_, rfl, _, _, _, [], p0 ++ p1, [], hW', trodAll_mk1 (shut_bool Try.underlying4 _), ?_, rfl, hb.frame _, fun h => by cases h⟩
  exact trodAll_mk2 (Below.trod laidOut (by kernel_rfl) (of_decide_eq_true (by kernel_rfl)) h0k hb fun x hx => hlt x (List.mem_append_left _ hx)) (Below.trod laidOut (by kernel_rfl) (of_decide_eq_true (by kernel_rfl)) h1k hb fun x hx => hlt x (List.mem_append_right _ hx))

theorem samePowers_holds : Rows.FnExactSamePowersSaid :=
  OpenClaim.holds_of_wide 7 Try.f7 rfl rfl rfl rfl rfl rfl rfl ⟨rfl, rfl, rfl, rfl, rfl⟩ rfl rfl rfl rfl rfl (by kernel_rfl) Try.func7 (by kernel_rfl)
    (of_decide_eq_true (by kernel_rfl)) (by unfold Func.isWrapper; rw [if_neg (of_decide_eq_false (by kernel_rfl))]; exact ⟨rfl, rfl⟩)
    (fun os started H enc _ => samePowers_lifted os started H enc)
end Go.Proofs.Ytppfpdobdoaoiaa
