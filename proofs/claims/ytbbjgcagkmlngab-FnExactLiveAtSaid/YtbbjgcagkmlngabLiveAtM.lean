/- The law FnExactLiveAt holds: for every argument, valid or not, LiveAt of the program answers as LiveAt of the model, writes into no argument, and its answer owns its memory. No condition. -/
import Derived.Test.YtbbjgcagkmlngabPL0
import Derived.Test.YtbbjgcagkmlngabPL2
namespace Go.Proofs.Ytbbjgcagkmlngab
open Go.ChangeShapes Go.WideShapes Go.ChangeAt Go.RowKit Go.Deep Go.Joins

set_option maxRecDepth 100000 in
set_option maxHeartbeats 4000000 in
theorem lawLiveAt (A1 A2 : Option Addr) (c1 c2 : Nat) (p : Pl) (x : Int) (w : World) (hn1 : p.s.length ≤ 9223372036854775807) (hn2 : p.o.length ≤ 9223372036854775807) (hr : RdP w w.heap.size A1 A2 p) :
    Calls Try.prog 4 #[.agg #[.int .i64 p.n, .slice A1 p.s.length c1, .slice A2 p.o.length c2], .int .i64 x] w fun e w' => e = .returned (.bool true) ∧ Below w.heap.size w w' := by
  have H := Lib.hid hr
  clear hr
  obtain ⟨q0, hq0⟩ : ∃ qx, szPl p 1048576 = qx := ⟨_, rfl⟩
  have hsz := fun W => szPlan_any A1 A2 c1 c2 p 1048576 W (by omega) (by omega) hn1 hn2
  rw [hq0] at hsz
  have HX := Lib.hid hq0
  have HSZ := Lib.hid hsz
  clear hq0 hsz
  by_cases hneg : q0 < 0
  · go_enter Try.func4, Try.ntmps4
    go_wp2_with fail
    go_at_call 22
    refine (HSZ.out _).mono ?_
    rintro e w2 ⟨rfl, hb2⟩
    go_wp2
    go_ret
    exact ⟨rfl, ((Below.refl _ _).alloc (Nat.le_refl _) _).trans (hb2.mono (by simp))⟩
  · obtain ⟨l1, l2⟩ := szPl_ok (p := p) (by rw [HX.out]; exact hneg)
    obtain ⟨U, hU⟩ : ∃ U, lvR p x = U := ⟨_, rfl⟩
    have hUl : U.length ≤ 1000 := by rw [← hU]; exact lvR_le p x
    obtain ⟨gd, hgd⟩ : ∃ gx, lvG p x = gx := ⟨_, rfl⟩
    have hspec := fun W A A' d d' hd => specLive_any (World.heap W).size A A' d d' p x W (Nat.le_refl _) (by omega) (by omega) hd
    have himpl := fun W A A' d d' hd => implLive_any (World.heap W).size A A' d d' p x W (Nat.le_refl _) (by omega) (by omega) hd
    rw [hU, hgd] at hspec himpl
    have HSPEC := Lib.hid hspec
    have HIMPL := Lib.hid himpl
    clear hU hgd hspec himpl
    go_enter Try.func4, Try.ntmps4
    go_wp2_with fail
    go_at_call 22
    generalize hw1 : World.alloc w _ = w1
    obtain ⟨x0, x1, x2, xs, xb⟩ := box3 hw1
    clear hw1
    refine (HSZ.out _).mono ?_
    rintro e w2 ⟨rfl, hb2⟩
    have hs2 : w.heap.size + 1 ≤ w2.heap.size := by have := hb2.size; omega
    have y0 := (hb2.cell (p := ⟨w.heap.size, 0, none⟩) (by simp only []; omega)).trans x0
    have y1 := (hb2.cell (p := ⟨w.heap.size, 1, none⟩) (by simp only []; omega)).trans x1
    have y2 := (hb2.cell (p := ⟨w.heap.size, 2, none⟩) (by simp only []; omega)).trans x2
    have hbw := xb.trans (hb2.mono (show w.heap.size ≤ w1.heap.size by omega))
    have HB2 := Lib.hid hbw
    clear x0 x1 x2 xs xb hb2 hbw
    go_wp2_with fail
    go_at_call 24
    refine (toPlan_any w.heap.size A1 A2 c1 c2 p w2 l1 l2 (by omega) (H.out.below HB2.out)).mono ?_
    rintro e w3 ⟨B1, B2, d1, d2, rfl, hown3, hb3⟩
    go_wp2_with fail
    go_at_call 23
    refine (HSPEC.out w3 B1 B2 d1 d2 (own_cap hown3.1) hown3.rd).mono ?_
    rintro e w4 ⟨A0, c0, rfl, hres4, hb4⟩
    have hb24 := hb3.trans (hb4.mono hb3.size)
    have hs4 : w.heap.size + 1 ≤ w4.heap.size := by have := hb24.size; omega
    have z0 := (hb24.cell (p := ⟨w.heap.size, 0, none⟩) (by simp only []; omega)).trans y0
    have z1 := (hb24.cell (p := ⟨w.heap.size, 1, none⟩) (by simp only []; omega)).trans y1
    have z2 := (hb24.cell (p := ⟨w.heap.size, 2, none⟩) (by simp only []; omega)).trans y2
    have HB4 := Lib.hid (HB2.out.trans (hb24.mono (by omega)))
    have RES := Lib.hid hres4
    clear y0 y1 y2 hb3 hb4 hb24 hown3 hs2 hres4
    go_wp2_with fail
    go_at_call 24
    refine (toPlan_any w.heap.size A1 A2 c1 c2 p w4 l1 l2 (by omega) (H.out.below HB4.out)).mono ?_
    rintro e w5 ⟨C1, C2, e1, e2, rfl, hown5, hb5⟩
    have hs5 : w4.heap.size ≤ w5.heap.size := hb5.size
    go_wp2_with fail
    go_at_call 25
    generalize hw6 : World.alloc w5 _ = w6
    obtain ⟨k0, k1, k2, ks, kb⟩ := box3 hw6
    clear hw6
    have hown6 := hown5.below kb
    refine (HIMPL.out w6 C1 C2 e1 e2 (own_cap hown6.1) hown6.rd).mono ?_
    rintro e w7 ⟨AG, cg, rfl, hres7, hb7⟩
    have hb47 : Below w4.heap.size w4 w7 := (hb5.trans (kb.mono hs5)).trans (hb7.mono (by omega))
    have hs7 : w6.heap.size ≤ w7.heap.size := hb7.size
    have m0 := (hb47.cell (p := ⟨w.heap.size, 0, none⟩) (by simp only []; omega)).trans z0
    have m1 := (hb47.cell (p := ⟨w.heap.size, 1, none⟩) (by simp only []; omega)).trans z1
    have m2 := (hb47.cell (p := ⟨w.heap.size, 2, none⟩) (by simp only []; omega)).trans z2
    have n0 := (hb7.cell (p := ⟨w5.heap.size, 0, none⟩) (by simp only []; omega)).trans k0
    have n1 := (hb7.cell (p := ⟨w5.heap.size, 1, none⟩) (by simp only []; omega)).trans k1
    have n2 := (hb7.cell (p := ⟨w5.heap.size, 2, none⟩) (by simp only []; omega)).trans k2
    have HO6 := Lib.hid hown6
    have HO7 := Lib.hid (hown6.below hb7)
    have HG7 := Lib.hid hres7
    have HB47 := Lib.hid hb47
    have HB7 := Lib.hid (HB4.out.trans (hb47.mono (by omega)))
    clear z0 z1 z2 k0 k1 k2 kb hb5 hb7 hb47 hown5 hown6 hres7
    go_wp2_with fail
    go_at_call 26
    have hE := eqIntS_any w7.heap.size w7.heap.size AG A0 cg c0 U U w7 (by omega) (by omega) HG7.out.rd (RES.out.below HB47.out).rd
    rw [eqI_refl] at hE
    refine hE.mono ?_
    rintro e w8 ⟨rfl, ⟨nd, rfl⟩⟩
    clear hE
    go_wp2
    have HSH := Lib.hid (show (fun x : World => x.cell? ⟨w.heap.size, 0, none⟩ = some (.int .i64 p.n) ∧ x.cell? ⟨w.heap.size, 1, none⟩ = some (.slice A1 p.s.length c1) ∧ x.cell? ⟨w.heap.size, 2, none⟩ = some (.slice A2 p.o.length c2) ∧
        x.cell? ⟨w5.heap.size, 0, none⟩ = some (.int .i64 p.n) ∧ x.cell? ⟨w5.heap.size, 1, none⟩ = some (.slice C1 p.s.length e1) ∧ x.cell? ⟨w5.heap.size, 2, none⟩ = some (.slice C2 p.o.length e2)) (w7.drewN nd).drew from ⟨m0, m1, m2, n0, n1, n2⟩)
    clear m0 m1 m2 n0 n1 n2
    refine wp_region_T (fun x : World => x.cell? ⟨w.heap.size, 0, none⟩ = some (.int .i64 p.n) ∧ x.cell? ⟨w.heap.size, 1, none⟩ = some (.slice A1 p.s.length c1) ∧ x.cell? ⟨w.heap.size, 2, none⟩ = some (.slice A2 p.o.length c2) ∧
        x.cell? ⟨w5.heap.size, 0, none⟩ = some (.int .i64 p.n) ∧ x.cell? ⟨w5.heap.size, 1, none⟩ = some (.slice C1 p.s.length e1) ∧ x.cell? ⟨w5.heap.size, 2, none⟩ = some (.slice C2 p.o.length e2)) [0, 1, 4] [0, 1] (.ls 0 (.ls 1 (.hv 2 (.hv 3 (.lp 4 (.done)))))) (by kernel_rfl) (by kernel_rfl) ?_
    refine T_ls1 (v := .agg #[.int .i64 p.n, .slice C1 p.s.length e1, .slice C2 p.o.length e2]) rfl rfl HSH.out (fun x hx => (by obtain ⟨h1, h2, h3, h4, h5, h6⟩ := hx; go_simp)) (fun K hK => ?_)
    (go_simp; refine hK _ ?_; clear hK K)
    refine T_ls1 (v := .agg #[.int .i64 p.n, .slice A1 p.s.length c1, .slice A2 p.o.length c2]) rfl rfl HSH.out (fun x hx => (by obtain ⟨h1, h2, h3, h4, h5, h6⟩ := hx; go_simp)) (fun K hK => ?_)
    (go_simp; refine hK _ ?_; clear hK K)
    refine T_hvS rfl (fun K hK => ?_)
    go_simp
    go_at_call 24
    refine (toPlan_any w.heap.size A1 A2 c1 c2 p (w7.drewN nd).drew l1 l2 (by simp; omega) ((H.out.below HB7.out).drewN nd).drew).mono ?_
    rintro e w8 ⟨D1, D2, f1, f2, rfl, hown8, hb8⟩
    have hb8' : Below w7.heap.size w7 w8 := ((bDrewN (Below.refl _ w7) nd).drew).trans (hb8.mono (by simp))
    have hs8 := hb8'.size
    have HS8H := Lib.hid (show (fun x : World => x.cell? ⟨w.heap.size, 0, none⟩ = some (.int .i64 p.n) ∧ x.cell? ⟨w.heap.size, 1, none⟩ = some (.slice A1 p.s.length c1) ∧ x.cell? ⟨w.heap.size, 2, none⟩ = some (.slice A2 p.o.length c2) ∧
        x.cell? ⟨w5.heap.size, 0, none⟩ = some (.int .i64 p.n) ∧ x.cell? ⟨w5.heap.size, 1, none⟩ = some (.slice C1 p.s.length e1) ∧ x.cell? ⟨w5.heap.size, 2, none⟩ = some (.slice C2 p.o.length e2)) w8 from
      ⟨(hb8.cell (p := ⟨w.heap.size, 0, none⟩) (by simp; omega)).trans HSH.out.1, (hb8.cell (p := ⟨w.heap.size, 1, none⟩) (by simp; omega)).trans HSH.out.2.1, (hb8.cell (p := ⟨w.heap.size, 2, none⟩) (by simp; omega)).trans HSH.out.2.2.1,
      (hb8.cell (p := ⟨w5.heap.size, 0, none⟩) (by simp; omega)).trans HSH.out.2.2.2.1, (hb8.cell (p := ⟨w5.heap.size, 1, none⟩) (by simp; omega)).trans HSH.out.2.2.2.2.1, (hb8.cell (p := ⟨w5.heap.size, 2, none⟩) (by simp; omega)).trans HSH.out.2.2.2.2.2⟩)
    have HO8 := Lib.hid hown8
    have HO78 := Lib.hid (HO7.out.below hb8')
    have HB78 := Lib.hid hb8'
    clear hown8 hb8 hb8'
    go_simp
    refine hK _ _ HS8H.out ?_
    clear hK K
    (refine T_hv rfl (by kernel_rfl) (fun K hK => ?_); go_simp)
    go_at_call 27
    have hE := eqPlan_any w8.heap.size w8.heap.size C1 C2 D1 D2 e1 e2 f1 f2 p p w8 (by omega) (by omega) (by omega) (by omega) (Nat.le_refl _) (Nat.le_refl _) HO78.out.rd HO8.out.rd
    rw [eqP_refl] at hE
    refine hE.mono ?_
    rintro e w9 ⟨rfl, hb9⟩
    clear hE
    have hb79 := HB78.out.trans (hb9.mono hs8)
    have hs9 := hb79.size
    have r0 := (hb9.cell (p := ⟨w.heap.size, 0, none⟩) (by simp only []; omega)).trans HS8H.out.1
    have r1 := (hb9.cell (p := ⟨w.heap.size, 1, none⟩) (by simp only []; omega)).trans HS8H.out.2.1
    have r2 := (hb9.cell (p := ⟨w.heap.size, 2, none⟩) (by simp only []; omega)).trans HS8H.out.2.2.1
    have r3 := (hb9.cell (p := ⟨w5.heap.size, 0, none⟩) (by simp only []; omega)).trans HS8H.out.2.2.2.1
    have r4 := (hb9.cell (p := ⟨w5.heap.size, 1, none⟩) (by simp only []; omega)).trans HS8H.out.2.2.2.2.1
    have r5 := (hb9.cell (p := ⟨w5.heap.size, 2, none⟩) (by simp only []; omega)).trans HS8H.out.2.2.2.2.2
    have HO9 := Lib.hid (HO7.out.below hb79)
    have HG9 := Lib.hid (HG7.out.below hb79)
    have HB49 := Lib.hid (HB47.out.trans (hb79.mono (by omega)))
    clear hb9 hb79
    (go_simp; refine hK _ _ ?_; clear hK K)
    (repeat (first | (refine T_lp rfl (fun K hK => ?_); go_simp; refine hK _ ?_; clear hK K) | (refine T_ls rfl rfl (fun K hK => ?_); go_simp; refine hK _ ?_; clear hK K)))
    refine T_done ?_
    go_wp2_with fail
    go_at_call 28
    have hwin := markPlan_any w4.heap.size w6.heap.size C1 C2 e1 e2 p 1 w9 l1 l2 (by omega) (by omega) (by omega) (by omega) HO9.out (fun k hk => (own_block HO6.out.1 k hk).2) (fun k hk => (own_block HO6.out.2 k hk).2)
    refine hwin.mono ?_
    rintro e w10 ⟨rfl, _, _, hwn⟩
    clear hwin
    have hk0 : ¬ (1 + 2 * (p.s.length : Int) + (p.o.length : Int) < 0) := by omega
    have t0 := (hwn.1.cell (p := ⟨w.heap.size, 0, none⟩) (by simp only []; omega)).trans r0
    have t1 := (hwn.1.cell (p := ⟨w.heap.size, 1, none⟩) (by simp only []; omega)).trans r1
    have t2 := (hwn.1.cell (p := ⟨w.heap.size, 2, none⟩) (by simp only []; omega)).trans r2
    have HG10 := Lib.hid (hwn.own HG9.out (Nat.le_refl _))
    have HB410 := Lib.hid (HB49.out.trans hwn.1)
    have hs10 := hwn.1.size
    clear r0 r1 r2 r3 r4 r5 hwn
    go_wp2_with fail
    go_at_call 26
    have hE := eqIntS_any w10.heap.size w10.heap.size AG A0 cg c0 U U w10 (by omega) (by omega) (Rd.of_own HG10.out) (RES.out.below HB410.out).rd
    rw [eqI_refl] at hE
    refine hE.mono ?_
    rintro e w11 ⟨rfl, ⟨ne, rfl⟩⟩
    clear hE
    go_wp2_with fail
    go_at_call 29
    refine (markIntS_any w6.heap.size AG cg U 1 (w10.drewN ne) (by omega) (by omega) (by omega) (OwI.drewN HG10.out ne)).mono ?_
    rintro e w12 ⟨rfl, hm12, hg12⟩
    have hb12 : Below w6.heap.size w10 w12 := (bDrewN (Below.refl _ w10) ne).trans (Below.grown (Below.refl _ _) hg12 (by simp; omega) (fun k hk => (own_block HG10.out k hk).1))
    have hs12 := hb12.size
    have u0 := (hb12.cell (p := ⟨w.heap.size, 0, none⟩) (by simp only []; omega)).trans t0
    have u1 := (hb12.cell (p := ⟨w.heap.size, 1, none⟩) (by simp only []; omega)).trans t1
    have u2 := (hb12.cell (p := ⟨w.heap.size, 2, none⟩) (by simp only []; omega)).trans t2
    have HM12 := Lib.hid (own_rd_marks hm12)
    have HB412 := Lib.hid (HB410.out.trans (hb12.mono (by omega)))
    have hk1 : ¬ (1 + (U.length : Int) < 0) := by omega
    clear t0 t1 t2 hm12 hg12 hb12
    go_wp2_with fail
    go_at_call 30
    refine (heldIntS_any w12.heap.size AG cg U.length 1 w12 (by omega) (by omega) (by omega) HM12.out).mono ?_
    rintro e w13 ⟨rfl, rfl⟩
    go_wp2_with fail
    go_at_call 24
    refine (toPlan_any w.heap.size A1 A2 c1 c2 p w12 l1 l2 (by omega) (H.out.below (HB4.out.trans (HB412.out.mono (by omega))))).mono ?_
    rintro e w14 ⟨D3, D4, f3, f4, rfl, hown14, hb14⟩
    go_wp2_with fail
    go_at_call 25
    refine (HIMPL.out w14 D3 D4 f3 f4 (own_cap hown14.1) hown14.rd).mono ?_
    rintro e w15 ⟨AH, ch, rfl, hres15, hb15⟩
    have hb1215 : Below w12.heap.size w12 w15 := hb14.trans (hb15.mono hb14.size)
    have HB1215 := Lib.hid hb1215
    have HH15 := Lib.hid hres15
    clear hown14 hb14 hb15 hb1215 hres15
    go_wp2_with fail
    go_at_call 26
    have hE := eqIntS_any w15.heap.size w15.heap.size AH A0 ch c0 U U w15 (by omega) (by omega) HH15.out.rd (RES.out.below (HB412.out.trans (HB1215.out.mono (by omega)))).rd
    rw [eqI_refl] at hE
    refine hE.mono ?_
    rintro e w16 ⟨rfl, ⟨nf, rfl⟩⟩
    clear hE
    go_wp2_with fail
    go_at_call 30
    refine (heldIntS_any w12.heap.size AG cg U.length 1 (w15.drewN nf) (by omega) (by omega) (by omega) ((HM12.out.below HB1215.out).drewN nf)).mono ?_
    rintro e w17 ⟨rfl, rfl⟩
    go_wp2
    go_ret
    exact ⟨rfl, bDrewN ((HB4.out.trans (HB412.out.mono (by omega))).trans (HB1215.out.mono (by omega))) nf⟩

set_option maxRecDepth 100000 in
theorem liveAt_lifted (os : Os) (started : os.Started) (H : Type) (enc : TypeId × Value → H) :
    ReturnsInHanded {} Try.checked os 4 .any (Rows.fnExactLiveAtSpec.pre6 enc Try.prog Try.f4 Rows.fnExactLiveAtRow.domain false) (Rows.fnExactLiveAtSpec.post enc Try.prog Try.f4 false true false false) := by
  refine returnsInHanded_of_change (C := Try.checked) own started (by kernel_rfl) Try.func4
    (ChangeSpec.witness6 (enc := enc) (C := Try.checked) false ⟨#[], #[.agg #[.int .i64 0, .slice none 0 0, .slice none 0 0], .int .i64 0], []⟩ 8 (by kernel_rfl) (by kernel_rfl) (by kernel_rfl) (by kernel_rfl)) ?_
  intro W base args ds gs before hval0 hW _ _
  have hval : ∀ (j : Nat) t v, Try.f4.params[j]? = some t → args[j]? = some v → Value.okWide Try.prog W .any base t v := hval0
  have hW' := hW
  obtain ⟨p, q, hA0, hV, rfl, hfz, hnd⟩ := hW
  have hA : DataW.TrodAll enc Try.prog W 0 (fun _ => true) true Try.f4.params.toList args.toList ds p := hA0
  rw [Try.params4] at hA hval
  obtain ⟨v0, v1, d0, d1, p0, p1, rfl, rfl, rfl, h0, h1⟩ := trodAll_two hA
  obtain ⟨rfl, rfl⟩ := trodVars_none hV
  have hv0 := hval 0 38 v0 rfl rfl
  obtain ⟨A1, A2, c1, c2, pl, hv, l1, l2, hrd⟩ := open_plan hv0 h0
  have h0k := h0
  have h1k := h1
  obtain ⟨x, hx1, _, _, _⟩ := open_int Try.underlying3 (hval 1 3 v1 rfl rfl) h1
  subst hv
  subst hx1
  clear hA0 hval0
  simp only [List.append_nil] at hW'
  refine (lawLiveAt A1 A2 c1 c2 pl x W l1 l2 hrd).mono fun e W' ⟨he, hb⟩ => ?_
  subst he
  have hlt : ∀ x ∈ p0 ++ p1, x.block < W.heap.size := fun x hx => by simpa using hW'.lt x hx
  refine ⟨_, rfl, _, _, _, [], p0 ++ p1, [], hW', trodAll_mk1 (shut_bool Try.underlying4 _), ?_, rfl, hb.frame _, fun h => by cases h⟩
  exact trodAll_mk2 (Below.trod laidOut (by kernel_rfl) (of_decide_eq_true (by kernel_rfl)) h0k hb fun x hx => hlt x (List.mem_append_left _ hx)) (Below.trod laidOut (by kernel_rfl) (of_decide_eq_true (by kernel_rfl)) h1k hb fun x hx => hlt x (List.mem_append_right _ hx))

theorem liveAt_holds : Rows.FnExactLiveAtSaid :=
  OpenClaim.holds_of_wide 4 Try.f4 rfl rfl rfl rfl rfl rfl rfl ⟨rfl, rfl, rfl, rfl, rfl⟩ rfl rfl rfl rfl rfl (by kernel_rfl) Try.func4 (by kernel_rfl)
    (of_decide_eq_true (by kernel_rfl)) (by unfold Func.isWrapper; rw [if_neg (of_decide_eq_false (by kernel_rfl))]; exact ⟨rfl, rfl⟩)
    (fun os started H enc _ => liveAt_lifted os started H enc)
end Go.Proofs.Ytbbjgcagkmlngab
