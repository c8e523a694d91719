/- The law FnExactOutputExponents holds: for every argument, valid or not, OutputExponents of the program answers as OutputExponents of the model, writes into no argument, and its answer owns its memory. No condition. -/
import Derived.Test.YtppfpdobdoaoiaaOp
import Derived.Test.YtppfpdobdoaoiaaMl
import Derived.Test.YtppfpdobdoaoiaaOc
namespace Go.Proofs.Ytppfpdobdoaoiaa
open Go.ChangeShapes Go.WideShapes Go.ChangeAt Go.RowKit Go.Deep Go.Joins

set_option maxRecDepth 100000 in
set_option maxHeartbeats 4000000 in
theorem lawOutputExponents (A1 A2 : Option Addr) (c1 c2 : Nat) (p : Pl) (w : World) (hn1 : p.s.length ≤ 9223372036854775807) (hn2 : p.o.length ≤ 9223372036854775807) (hr : RdP w w.heap.size A1 A2 p) :
    Calls Try.prog 6 #[.agg #[.int .i64 p.n, .slice A1 p.s.length c1, .slice A2 p.o.length c2]] w fun e w' => e = .returned (.bool true) ∧ Below w.heap.size w w' := by
  have H := Lib.hid hr
  clear hr
  obtain ⟨q0, hq0⟩ : ∃ qx, szPl p 1048576 = qx := ⟨_, rfl⟩
  have hsz := fun W => szPlan_any A1 A2 c1 c2 p 1048576 W (by omega) (by omega) hn1 hn2
  rw [hq0] at hsz
  have HX := Lib.hid hq0
  have HSZ := Lib.hid hsz
  clear hq0 hsz
  by_cases hneg : q0 < 0
  · go_enter Try.func6, Try.ntmps6
    go_wp2_with fail
    go_at_call 21
    refine (HSZ.out _).mono ?_
    rintro e w2 ⟨rfl, hb2⟩
    go_wp2
    go_ret
    exact ⟨rfl, ((Below.refl _ _).alloc (Nat.le_refl _) _).trans (hb2.mono (by simp))⟩
  · obtain ⟨l1, l2⟩ := szPl_ok (p := p) (by rw [HX.out]; exact hneg)
    obtain ⟨N, hN⟩ : ∃ N, oN p = N := ⟨_, rfl⟩
    obtain ⟨R, hRR⟩ : ∃ R, oR p = R := ⟨_, rfl⟩
    have hNl : N ≤ 1000 := by rw [← hN]; exact oN_len p
    have hRl : R ≤ 1000 := by rw [← hRR]; exact oR_len p
    have hNR0 : (0 : Int) ≤ (R : Int) * (N : Int) := by
      have h2 : ((R * N : Nat) : Int) = (R : Int) * (N : Int) := by push_cast; rfl
      rw [← h2]
      omega
    obtain ⟨gd, hgd⟩ : ∃ gx, good p = gx := ⟨_, rfl⟩
    have hspec := fun W A A' d d' => specOut_any (World.heap W).size A A' d d' p W (Nat.le_refl _) (by omega) (by omega)
    have himpl := fun W A A' d d' => implOut_any (World.heap W).size A A' d d' p W (Nat.le_refl _) (by omega) (by omega)
    simp only [hN, hRR, hgd] at hspec himpl
    obtain ⟨rw', hrw'⟩ : ∃ r, pw p N = r := ⟨_, rfl⟩
    simp only [hrw'] at hspec himpl
    have HSPEC := Lib.hid hspec
    have HIMPL := Lib.hid himpl
    clear hN hRR hrw' hgd hspec himpl
    go_enter Try.func6, Try.ntmps6
    go_wp2_with fail
    go_at_call 21
    generalize hw1 : World.alloc w _ = w1
    obtain ⟨x0, x1, x2, xs, xb⟩ := box3 hw1
    clear hw1
    refine (HSZ.out _).mono ?_
    rintro e w2 ⟨rfl, hb2⟩
    have hs2 : w.heap.size + 1 ≤ w2.heap.size := by have := hb2.size; omega
    have y0 := (hb2.cell (p := ⟨w.heap.size, 0, none⟩) (by simp only []; omega)).trans x0
    have y1 := (hb2.cell (p := ⟨w.heap.size, 1, none⟩) (by simp only []; omega)).trans x1
    have y2 := (hb2.cell (p := ⟨w.heap.size, 2, none⟩) (by simp only []; omega)).trans x2
    have hbw := xb.trans (hb2.mono (show w.heap.size ≤ w1.heap.size by omega))
    have HB2 := Lib.hid hbw
    clear x0 x1 x2 xs xb hb2 hbw
    go_wp2_with fail
    go_at_call 23
    refine (toPlan_any w.heap.size A1 A2 c1 c2 p w2 l1 l2 (by omega) (H.out.below HB2.out)).mono ?_
    rintro e w3 ⟨B1, B2, d1, d2, rfl, hown3, hb3⟩
    go_wp2_with fail
    go_at_call 32
    refine (HSPEC.out w3 B1 B2 d1 d2 hown3.rd).mono ?_
    rintro e w4 ⟨A0, c0, f0, rfl, hres4, hb4⟩
    have hb24 := hb3.trans (hb4.mono hb3.size)
    have hs4 : w.heap.size + 1 ≤ w4.heap.size := by have := hb24.size; omega
    have z0 := (hb24.cell (p := ⟨w.heap.size, 0, none⟩) (by simp only []; omega)).trans y0
    have z1 := (hb24.cell (p := ⟨w.heap.size, 1, none⟩) (by simp only []; omega)).trans y1
    have z2 := (hb24.cell (p := ⟨w.heap.size, 2, none⟩) (by simp only []; omega)).trans y2
    have HB4 := Lib.hid (HB2.out.trans (hb24.mono (by omega)))
    have RES := Lib.hid hres4
    clear y0 y1 y2 hb3 hb4 hb24 hown3 hs2 hres4
    go_wp2_with fail
    go_at_call 23
    refine (toPlan_any w.heap.size A1 A2 c1 c2 p w4 l1 l2 (by omega) (H.out.below HB4.out)).mono ?_
    rintro e w5 ⟨C1, C2, e1, e2, rfl, hown5, hb5⟩
    have hs5 : w4.heap.size ≤ w5.heap.size := hb5.size
    go_wp2_with fail
    go_at_call 20
    generalize hw6 : World.alloc w5 _ = w6
    obtain ⟨k0, k1, k2, ks, kb⟩ := box3 hw6
    clear hw6
    have hown6 := hown5.below kb
    refine (HIMPL.out w6 C1 C2 e1 e2 hown6.rd).mono ?_
    rintro e w7 ⟨AG, cg, fg, rfl, hres7, hfar7, hb7⟩
    have hb47 : Below w4.heap.size w4 w7 := (hb5.trans (kb.mono hs5)).trans (hb7.mono (by omega))
    have hs7 : w6.heap.size ≤ w7.heap.size := hb7.size
    have m0 := (hb47.cell (p := ⟨w.heap.size, 0, none⟩) (by simp only []; omega)).trans z0
    have m1 := (hb47.cell (p := ⟨w.heap.size, 1, none⟩) (by simp only []; omega)).trans z1
    have m2 := (hb47.cell (p := ⟨w.heap.size, 2, none⟩) (by simp only []; omega)).trans z2
    have n0 := (hb7.cell (p := ⟨w5.heap.size, 0, none⟩) (by simp only []; omega)).trans k0
    have n1 := (hb7.cell (p := ⟨w5.heap.size, 1, none⟩) (by simp only []; omega)).trans k1
    have n2 := (hb7.cell (p := ⟨w5.heap.size, 2, none⟩) (by simp only []; omega)).trans k2
    have HO6 := Lib.hid hown6
    have HO7 := Lib.hid (hown6.below hb7)
    have HG7 := Lib.hid hres7
    have HB47 := Lib.hid hb47
    have HB7 := Lib.hid (HB4.out.trans (hb47.mono (by omega)))
    clear z0 z1 z2 k0 k1 k2 kb hb5 hb7 hb47 hown5 hown6 hres7
    go_wp2_with fail
    go_at_call 33
    have hE := eqIntSS_any _ _ AG A0 cg c0 N R fg f0 rw' w7 hNl hRl HG7.out (RES.out.below HB47.out)
    refine hE.mono ?_
    rintro e w8 ⟨rfl, ⟨nd, rfl⟩⟩
    clear hE
    go_wp2
    have HSH := Lib.hid (show (fun x : World => x.cell? ⟨w.heap.size, 0, none⟩ = some (.int .i64 p.n) ∧ x.cell? ⟨w.heap.size, 1, none⟩ = some (.slice A1 p.s.length c1) ∧ x.cell? ⟨w.heap.size, 2, none⟩ = some (.slice A2 p.o.length c2) ∧
        x.cell? ⟨w5.heap.size, 0, none⟩ = some (.int .i64 p.n) ∧ x.cell? ⟨w5.heap.size, 1, none⟩ = some (.slice C1 p.s.length e1) ∧ x.cell? ⟨w5.heap.size, 2, none⟩ = some (.slice C2 p.o.length e2)) (w7.drewN nd).drew from ⟨m0, m1, m2, n0, n1, n2⟩)
    clear m0 m1 m2 n0 n1 n2
    refine wp_region_T (fun x : World => x.cell? ⟨w.heap.size, 0, none⟩ = some (.int .i64 p.n) ∧ x.cell? ⟨w.heap.size, 1, none⟩ = some (.slice A1 p.s.length c1) ∧ x.cell? ⟨w.heap.size, 2, none⟩ = some (.slice A2 p.o.length c2) ∧
        x.cell? ⟨w5.heap.size, 0, none⟩ = some (.int .i64 p.n) ∧ x.cell? ⟨w5.heap.size, 1, none⟩ = some (.slice C1 p.s.length e1) ∧ x.cell? ⟨w5.heap.size, 2, none⟩ = some (.slice C2 p.o.length e2)) [0, 1, 4] [0, 1] (.ls 0 (.ls 1 (.hv 2 (.hv 3 (.lp 4 (.done)))))) (by kernel_rfl) (by kernel_rfl) ?_
    refine T_ls1 (v := .agg #[.int .i64 p.n, .slice C1 p.s.length e1, .slice C2 p.o.length e2]) rfl rfl HSH.out (fun x hx => (by obtain ⟨h1, h2, h3, h4, h5, h6⟩ := hx; go_simp)) (fun K hK => ?_)
    (go_simp; refine hK _ ?_; clear hK K)
    refine T_ls1 (v := .agg #[.int .i64 p.n, .slice A1 p.s.length c1, .slice A2 p.o.length c2]) rfl rfl HSH.out (fun x hx => (by obtain ⟨h1, h2, h3, h4, h5, h6⟩ := hx; go_simp)) (fun K hK => ?_)
    (go_simp; refine hK _ ?_; clear hK K)
    refine T_hvS rfl (fun K hK => ?_)
    go_simp
    go_at_call 23
    refine (toPlan_any w.heap.size A1 A2 c1 c2 p (w7.drewN nd).drew l1 l2 (by simp; omega) ((H.out.below HB7.out).drewN nd).drew).mono ?_
    rintro e w8 ⟨D1, D2, f1, f2, rfl, hown8, hb8⟩
    have hb8' : Below w7.heap.size w7 w8 := ((bDrewN (Below.refl _ w7) nd).drew).trans (hb8.mono (by simp))
    have hs8 := hb8'.size
    have HS8H := Lib.hid (show (fun x : World => x.cell? ⟨w.heap.size, 0, none⟩ = some (.int .i64 p.n) ∧ x.cell? ⟨w.heap.size, 1, none⟩ = some (.slice A1 p.s.length c1) ∧ x.cell? ⟨w.heap.size, 2, none⟩ = some (.slice A2 p.o.length c2) ∧
        x.cell? ⟨w5.heap.size, 0, none⟩ = some (.int .i64 p.n) ∧ x.cell? ⟨w5.heap.size, 1, none⟩ = some (.slice C1 p.s.length e1) ∧ x.cell? ⟨w5.heap.size, 2, none⟩ = some (.slice C2 p.o.length e2)) w8 from
      ⟨(hb8.cell (p := ⟨w.heap.size, 0, none⟩) (by simp; omega)).trans HSH.out.1, (hb8.cell (p := ⟨w.heap.size, 1, none⟩) (by simp; omega)).trans HSH.out.2.1, (hb8.cell (p := ⟨w.heap.size, 2, none⟩) (by simp; omega)).trans HSH.out.2.2.1,
      (hb8.cell (p := ⟨w5.heap.size, 0, none⟩) (by simp; omega)).trans HSH.out.2.2.2.1, (hb8.cell (p := ⟨w5.heap.size, 1, none⟩) (by simp; omega)).trans HSH.out.2.2.2.2.1, (hb8.cell (p := ⟨w5.heap.size, 2, none⟩) (by simp; omega)).trans HSH.out.2.2.2.2.2⟩)
    have HO8 := Lib.hid hown8
    have HO78 := Lib.hid (HO7.out.below hb8')
    have HB78 := Lib.hid hb8'
    clear hown8 hb8 hb8'
    go_simp
    refine hK _ _ HS8H.out ?_
    clear hK K
    (refine T_hv rfl (by kernel_rfl) (fun K hK => ?_); go_simp)
    go_at_call 25
    have hE := eqPlan_any w8.heap.size w8.heap.size C1 C2 D1 D2 e1 e2 f1 f2 p p w8 (by omega) (by omega) (by omega) (by omega) (Nat.le_refl _) (Nat.le_refl _) HO78.out.rd HO8.out.rd
    rw [eqP_refl] at hE
    refine hE.mono ?_
    rintro e w9 ⟨rfl, hb9⟩
    clear hE
    have hb79 := HB78.out.trans (hb9.mono hs8)
    have hs9 := hb79.size
    have r0 := (hb9.cell (p := ⟨w.heap.size, 0, none⟩) (by simp only []; omega)).trans HS8H.out.1
    have r1 := (hb9.cell (p := ⟨w.heap.size, 1, none⟩) (by simp only []; omega)).trans HS8H.out.2.1
    have r2 := (hb9.cell (p := ⟨w.heap.size, 2, none⟩) (by simp only []; omega)).trans HS8H.out.2.2.1
    have r3 := (hb9.cell (p := ⟨w5.heap.size, 0, none⟩) (by simp only []; omega)).trans HS8H.out.2.2.2.1
    have r4 := (hb9.cell (p := ⟨w5.heap.size, 1, none⟩) (by simp only []; omega)).trans HS8H.out.2.2.2.2.1
    have r5 := (hb9.cell (p := ⟨w5.heap.size, 2, none⟩) (by simp only []; omega)).trans HS8H.out.2.2.2.2.2
    have HO9 := Lib.hid (HO7.out.below hb79)
    have HG9 := Lib.hid (HG7.out.below hb79)
    have HB49 := Lib.hid (HB47.out.trans (hb79.mono (by omega)))
    clear hb9 hb79
    (go_simp; refine hK _ _ ?_; clear hK K)
    (repeat (first | (refine T_lp rfl (fun K hK => ?_); go_simp; refine hK _ ?_; clear hK K) | (refine T_ls rfl rfl (fun K hK => ?_); go_simp; refine hK _ ?_; clear hK K)))
    refine T_done ?_
    go_wp2_with fail
    go_at_call 29
    have hwin := markPlan_any w4.heap.size w6.heap.size C1 C2 e1 e2 p 1 w9 l1 l2 (by omega) (by omega) (by omega) (by omega) HO9.out (fun k hk => (own_block HO6.out.1 k hk).2) (fun k hk => (own_block HO6.out.2 k hk).2)
    refine hwin.mono ?_
    rintro e w10 ⟨rfl, _, _, hwn⟩
    clear hwin
    have hk0 : ¬ (1 + 2 * (p.s.length : Int) + (p.o.length : Int) < 0) := by omega
    have t0 := (hwn.1.cell (p := ⟨w.heap.size, 0, none⟩) (by simp only []; omega)).trans r0
    have t1 := (hwn.1.cell (p := ⟨w.heap.size, 1, none⟩) (by simp only []; omega)).trans r1
    have t2 := (hwn.1.cell (p := ⟨w.heap.size, 2, none⟩) (by simp only []; omega)).trans r2
    have HG10 := Lib.hid (OwL.win hwn HG9.out (Nat.le_refl _))
    have HB410 := Lib.hid (HB49.out.trans hwn.1)
    have hs10 := hwn.1.size
    clear r0 r1 r2 r3 r4 r5 hwn
    go_wp2_with fail
    go_at_call 33
    have hE := eqIntSS_any _ _ AG A0 cg c0 N R fg f0 rw' w10 hNl hRl HG10.out (RES.out.below HB410.out)
    refine hE.mono ?_
    rintro e w11 ⟨rfl, ⟨ne, rfl⟩⟩
    clear hE
    go_wp2_with fail
    go_at_call 34
    refine (markIntSS_any w6.heap.size AG cg N R fg rw' 1 (w10.drewN ne) hNl hRl (by omega) (by omega) (by simp; omega) hfar7 (OwL.drewN HG10.out ne)).mono ?_
    rintro e w12 ⟨rfl, hm12, hb12'⟩
    have hb12 : Below w6.heap.size w10 w12 := (bDrewN (Below.refl _ w10) ne).trans hb12'
    have hs12 := hb12.size
    have u0 := (hb12.cell (p := ⟨w.heap.size, 0, none⟩) (by simp only []; omega)).trans t0
    have u1 := (hb12.cell (p := ⟨w.heap.size, 1, none⟩) (by simp only []; omega)).trans t1
    have u2 := (hb12.cell (p := ⟨w.heap.size, 2, none⟩) (by simp only []; omega)).trans t2
    have HM12 := Lib.hid hm12
    have HB412 := Lib.hid (HB410.out.trans (hb12.mono (by omega)))
    have hk1 : ¬ (1 + (R : Int) * (N : Int) < 0) := by omega
    clear t0 t1 t2 hm12 hb12' hb12
    go_wp2_with fail
    go_at_call 35
    refine (heldIntSS_any _ AG cg N R fg rw' 1 w12 hNl hRl (by omega) (by omega) HM12.out).mono ?_
    rintro e w13 ⟨rfl, rfl⟩
    go_wp2_with fail
    go_at_call 23
    refine (toPlan_any w.heap.size A1 A2 c1 c2 p w12 l1 l2 (by omega) (H.out.below (HB4.out.trans (HB412.out.mono (by omega))))).mono ?_
    rintro e w14 ⟨D3, D4, f3, f4, rfl, hown14, hb14⟩
    go_wp2_with fail
    go_at_call 20
    refine (HIMPL.out w14 D3 D4 f3 f4 hown14.rd).mono ?_
    rintro e w15 ⟨AH, ch, fh, rfl, hres15, _, hb15⟩
    have hb1215 : Below w12.heap.size w12 w15 := hb14.trans (hb15.mono hb14.size)
    have HB1215 := Lib.hid hb1215
    have HH15 := Lib.hid hres15
    clear hown14 hb14 hb15 hb1215 hres15
    go_wp2_with fail
    go_at_call 33
    have hE := eqIntSS_any _ _ AH A0 ch c0 N R fh f0 rw' w15 hNl hRl HH15.out (RES.out.below (HB412.out.trans (HB1215.out.mono (by omega))))
    refine hE.mono ?_
    rintro e w16 ⟨rfl, ⟨nf, rfl⟩⟩
    clear hE
    go_wp2_with fail
    go_at_call 35
    refine (heldIntSS_any _ AG cg N R fg rw' 1 (w15.drewN nf) hNl hRl (by omega) (by omega) ((HM12.out.below HB1215.out).drewN nf)).mono ?_
    rintro e w17 ⟨rfl, rfl⟩
    go_wp2
    go_ret
    exact ⟨rfl, bDrewN ((HB4.out.trans (HB412.out.mono (by omega))).trans (HB1215.out.mono (by omega))) nf⟩

set_option maxRecDepth 100000 in
theorem outputExponents_lifted (os : Os) (started : os.Started) (H : Type) (enc : TypeId × Value → H) :
    ReturnsInHanded {} Try.checked os 6 .any (Rows.fnExactOutputExponentsSpec.pre6 enc Try.prog Try.f6 Rows.fnExactOutputExponentsRow.domain false) (Rows.fnExactOutputExponentsSpec.post enc Try.prog Try.f6 false true false false) := by
  refine returnsInHanded_of_change (C := Try.checked) own started (by kernel_rfl) Try.func6
    (ChangeSpec.witness6 (enc := enc) (C := Try.checked) false ⟨#[], #[.agg #[.int .i64 0, .slice none 0 0, .slice none 0 0]], []⟩ 8 (by kernel_rfl) (by kernel_rfl) (by kernel_rfl) (by kernel_rfl)) ?_
  intro W base args ds gs before hval0 hW _ _
  have hval : ∀ (j : Nat) t v, Try.f6.params[j]? = some t → args[j]? = some v → Value.okWide Try.prog W .any base t v := hval0
  have hW' := hW
  obtain ⟨p, q, hA0, hV, rfl, hfz, hnd⟩ := hW
  have hA : DataW.TrodAll enc Try.prog W 0 (fun _ => true) true Try.f6.params.toList args.toList ds p := hA0
  rw [Try.params6] at hA hval
  obtain ⟨v0, d0, rfl, rfl, h0⟩ := trodAll_one hA
  obtain ⟨rfl, rfl⟩ := trodVars_none hV
  have hv0 := hval 0 38 v0 rfl rfl
  obtain ⟨A1, A2, c1, c2, pl, hv, l1, l2, hrd⟩ := open_plan hv0 h0
  have h0k := h0
  subst hv
  clear hA0 hval0
  simp only [List.append_nil] at hW'
  refine (lawOutputExponents A1 A2 c1 c2 pl W l1 l2 hrd).mono fun e W' ⟨he, hb⟩ => ?_
  subst he
  have hlt : ∀ x ∈ p, x.block < W.heap.size := fun x hx => by simpa using hW'.lt x hx
  refine ⟨_, rfl, _, _, _, [], p, [], hW', trodAll_mk1 (shut_bool Try.underlying4 _), ?_, rfl, hb.frame _, fun h => by cases h⟩
  exact trodAll_mk1 (Below.trod laidOut (by kernel_rfl) (of_decide_eq_true (by kernel_rfl)) h0k hb hlt)

theorem outputExponents_holds : Rows.FnExactOutputExponentsSaid :=
  OpenClaim.holds_of_wide 6 Try.f6 rfl rfl rfl rfl rfl rfl rfl ⟨rfl, rfl, rfl, rfl, rfl⟩ rfl rfl rfl rfl rfl (by kernel_rfl) Try.func6 (by kernel_rfl)
    (of_decide_eq_true (by kernel_rfl)) (by unfold Func.isWrapper; rw [if_neg (of_decide_eq_false (by kernel_rfl))]; exact ⟨rfl, rfl⟩)
    (fun os started H enc _ => outputExponents_lifted os started H enc)
end Go.Proofs.Ytppfpdobdoaoiaa
