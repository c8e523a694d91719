/- The search through star chains, walked. -/
import Derived.Test.YtppahohakiidmaaHf
import Derived.Shelf.Abstract
import Derived.WalkMore
namespace Go.Proofs.Ytppahohakiidmaa
open Go.RowKit

theorem two13 {i L : Nat} (hL : L ≤ 12) (hi : i ≤ L + 1) : 2 ^ i ≤ 8192 := Nat.pow_le_pow_right (n := 2) (by decide) (show i ≤ 13 by omega)
theorem sum_bd {c : List Nat} {m e j : Nat} (h : ∀ i, i < m → 1 ≤ c.getD i 0 ∧ c.getD i 0 ≤ 2 ^ i) (he : e < m) (hj : j ≤ e) : 1 ≤ c.getD e 0 + c.getD j 0 ∧ c.getD e 0 + c.getD j 0 ≤ 2 ^ (e + 1) := by
  have h1 := h e he
  have h2 := h j (by omega)
  have h3 : 2 ^ j ≤ 2 ^ e := Nat.pow_le_pow_right (by decide) hj
  rw [Nat.pow_succ]
  omega

set_option maxRecDepth 100000 in
set_option maxHeartbeats 4000000 in
theorem run_any {σ : Type} (B L gf gm : Nat) (F : Nat → Nat → Bool) (lf lm : Array Value) (step : σ → List Nat → σ) (go : σ → Bool) (Inv : Nat → σ → (Nat → Prop) → World → Prop)
    (ef : ∀ args w, (callFunc gf args).run Try.prog w = .ok (.enter gf args) w) (em : ∀ args w, (callFunc gm args).run Try.prog w = .ok (.enter gm args) w)
    (H : Steps B F L gf gm lf lm step go Inv) (hL : L ≤ 12) (hF : ∀ n i, L < i → F n i = false) (w : World) (s0 : σ) (hB : B ≤ w.heap.size) (hI : Inv (pre F L [1]).length s0 (fun _ => False) w) :
    Calls Try.prog 60 #[.agg #[.func (.func gf) #[] lf, .func (.func gm) #[] lm]] w fun e w' => e = .returned (.tuple #[]) ∧ (∃ r, Inv r (if F 1 0 then runD step go s0 (pre F L [1]) else s0) (fun _ => False) w') ∧ Below B w w' := by
  have HS := Lib.hid H
  have HF := Lib.hid hF
  have HI := Lib.hid hI
  obtain ⟨S, hS⟩ : ∃ S, (if F 1 0 then runD step go s0 (pre F L [1]) else s0) = S := ⟨_, rfl⟩
  rw [hS]
  obtain ⟨v, hv⟩ : ∃ v, F 1 0 = v := ⟨_, rfl⟩
  rw [hv] at hS
  have HSV := Lib.hid hS
  have HV := Lib.hid hv
  clear H hF hI hS hv
  go_enter Try.func60, Try.ntmps60
  go_wp2
  generalize hw1 : World.alloc w _ = w1
  obtain ⟨b1, b2, bz, bb⟩ := box2 hw1
  clear hw1
  have BB := Lib.hid bb
  obtain ⟨gs, hgs⟩ : ∃ gs, w.heap.size = gs := ⟨_, rfl⟩
  rw [hgs] at b1 b2 bz ⊢
  have hI1 : Inv (pre F L [1]).length s0 (fun b => b = gs ∨ b = gs + 1 ∨ b = gs + 2) w1 := HS.out.frame _ _ _ _ _ _ HI.out (Frm.of_below bb) (fun b hb => .inr (by omega))
  have HI1 := Lib.hid hI1
  have BZ := Lib.hid bz
  have HG := Lib.hid hgs
  clear hI1 bb bz hgs
  go_step3
  go_wp2_with fail
  go_at_fn gf
  have hfit := HS.out.fits _ _ _ w1 1 0 HI1.out (Nat.le_refl _) (Nat.le_refl _) (by omega)
  rw [HV.out] at hfit
  refine hfit.mono ?_
  rintro e w2 ⟨rfl, ⟨k2, rfl⟩⟩
  clear hfit
  cases v with
  | false =>
    go_wp2
    rw [Exit.noGoto_ret]
    refine bodyPost_ret (v := .tuple #[]) (by simp [results, Try.results60, go_sem]) rfl ?_
    have e := HSV.out
    rw [if_neg (by simp)] at e
    subst e
    exact ⟨rfl, ⟨_, HS.out.frame _ _ _ _ _ _ HI1.out (Frm.of_below (bDrewN (Below.refl _ _) k2)) (fun b hb => absurd hb id)⟩, ((BB.out.mono hB).trans (bDrewN (Below.refl _ _) k2))⟩
  | true =>
    have hS := HSV.out
    rw [if_pos rfl] at hS
    obtain ⟨N, hN⟩ : ∃ N, (restTo F L [1] [0] 1).length = N := ⟨_, rfl⟩
    have hI2 : Inv (N + 1) s0 (fun b => b = gs ∨ b = gs + 1 ∨ b = gs + 2) w1 := by
      have := HI1.out
      rw [restTo_start, List.length_cons, hN] at this
      exact this
    rw [restTo_start] at hS
    have HN := Lib.hid hN
    have HSS := Lib.hid hS
    have HI2 := Lib.hid hI2
    clear hS hN hI2 HI1 HI HSV HV
    go_wp2
    go_step3
    generalize hw2 : World.alloc (World.alloc (w1.drewN k2) _) _ = w2
    have hbel2 : Below w1.heap.size w1 w2 := by
      subst hw2
      exact ((bDrewN (Below.refl _ w1) k2).alloc (by simp) _).alloc (by simp) _
    have hz := BZ.out
    have hRS : RS B w2 (.func (.func gf) #[] lf) (.func (.func gm) #[] lm) gs w1.heap.size (w1.heap.size + 1) 1 1 1 L [1] [0] := by
      have hc1 : OwI ((w1.drewN k2).alloc (.cells #[.int .i64 1] 3)) B (.slice (some ⟨w1.heap.size, 0, none⟩) 1 1) [1] := own_one (w := w1.drewN k2) 1 (by have := HG.out; simp; omega)
      have hc2 : OwI w2 B (.slice (some ⟨w1.heap.size + 1, 0, none⟩) 1 1) [0] := by
        have := own_one (w := (w1.drewN k2).alloc (.cells #[.int .i64 1] 3)) (B := B) 0 (by have := HG.out; simp; omega)
        rw [hw2] at this
        simpa using this
      have hc1' : OwI w2 B (.slice (some ⟨w1.heap.size, 0, none⟩) 1 1) [1] := by
        rw [← hw2]
        exact hc1.alloc _
      refine ⟨(hbel2.cell (p := ⟨gs, 0, none⟩) (by simp only []; omega)).trans b1, (hbel2.cell (p := ⟨gs, 1, none⟩) (by simp only []; omega)).trans b2, by have := hbel2.size; omega, hc1', hc2, rfl, rfl, Nat.le_refl _, by omega, by omega, by omega, by omega, ?_⟩
      intro i hi
      have : i = 0 := by omega
      subst this
      exact ⟨Nat.le_refl _, Nat.le_refl _⟩
    have hI3 : Inv (N + 1) s0 (fun b => b = gs ∨ b = w1.heap.size ∨ b = w1.heap.size + 1) w2 := HS.out.frame _ _ _ _ _ _ HI2.out (Frm.of_below hbel2) (fun b hb => by omega)
    have HI3 := Lib.hid hI3
    have HRS := Lib.hid hRS
    have BE2 := Lib.hid (show Below B w w2 from (BB.out.mono hB).trans (hbel2.mono (by have := HG.out; omega)))
    obtain ⟨gc0, hgc0⟩ : ∃ g, w1.heap.size = g := ⟨_, rfl⟩
    rw [hgc0] at HI3 HRS ⊢
    clear hI3 hRS hbel2 hz hw2 b1 b2 HI2 BB BZ hgc0
    go_wp2
    obtain ⟨gn0, hgn0⟩ : ∃ g, gc0 + 1 = g := ⟨_, rfl⟩
    rw [hgn0] at HI3 HRS ⊢
    clear hgn0
    go_loopg [2, 3] (N + 1) (fun gk v2 v3 wr => ∃ (s : σ) (c x : List Nat) (m gc gn cc cn r : Nat), v2 = .slice (some ⟨gc, 0, none⟩) m cc ∧ v3 = .slice (some ⟨gn, 0, none⟩) m cn ∧ r < gk ∧
      Aside (RS B wr (.func (.func gf) #[] lf) (.func (.func gm) #[] lm) gs gc gn cc cn m L c x ∧ Inv (r + 1) s (fun b => b = gs ∨ b = gc ∨ b = gn) wr ∧ runD step go s (c :: restTo F L c x m) = S ∧ (restTo F L c x m).length = r ∧ Below B w wr))
    case atStart => exact ⟨s0, [1], [0], 1, gc0, gn0, 1, 1, N, rfl, rfl, by omega, HRS.out, HI3.out, HSS.out, HN.out, BE2.out⟩
    case round =>
      obtain ⟨s, c, x, m, gc, gn, cc, cn, r, rfl, rfl, hr, A⟩ := hrel
      clear HRS HI3 HSS BE2
      have RSH := Lib.hid A.out.1
      have hm1 := A.out.1.m1
      have hmL := A.out.1.mL
      have s2 := A.out.1.s2
      have RUN := Lib.hid A.out.2.2.1
      have RL := Lib.hid A.out.2.2.2.1
      have BEL := Lib.hid A.out.2.2.2.2
      have hBw : B ≤ wr.heap.size := by have := A.out.2.2.2.2.size; omega
      have hmeet := HS.out.meet r s _ wr gc cc c m A.out.2.1 (.inr (.inl rfl)) (by rintro b (rfl | rfl | rfl); exact A.out.1.hs; exact (own_lt A.out.1.oc).2; exact (own_lt A.out.1.on).2) A.out.1.lc hm1 hmL A.out.1.bd hBw A.out.1.oc
      clear A
      obtain ⟨s', hs'⟩ : ∃ s', step s c = s' := ⟨_, rfl⟩
      obtain ⟨v, hv⟩ : ∃ v, go s' = v := ⟨_, rfl⟩
      rw [hs', hv] at hmeet
      have HS' := Lib.hid hs'
      have HV := Lib.hid hv
      clear hs' hv
      obtain ⟨X, hX⟩ : ∃ X : Nat → Prop, (fun b => b = gs ∨ b = gc ∨ b = gn) = X := ⟨_, rfl⟩
      have hXi : ∀ b, X b ↔ (b = gs ∨ b = gc ∨ b = gn) := by intro b; rw [← hX]
      rw [hX] at hmeet
      have HX := Lib.hid hXi
      clear hX hXi
      cases v with
      | false =>
        have HM := Lib.hid hmeet
        clear hmeet
        have E := Lib.hid (show s' = S by
          have h := RUN.out
          rw [runD_stop (by rw [HS'.out]; exact HV.out)] at h
          rw [← HS'.out]
          exact h)
        go_wp2_with (go_at_fn gm; refine HM.out.mono ?_; rintro e w3 ⟨rfl, hI', hB3, hz3, hk3⟩)
        rw [Exit.noGoto_normal]
        go_end0
        have e := E.out
        subst e
        exact ⟨rfl, ⟨_, HS.out.frame _ _ _ _ _ _ hI' (Frm.refl _ _) (fun b hb => absurd hb id)⟩, BEL.out.trans hB3⟩
      | true =>
      have HM := Lib.hid hmeet
      clear hmeet
      obtain ⟨R, hR⟩ : ∃ R, restTo F L c x m = R := ⟨_, rfl⟩
      have E := Lib.hid (show runD step go s' R = S by
          have h := RUN.out
          rw [runD_go (by rw [HS'.out]; exact HV.out), hR] at h
          rw [← HS'.out]
          exact h)
      have RL' := Lib.hid (show R.length = r by rw [← hR]; exact RL.out)
      have HR := Lib.hid hR
      clear hR RL RUN
      go_wp2_with (go_at_fn gm; refine HM.out.mono ?_; rintro e w3 ⟨rfl, hI', hB3, hz3, hk3⟩)
      have RS3 := Lib.hid (RSH.out.keep (fun b hb => hk3 b hb (by rcases hb with rfl | rfl | rfl; exact RSH.out.hs; exact (own_lt RSH.out.oc).2; exact (own_lt RSH.out.on).2)) hz3)
      have I3 := Lib.hid hI'
      have B3 := Lib.hid (BEL.out.trans hB3)
      clear hI' hB3 hz3 hk3 RSH BEL HM s2
      go_loopg [2, 3, 4] (m + 1) (fun gk v2 v3 v4 wq => ∃ (E : Nat) (x' : List Nat), v2 = .slice (some ⟨gc, 0, none⟩) m cc ∧ v3 = .slice (some ⟨gn, 0, none⟩) m cn ∧ E < gk ∧ E ≤ m ∧ ((E = 0 ∧ v4 = .int .i64 (-1)) ∨ (∃ e : Nat, E = e + 1 ∧ v4 = .int .i64 (e : Int))) ∧
        Aside (RS B wq (.func (.func gf) #[] lf) (.func (.func gm) #[] lm) gs gc gn cc cn m L c x' ∧ Inv r s' X wq ∧ restTo F L c x' E = R ∧ Below B w wq))
      case atStart => exact ⟨m, x, rfl, rfl, by omega, Nat.le_refl _, .inr ⟨m - 1, by omega, by rw [show ((m - 1 : Nat) : Int) = (m : Int) - 1 by omega]⟩, RS3.out, I3.out, HR.out, B3.out⟩
      case round =>
        obtain ⟨E', x', rfl, rfl, hE, hEm, hv4, A⟩ := hrel
        clear RS3 I3 B3 HR
        rcases hv4 with ⟨h0, rfl⟩ | ⟨e, he, rfl⟩
        · have e0 := A.out.2.2.1
          rw [h0] at e0
          have er : R = [] := e0.symm
          have e1 := E.out
          rw [er] at e1
          have e2 : s' = S := e1
          have A' := A
          have HE2 := Lib.hid e2
          clear e0 er e1 e2 h0 hE hEm
          go_wp2
          rw [Exit.noGoto_ret]
          refine bodyPost_ret (v := .tuple #[]) (by simp [results, Try.results60, go_sem]) rfl ?_
          have e2 := HE2.out
          subst e2
          exact ⟨rfl, ⟨_, HS.out.frame _ _ _ _ _ _ A'.out.2.1 (Frm.refl _ _) (fun b hb => absurd hb id)⟩, A'.out.2.2.2⟩
        · subst he
          have RSQ := Lib.hid A.out.1
          have IQ := Lib.hid A.out.2.1
          have RQ := Lib.hid A.out.2.2.1
          have BQ := Lib.hid A.out.2.2.2
          clear A
          have i0 : (0 : Int) ≤ (e : Int) := by omega
          go_wp2
          go_loopg [2, 3] (e + 3) (fun gz v2 v3 wi => ∃ (j : Nat) (y : List Nat), v2 = .slice (some ⟨gc, 0, none⟩) m cc ∧ v3 = .slice (some ⟨gn, 0, none⟩) m cn ∧ e + 2 ≤ gz + j ∧
            Aside (RS B wi (.func (.func gf) #[] lf) (.func (.func gm) #[] lm) gs gc gn cc cn m L c y ∧ Inv r s' X wi ∧ restTo F L c y (e + 1) = R ∧ y.getD e 0 = j ∧ Below B w wi))
          case atStart => exact ⟨x'.getD e 0, x', rfl, rfl, by omega, RSQ.out, IQ.out, RQ.out, rfl, BQ.out⟩
          case round =>
            obtain ⟨j, y, rfl, rfl, hgz, A⟩ := hrel
            clear RSQ IQ RQ BQ
            have RSH := Lib.hid A.out.1
            have IQ := Lib.hid A.out.2.1
            have RQ := Lib.hid A.out.2.2.1
            have BQ := Lib.hid A.out.2.2.2.2
            have HJ := Lib.hid A.out.2.2.2.1
            have cj := A.out.1.celln (i := e) (by omega)
            rw [A.out.2.2.2.1] at cj
            have cs1 := A.out.1.s1
            have ce := A.out.1.cellc (i := e) (by omega)
            have hsum := fun (h : j ≤ e) => sum_bd (c := c) (m := m) A.out.1.bd (show e < m by omega) h
            have hcj := fun (h : j < m) => A.out.1.cellc (i := j) h
            clear A
            obtain ⟨a, ha⟩ : ∃ a, c.getD e 0 = a := ⟨_, rfl⟩
            obtain ⟨b, hb⟩ : ∃ b, c.getD j 0 = b := ⟨_, rfl⟩
            rw [ha] at ce hsum
            rw [hb] at hcj hsum
            have HA := Lib.hid ha
            have HBb := Lib.hid hb
            clear ha hb
            have iem : (e : Int) < (m : Int) := by omega
            by_cases hje : j ≤ e
            · have ijm : (j : Int) < (m : Int) := by omega
              have ije : (j : Int) ≤ (e : Int) := by omega
              have cjc := hcj (by omega)
              obtain ⟨q1, q2⟩ := hsum hje
              have q3 := two13 (i := e + 1) hL (by omega)
              have hw1 : IntKind.i64.wrap ((a : Int) + (b : Int)) = (a : Int) + (b : Int) := IntWalk.i64_in _ (by omega)
              have hw2 : IntKind.i64.wrap ((j : Int) + 1) = (j : Int) + 1 := IntWalk.i64_in _ (by omega)
              have hw3 : IntKind.i64.wrap ((e : Int) + 1) = (e : Int) + 1 := IntWalk.i64_in _ (by omega)
              have fz := (RSH.out.store e (j + 1)).1
              have hRS1 := (RSH.out.store e (j + 1)).2
              rw [show ((j + 1 : Nat) : Int) = (j : Int) + 1 by omega] at hRS1
              have hI1 : Inv r s' (fun b => b = gs ∨ b = gc ∨ b = gn) (wr.setCell ⟨gn, e, none⟩ (.int .i64 ((j : Int) + 1))).drew :=
                HS.out.frame _ _ _ _ _ _ IQ.out ((Frm.set ((HX.out gn).2 (.inr (.inr rfl)))).trans (Frm.of_below ((Below.refl _ _).drew))) (fun b hb => .inl ((HX.out b).2 hb))
              have cs1' := hRS1.s1
              have hne : ¬ gn = gs := fun h => RSH.out.n2 h.symm
              have RS1 := Lib.hid hRS1
              have I1 := Lib.hid hI1
              have B1 := Lib.hid (show Below B w (wr.setCell ⟨gn, e, none⟩ (.int .i64 ((j : Int) + 1))).drew from (BQ.out.setCell (own_lt RSH.out.on).1 _).drew)
              have Q12 := Lib.hid (And.intro q1 q2)
              have hskip := restTo_skip (F := F) (L := L) (c := c) (x := y) (e := e) (j := j) (by rw [RSH.out.lc]; omega) (by rw [RSH.out.lx]; omega) HJ.out hje
              have htake := fun h => restTo_take (F := F) (L := L) (c := c) (x := y) (e := e) (j := j) (by rw [RSH.out.lc]; omega) (by rw [RSH.out.lx]; omega) h HJ.out hje
              rw [HA.out, HBb.out] at hskip htake
              have HSK := Lib.hid hskip
              have HTK := Lib.hid htake
              have hfit := HS.out.fits _ _ _ _ (a + b) (e + 1) I1.out q1 q2 (by omega)
              have e1 : ((a + b : Nat) : Int) = (a : Int) + (b : Int) := by omega
              have e2 : ((e + 1 : Nat) : Int) = (e : Int) + 1 := by omega
              rw [e1, e2] at hfit
              obtain ⟨v, hv⟩ : ∃ v, F (a + b) (e + 1) = v := ⟨_, rfl⟩
              rw [hv] at hfit
              have HV2 := Lib.hid hv
              clear hsum hcj q1 q2 q3 hRS1 hI1 hskip htake e1 e2 hv
              have HFIT := Lib.hid hfit
              clear hfit
              cases v with
              | false =>
                go_wp2
                refine wp_region_Tw [0, 1, 2, 3, 4, 5, 6, 7, 8, 9, 10, 11, 12] [3, 8, 10] (.lp 0 (.lp 1 (.lp 2 (.lp 4 (.lp 5 (.lp 6 (.lp 7 (.ls 3 (.ls 8 (.lp 9 (.ls 10 (.lp 11 (.lp 12 (.done)))))))))))))) (by kernel_rfl) (by kernel_rfl) ?_
                (repeat (first | (refine T_lp rfl (fun K hK => ?_); go_simp; refine hK _ ?_; clear hK K) | (refine T_ls rfl rfl (fun K hK => ?_); go_simp; refine hK _ ?_; clear hK K)))
                refine T_done ?_
                go_wp2_with (go_at_fn gf; refine HFIT.out.mono ?_; rintro e w5 ⟨rfl, hd5⟩)
                have D5 := hd5.below (wr.setCell ⟨gn, e, none⟩ (.int .i64 ((j : Int) + 1))).drew.heap.size
                go_roundg (gk - 1)
                case measure => omega
                case rel => exact ⟨j + 1, y.set e (j + 1), rfl, rfl, by omega, (RS1.out.below (Below.refl _ _).drew).below D5, HS.out.frame _ _ _ _ _ _ I1.out (Frm.of_below D5) (fun b hb => .inl ((HX.out b).1 hb)), by rw [← HSK.out HV2.out]; exact RQ.out, getD_set_eq (by rw [RSH.out.lx]; omega), B1.out.trans (D5.mono (by have := B1.out.size; omega))⟩
              | true =>
                have htk := HTK.out (by
                  rcases Nat.lt_or_ge L (e + 1) with h | h
                  · rw [HF.out _ _ h] at HV2
                    exact absurd HV2.out (by simp)
                  · exact h) HV2.out
                have heL : e + 1 ≤ L := by
                  rcases Nat.lt_or_ge L (e + 1) with h | h
                  · rw [HF.out _ _ h] at HV2
                    exact absurd HV2.out (by simp)
                  · exact h
                have hRr : R = (c.take (e + 1) ++ [a + b]) :: restTo F L (c.take (e + 1) ++ [a + b]) ((y.set e (j + 1)).take (e + 1) ++ [0]) (e + 2) := by rw [← RQ.out]; exact htk
                have HRr := Lib.hid hRr
                obtain ⟨t1, t2, t3, t4⟩ := RS1.out.tc (e := e) (by omega)
                have icc : (e : Int) + 1 ≤ (cc : Int) := by omega
                have icn : (e : Int) + 1 ≤ (cn : Int) := by omega
                have htn : ((e : Int) + 1).toNat = e + 1 := by omega
                have he0 : (0 : Int) ≤ (e : Int) + 1 := by omega
                have hmc : m ≤ 13 := by omega
                have T2 := Lib.hid t2
                have T2n := Lib.hid (show ((cs (y.set e (j + 1))).take (e + 1)).length = e + 1 by rw [List.length_take, cs_len, List.length_set, RSH.out.lx]; omega)
                have hBw1 := B1.out.size
                clear htk hRr t1 t2
                go_wp2
                refine wp_region_Tw [0, 1, 2, 3, 4, 5, 6, 7, 8, 9, 10, 11, 12] [3, 8, 10] (.lp 0 (.lp 1 (.lp 2 (.lp 4 (.lp 5 (.lp 6 (.lp 7 (.ls 3 (.ls 8 (.lp 9 (.ls 10 (.lp 11 (.lp 12 (.done)))))))))))))) (by kernel_rfl) (by kernel_rfl) ?_
                (repeat (first | (refine T_lp rfl (fun K hK => ?_); go_simp; refine hK _ ?_; clear hK K) | (refine T_ls rfl rfl (fun K hK => ?_); go_simp; refine hK _ ?_; clear hK K)))
                refine T_done ?_
                go_wp2_with (first
                  | (go_at_fn gf; refine HFIT.out.mono ?_; rintro e w5 ⟨rfl, hd5⟩; have D5 := hd5.below (wr.setCell ⟨gn, e, none⟩ (.int .i64 ((j : Int) + 1))).drew.heap.size; have RS5 := Lib.hid ((RS1.out.below (Below.refl _ _).drew).below D5); have hsz5 : B ≤ w5.heap.size := (by have := D5.size; have := hBw1; omega); have B5 := Lib.hid (B1.out.trans (D5.mono (by have := B1.out.size; omega))); have I5 := Lib.hid (HS.out.frame _ _ _ X _ _ I1.out (Frm.of_below D5) (fun b hb => .inl ((HX.out b).1 hb))); clear hd5 D5)
                  | (at_builtin; refine wpList_app_intH rfl (.tmp 56) (.tmp 58) rfl B (e + 1) _ ((cs c).take (e + 1)) rfl ((RS5.out.tc (by omega)).1.alloc _) T2.out w5.heap.size 1 ((a : Int) + (b : Int)) rfl (by rw [World.cell?_alloc_at _ _ _ _ rfl]; rfl) (by omega) (by simp; omega) ?_; intro g6 c6 w6 hown6 hg6 hbel6 hat6; have G6 := Lib.hid (RS5.out.grow (e := e) (s := a + b) (by omega) heL Q12.out.1 Q12.out.2 ((Below.refl _ _).alloc (Nat.le_refl _) _) (by rw [show ((a + b : Nat) : Int) = (a : Int) + (b : Int) by omega]; exact hown6) hg6 (hat_in hat6)); have B6 := Lib.hid ((B5.out.alloc hsz5 _).trans hbel6); have hsz6 : B ≤ w6.heap.size := (by have := hbel6.size; simp at this; omega); have F6 := Lib.hid (show Frm X w5 w6 from (Frm.of_below ((Below.refl _ _).alloc (Nat.le_refl _) _)).trans (Frm.of_grown hg6 ((HX.out gc).2 (.inr (.inl rfl))))); have A6 := Lib.hid (hat_in hat6); have L6 := Lib.hid (own_lt hown6); clear hown6 hg6 hbel6 hat6)
                  | (at_builtin; refine wpList_app_intH rfl (.tmp 63) (.tmp 64) rfl B (e + 1) _ ((cs (y.set e (j + 1))).take (e + 1)) rfl (OwI.alloc G6.out.1 _) T2n.out w6.heap.size 1 0 rfl (by rw [World.cell?_alloc_at _ _ _ _ rfl]; rfl) (by omega) (by simp; omega) ?_; intro g7 c7 w7 hown7 hg7 hbel7 hat7))
                have R7 := G6.out.2 _ w7 g7 c7 0 ((Below.refl _ _).alloc (Nat.le_refl _) _) hown7 hg7 (hat_in hat7)
                have h7 : gn = g7 ∨ w6.heap.size ≤ g7 := (hat_in hat7).imp id (fun h => by simp at h; omega)
                have h6 : gc = g6 ∨ w5.heap.size ≤ g6 := A6.out.imp id (fun h => by simp at h; omega)
                have l6 := L6.out
                have s67 := hg7.size
                have F7 : Frm X w6 w7 := (Frm.of_below ((Below.refl _ _).alloc (Nat.le_refl _) _)).trans (Frm.of_grown hg7 ((HX.out gn).2 (.inr (.inr rfl))))
                have hs5 := F6.out.size
                have hI7 : Inv r s' (fun b => b = gs ∨ b = g6 ∨ b = g7) w7 := HS.out.frame _ _ _ _ _ _ I5.out (F6.out.trans F7) (fun b hb => by
                  rw [HX.out b]
                  rcases hb with h | h | h
                  · exact .inl (.inl h)
                  · subst h
                    rcases h6 with h | h
                    · exact .inl (.inr (.inl h.symm))
                    · exact .inr (by omega)
                  · subst h
                    rcases h7 with h | h
                    · exact .inl (.inr (.inr h.symm))
                    · exact .inr (by omega))
                have hB7 : Below B w w7 := (B6.out.alloc hsz6 _).trans hbel7
                have e2 := E.out
                rw [HRr.out] at e2
                have hl2 := RL'.out
                rw [HRr.out, List.length_cons] at hl2
                obtain ⟨q, hq⟩ : ∃ q, (restTo F L (c.take (e + 1) ++ [a + b]) ((y.set e (j + 1)).take (e + 1) ++ [0]) (e + 2)).length = q := ⟨_, rfl⟩
                rw [hq] at hl2
                go_roundg r
                case measure => exact hr
                case rel =>
                  refine ⟨s', _, _, e + 2, g6, g7, c6, c7, q, rfl, rfl, by omega, R7, ?_, e2, hq, hB7⟩
                  rw [hl2]
                  exact hI7
            · have ije : ¬ (j : Int) ≤ (e : Int) := by omega
              clear hsum hcj cs1 ce
              go_wp2
              go_roundg (e + 1)
              case measure => omega
              case rel =>
                refine ⟨e, y, rfl, rfl, by omega, by omega, ?_, RSH.out, IQ.out, by rw [← restTo_done (by rw [HJ.out]; omega)]; exact RQ.out, BQ.out⟩
                cases e with
                | zero => exact .inl ⟨rfl, rfl⟩
                | succ e => exact .inr ⟨e, rfl, by go_num⟩
end Go.Proofs.Ytppahohakiidmaa
