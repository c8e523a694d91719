/- Plans run on integers, by the program, for one kind of products. -/
import Derived.Test.YtbbfbccemonihabMpb
namespace Go.Proofs.Ytbbfbccemonihab
open Go.RowKit

set_option maxRecDepth 100000 in
set_option maxHeartbeats 8000000 in
theorem runW_any (B : Nat) (A0 B0 : Option Addr) (c0 d0 : Nat) (p : Pl) (A2 : Option Addr) (c2 : Nat) (l : List Int) (w : World) (hB : B ≤ w.heap.size) (hs : p.s.length ≤ 1048576) (ho : p.o.length ≤ 1048576) (hl : l.length ≤ 1048576)
    (hr : RdP w B A0 B0 p) (hrl : Rd w B 1 A2 l.length (l.map I)) :
    Calls Try.prog 88 #[.agg #[.int .i64 p.n, .slice A0 p.s.length c0, .slice B0 p.o.length d0], .iface 100 (.agg #[]), .slice A2 l.length c2] w fun e w' =>
      ∃ A' c', e = .returned (.tuple #[.slice A' (runV (hasW) (addW) p l).length c', .bool (runB (hasW) (addW) p l)]) ∧ OwI w' w.heap.size (.slice A' (runV (hasW) (addW) p l).length c') (runV (hasW) (addW) p l) ∧ Below w.heap.size w w' := by
  have H := Lib.hid hr
  have HL := Lib.hid hrl
  have PG := Lib.hid (fun W hB hr => implIsPlan_any B A0 B0 c0 d0 p W hB (by omega) (by omega) hr)
  have HA := Lib.hid (fun W hB hr => hasAllW_any B A2 c2 l W (by omega) hB hr)
  have MC := Lib.hid (fun a b W ha hb => addW_any a b W ha hb)
  have HC := Lib.hid (fun a W => lenHas_any a W)
  have RB := Lib.hid (fun h => run_bad (has := hasW) (mul := addW) (p := p) (l := l) h)
  have RD := Lib.hid (show runB (hasW) (addW) p l = (good p && (decide ((l.length : Int) = p.n) && (l.all (hasW) && (runG (hasW) (addW) 0 l p.s).isSome))) from rfl)
  have RV := Lib.hid (fun V h1 h2 => run_val (has := hasW) (mul := addW) (p := p) (l := l) (V := V) h1 h2)
  clear hr hrl
  obtain ⟨rv, hrv⟩ : ∃ x, runV (hasW) (addW) p l = x := ⟨_, rfl⟩
  obtain ⟨rb, hrb⟩ : ∃ x, runB (hasW) (addW) p l = x := ⟨_, rfl⟩
  rw [hrv, hrb] at RV
  rw [hrv, hrb] at RB
  rw [hrb] at RD
  rw [hrv, hrb]
  clear hrv hrb
  cases h1 : good p with
  | false =>
    have eb : rb = false := by rw [RD.out, h1]; rfl
    have EV := Lib.hid (RB.out eb)
    rw [eb]
    rw [h1] at PG
    clear h1 eb
    go_enter Try.func88, Try.ntmps88
    go_wp2_with fail
    go_at_call 148
    generalize hw1 : World.alloc w _ = w1
    obtain ⟨x0, x1, x2, xs, xb⟩ := box3 hw1
    clear hw1
    refine (PG.out w1 (by omega) (H.out.below' xb hB)).mono ?_
    rintro e w2 ⟨rfl, hb2⟩
    have y0 := (hb2.cell (p := ⟨w.heap.size, 0, none⟩) (by simp only []; omega)).trans x0
    have HB := Lib.hid (xb.trans (hb2.mono (by omega)))
    have hs2 : w1.heap.size ≤ w2.heap.size := hb2.size
    have hB2 : B ≤ w2.heap.size := by omega
    clear hb2 xb x0 x1 x2
    go_wp2
    go_ret2
    exact ⟨none, 0, by rw [EV.out]; rfl, by rw [EV.out]; exact OwI.nil _ _, HB.out⟩
  | true =>
  rw [h1] at PG
  obtain ⟨N, hN, n1, n6, s40, o6, hok, hout, _⟩ := good_facts h1
  by_cases h2 : l.length = N
  case neg =>
    have eb : rb = false := by rw [RD.out, h1, decide_eq_false (show ¬ (l.length : Int) = p.n by omega)]; rfl
    have EV := Lib.hid (RB.out eb)
    rw [eb]
    rw [hN] at PG
    rw [hN]
    have i2 : ¬ (l.length : Int) = (N : Int) := by omega
    clear h1 h2 eb hout hok hN
    go_enter Try.func88, Try.ntmps88
    go_wp2_with fail
    go_at_call 148
    generalize hw1 : World.alloc w _ = w1
    obtain ⟨x0, x1, x2, xs, xb⟩ := box3 hw1
    clear hw1
    refine (PG.out w1 (by omega) (H.out.below' xb hB)).mono ?_
    rintro e w2 ⟨rfl, hb2⟩
    have y0 := (hb2.cell (p := ⟨w.heap.size, 0, none⟩) (by simp only []; omega)).trans x0
    have HB := Lib.hid (xb.trans (hb2.mono (by omega)))
    have hs2 : w1.heap.size ≤ w2.heap.size := hb2.size
    have hB2 : B ≤ w2.heap.size := by omega
    clear hb2 xb x0 x1 x2
    go_wp2
    go_ret2
    exact ⟨none, 0, by rw [EV.out]; rfl, by rw [EV.out]; exact OwI.nil _ _, HB.out⟩
  have RD2 := Lib.hid (show rb = (l.all (hasW) && (runG (hasW) (addW) 0 l p.s).isSome) by rw [RD.out, h1, decide_eq_true (show (l.length : Int) = p.n by omega)]; rfl)
  rw [hN] at PG
  rw [hN]
  have LN := Lib.hid h2
  rw [h2] at HA HL
  rw [h2]
  cases h3 : l.all (hasW) with
  | false =>
    have eb : rb = false := by rw [RD2.out, h3]; rfl
    have EV := Lib.hid (RB.out eb)
    rw [eb]
    rw [h3] at HA
    clear h1 h2 h3 eb hout hok hN
    go_enter Try.func88, Try.ntmps88
    go_wp2_with fail
    go_at_call 148
    generalize hw1 : World.alloc w _ = w1
    obtain ⟨x0, x1, x2, xs, xb⟩ := box3 hw1
    clear hw1
    refine (PG.out w1 (by omega) (H.out.below' xb hB)).mono ?_
    rintro e w2 ⟨rfl, hb2⟩
    have y0 := (hb2.cell (p := ⟨w.heap.size, 0, none⟩) (by simp only []; omega)).trans x0
    have HB := Lib.hid (xb.trans (hb2.mono (by omega)))
    have hs2 : w1.heap.size ≤ w2.heap.size := hb2.size
    have hB2 : B ≤ w2.heap.size := by omega
    clear hb2 xb x0 x1 x2
    go_wp2_with fail
    go_at_call 112
    refine (HA.out w2 hB2 (HL.out.below' HB.out hB)).mono ?_
    rintro e w3 ⟨rfl, hb3⟩
    have HB := Lib.hid (HB.out.trans (hb3.mono (by omega)))
    clear hb3 y0
    go_wp2
    go_ret2
    exact ⟨none, 0, by rw [EV.out]; rfl, by rw [EV.out]; exact OwI.nil _ _, HB.out⟩
  | true =>
    have RD3 := Lib.hid (show rb = (runG (hasW) (addW) 0 l p.s).isSome by rw [RD2.out, h3]; rfl)
    have HV := Lib.hid (List.all_eq_true.1 h3)
    rw [h3] at HA
    have CL := Lib.hid (fun W hB hr => cloneI_any B A2 c2 l W (by omega) (by omega) hB hr)
    rw [h2] at CL
    have HO := Lib.hid hok
    have OUT := Lib.hid hout
    obtain ⟨R, hR⟩ : ∃ R, runG (hasW) (addW) 0 l p.s = R := ⟨_, rfl⟩
    have HR := Lib.hid hR
    rw [hR] at RD3 RV
    clear h1 h2 h3 hout hok hN hR
    go_enter Try.func88, Try.ntmps88
    go_wp2_with fail
    go_at_call 148
    generalize hw1 : World.alloc w _ = w1
    obtain ⟨x0, x1, x2, xs, xb⟩ := box3 hw1
    clear hw1
    refine (PG.out w1 (by omega) (H.out.below' xb hB)).mono ?_
    rintro e w2 ⟨rfl, hb2⟩
    have y0 := (hb2.cell (p := ⟨w.heap.size, 0, none⟩) (by simp only []; omega)).trans x0
    have FS := Lib.hid (show ∀ x, Below w1.heap.size w1 x → x.cell? ⟨w.heap.size, 1, none⟩ = some (.slice A0 p.s.length c0) ∧ x.cell? ⟨w.heap.size, 2, none⟩ = some (.slice B0 p.o.length d0) from fun x hx =>
      ⟨(hx.cell (p := ⟨w.heap.size, 1, none⟩) (by simp only []; omega)).trans x1, (hx.cell (p := ⟨w.heap.size, 2, none⟩) (by simp only []; omega)).trans x2⟩)
    have X1 := Lib.hid xs
    have B12 := Lib.hid hb2
    have XB := Lib.hid xb
    have HB := Lib.hid (xb.trans (hb2.mono (by omega)))
    have hs2 : w1.heap.size ≤ w2.heap.size := hb2.size
    have hB2 : B ≤ w2.heap.size := by omega
    clear hb2 xb x0 x1 x2 xs
    go_wp2_with fail
    go_at_call 112
    refine (HA.out w2 hB2 (HL.out.below' HB.out hB)).mono ?_
    rintro e w3 ⟨rfl, hb3⟩
    have B13 := Lib.hid (B12.out.trans (hb3.mono hs2))
    have HB3 := Lib.hid (HB.out.trans (hb3.mono (by have := X1.out; omega)))
    have hs3 : w1.heap.size ≤ w3.heap.size := B13.out.size
    clear hb3 y0
    go_wp2_with fail
    go_at_call 144
    refine (CL.out w3 (by have := X1.out; omega) (HL.out.below' HB3.out hB)).mono ?_
    rintro e w4 ⟨A4, c4, rfl, ho4, hb4⟩
    have B14 := Lib.hid (B13.out.trans (hb4.mono hs3))
    have O4 := Lib.hid (ho4.base (show w.heap.size + 1 ≤ w3.heap.size by have := X1.out; omega))
    clear hb4 ho4
    have z1 := (FS.out w4 B14.out).1
    go_wp2
    go_loopw [8, 36] (fun ov iv wr => ∃ (j : Nat) (A : Option Addr) (c : Nat) (vs : List Int), j ≤ p.s.length ∧ iv = .int .i64 (j : Int) ∧ ov = .slice A vs.length c ∧ vs.length = N + j ∧ Hid (∀ x ∈ vs, hasW x = true) ∧ Hid (runG (hasW) (addW) 0 vs (p.s.drop j) = R) ∧ OwI wr (w.heap.size + 1) ov vs ∧ Below w1.heap.size w1 wr) (fun _ iv _ => p.s.length - (intOf iv).toNat)
    case atStart => exact ⟨0, A4, c4, l, by omega, rfl, by rw [LN.out], by rw [LN.out]; rfl, HV, by simpa using HR, O4.out, B14.out⟩
    case round =>
      obtain ⟨j, A, c, vs, hj, rfl, rfl, hvl, hva, hrun, hown, hbel⟩ := hrel
      have BEL := Lib.hid hbel
      have OWN := Lib.hid hown
      have HVL := Lib.hid hvl
      have hsz : w.heap.size + 1 ≤ wr.heap.size := by have := X1.out; have := hbel.size; omega
      clear z1
      by_cases hlt : j < p.s.length
      · obtain ⟨o1, o2, o3⟩ := HO.out j hlt
        obtain ⟨a, ha⟩ : ∃ a : Nat, (p.s[j]).1 = a := ⟨(p.s[j]).1.toNat, by omega⟩
        obtain ⟨b, hb⟩ : ∃ b : Nat, (p.s[j]).2 = b := ⟨(p.s[j]).2.toNat, by omega⟩
        obtain ⟨sb, off, rfl, hsb, hc1, hc2⟩ := ((H.out.1.below' XB.out hB).below' hbel (by have := X1.out; omega)).stp hlt
        rw [ha] at hc1
        rw [hb] at hc2
        have hal : a < vs.length := by omega
        have hbl : b < vs.length := by omega
        obtain ⟨g, go, rfl, hg, hca⟩ := hown.rd.int hal
        obtain ⟨g', go', hg', _, hcb⟩ := hown.rd.int hbl
        obtain ⟨rfl, rfl⟩ : g = g' ∧ go = go' := by injection hg' with hg'; injection hg' with h1 h2; exact ⟨h1, h2⟩
        have MCI := Lib.hid (fun W => MC.out vs[a] vs[b] W (hva.out _ (List.getElem_mem hal)) (hva.out _ (List.getElem_mem hbl)))
        have PR := Lib.hid (show prd (addW) 0 vs p.s[j] = (addW) vs[a] vs[b] by
          unfold prd
          rw [ha, hb, show ((a : Int)).toNat = a by omega, show ((b : Int)).toNat = b by omega, getD_at hal, getD_at hbl])
        have GOOD := Lib.hid (fun h => runG_good (has := hasW) (vs := vs) (mul := addW) (z := (0 : Int)) hlt h)
        have BADG := Lib.hid (fun h => runG_bad (has := hasW) (vs := vs) (mul := addW) (z := (0 : Int)) hlt h)
        rw [PR.out] at GOOD
        rw [PR.out] at BADG
        obtain ⟨x, hx⟩ : ∃ x, vs[a] = x := ⟨_, rfl⟩
        obtain ⟨y, hy⟩ : ∃ y, vs[b] = y := ⟨_, rfl⟩
        rw [hx] at hca MCI GOOD BADG
        rw [hy] at hcb MCI GOOD BADG
        obtain ⟨P, hP⟩ : ∃ P, (addW) x y = P := ⟨_, rfl⟩
        rw [hP] at MCI GOOD BADG
        have HCP := Lib.hid (HC.out P)
        obtain ⟨n, hn⟩ : ∃ n, vs.length = n := ⟨_, rfl⟩
        have HN := Lib.hid hn
        have ia : (a : Int) < (n : Int) := by omega
        have ib : (b : Int) < (n : Int) := by omega
        have hn46 : n ≤ 46 := by omega
        rw [hn] at OWN
        rw [hn]
        have ij : (j : Int) < (p.s.length : Int) := by omega
        clear o1 o2 o3 ha hb hal hbl hx hy hown hbel hg' hn hvl hP PR
        go_wp2
        refine wp_region_Tw [0, 1, 2, 3, 4, 5, 6, 7, 8, 9, 10, 11, 12, 13, 15] [3, 5, 8, 10] (.lp 0 (.lp 1 (.lp 2 (.lp 6 (.lp 7 (.lp 11 (.lp 12 (.lp 13 (.ls 3 (.lp 4 (.ls 5 (.ls 8 (.lp 9 (.ls 10 (.hv 14 (.lp 15 (.done))))))))))))))))) (by kernel_rfl) (by kernel_rfl) ?_
        (repeat (first | (refine T_lp rfl (fun K hK => ?_); go_simp; refine hK _ ?_; clear hK K) | (refine T_ls rfl rfl (fun K hK => ?_); go_simp; refine hK _ ?_; clear hK K)))
        refine T_lp1 (v := .func (.method "loop.example/g01098/impl.multiply") #[.iface 100 (.agg #[])] #[]) rfl rfl (fun x => by kernel_rfl) (fun K hK => ?_)
        (go_simp; refine hK _ ?_; clear hK K)
        (repeat (first | (refine T_lp rfl (fun K hK => ?_); go_simp; refine hK _ ?_; clear hK K) | (refine T_ls rfl rfl (fun K hK => ?_); go_simp; refine hK _ ?_; clear hK K)))
        (refine T_hv rfl (by kernel_rfl) (fun K hK => ?_); go_simp)
        refine (MCI.out _).mono ?_
        rintro e w5 ⟨rfl, hb5⟩
        have hb15 : Below w1.heap.size w1 w5 := ((BEL.out.alloc BEL.out.size _).drew).trans (hb5.mono (by have := BEL.out.size; simp; omega))
        have OWN5 : OwI w5 (w.heap.size + 1) (.slice (some ⟨g, go, none⟩) n c) vs := ((OWN.out.alloc _).drew).below hb5
        have B15 := Lib.hid hb15
        have O5 := Lib.hid OWN5
        have hs5 : w.heap.size + 1 ≤ w5.heap.size := by have := X1.out; have := hb15.size; omega
        clear hb5 hb15 OWN5
        (go_simp; refine hK _ _ ?_; clear hK K)
        (repeat (first | (refine T_lp rfl (fun K hK => ?_); go_simp; refine hK _ ?_; clear hK K) | (refine T_ls rfl rfl (fun K hK => ?_); go_simp; refine hK _ ?_; clear hK K)))
        refine T_done ?_
        go_wp2_with fail
        cases hh : hasW P with
        | false =>
          have eR := hrun.out
          rw [BADG.out hh] at eR
          have eb : rb = false := by rw [RD3.out, ← eR]; rfl
          have EV := Lib.hid (RB.out eb)
          have EB := Lib.hid eb
          rw [hh] at HCP
          clear hh eR eb
          refine (HCP.out _).mono ?_
          rintro e w6 ⟨rfl, hb6⟩
          have B16 := Lib.hid (B15.out.trans (hb6.mono (by have := X1.out; have := B15.out.size; omega)))
          clear hb6
          go_wp2
          go_ret2
          exact ⟨none, 0, by rw [EV.out, EB.out]; rfl, by rw [EV.out]; exact OwI.nil _ _, XB.out.trans (B16.out.mono (by have := X1.out; omega))⟩
        | true =>
          have GO := Lib.hid (GOOD.out hh)
          have HH := Lib.hid hh
          rw [hh] at HCP
          clear hh
          refine (HCP.out _).mono ?_
          rintro e w6 ⟨rfl, hb6⟩
          have B16 := Lib.hid (B15.out.trans (hb6.mono (by have := X1.out; have := B15.out.size; omega)))
          have O6 := Lib.hid (O5.out.below hb6)
          have hs6 : w.heap.size + 1 ≤ w6.heap.size := by have := hb6.size; omega
          clear hb6
          go_wp2_with (at_builtin; refine list_step (fun K hK => ?_); refine step_app_int rfl (.tmp 59) (.tmp 61) rfl (w.heap.size + 1) n _ vs rfl (O6.out.alloc _) HN.out w6.heap.size 1 P rfl (by simp) (by omega) (by simp; omega) ?_; intro A3 c3 w7 hown7 hg7 hbel7; go_simp; refine hK _ _ ?_; clear hK K)
          go_roundw
          case rel =>
            refine ⟨j + 1, A3, c3, vs ++ [P], by omega, by go_num, by rw [List.length_append, HN.out]; rfl, by rw [List.length_append, HVL.out]; simp; omega, Lib.hid ?_, Lib.hid (by rw [← GO.out]; exact hrun.out), hown7, (B16.out.alloc (B16.out.size) _).trans (hbel7.mono (by have := X1.out; omega))⟩
            intro z hz
            rcases List.mem_append.1 hz with hz | hz
            · exact hva.out z hz
            · rw [List.mem_singleton.1 hz]; exact HH.out
          case measure => simp [intOf]; omega
      · have hj' : j = p.s.length := by omega
        subst hj'
        have hE := hrun.out
        rw [runG_end (Nat.le_refl _)] at hE
        have eb : rb = true := by rw [RD3.out, ← hE]; rfl
        have EV := Lib.hid (RV.out vs hE.symm eb)
        have EB := Lib.hid eb
        have OL := Lib.hid (outs_len 0 vs p.o)
        have hvL : vs.length = N + p.s.length := hvl
        have z2 := (FS.out wr BEL.out).2
        have OIN := Lib.hid (show ∀ x ∈ p.o, 0 ≤ x ∧ x < (vs.length : Int) from fun x hx => by have := OUT.out x hx; omega)
        clear hown hbel hE hvl eb hvL
        obtain ⟨wo, rfl⟩ : ∃ wo, wo = wr := ⟨wr, rfl⟩
        have RV2 := Lib.hid (OWN.out.rd)
        have XO := Lib.hid (show Below w.heap.size w wo from XB.out.trans (BEL.out.mono (by have := X1.out; omega)))
        obtain ⟨n, hn⟩ : ∃ n, vs.length = n := ⟨_, rfl⟩
        have HN := Lib.hid hn
        rw [hn]
        clear hn
        go_wp2
        clear z2
        go_loopw [12, 67] (fun ov iv wr => ∃ (k : Nat) (A1 : Option Addr) (c1 : Nat), k ≤ p.o.length ∧ iv = .int .i64 (k : Int) ∧ ov = .slice A1 k c1 ∧ OwI wr wo.heap.size ov (outs 0 vs (p.o.take k)) ∧ Below wo.heap.size wo wr) (fun _ iv _ => p.o.length - (intOf iv).toNat)
        case atStart => exact ⟨0, none, 0, by omega, rfl, rfl, OwI.nil _ _, Below.refl _ _⟩
        case round =>
          obtain ⟨k, A1, c1, hk, rfl, rfl, hown, hbel⟩ := hrel
          have OWN2 := Lib.hid hown
          have BEL2 := Lib.hid hbel
          have hs2' := hbel.size
          by_cases hlt : k < p.o.length
          · obtain ⟨ob, oo, rfl, hob, hoc⟩ := (H.out.2.below' (XO.out.trans (hbel.mono (by omega))) hB).int hlt
            obtain ⟨q1, q2⟩ := OIN.out _ (List.getElem_mem hlt)
            obtain ⟨v, hv⟩ : ∃ v : Nat, p.o[k] = v := ⟨(p.o[k]).toNat, by omega⟩
            rw [hv] at hoc q2
            have hvl : v < vs.length := by omega
            obtain ⟨nb, no, rfl, hnb, hnc⟩ := (RV2.out.below hbel).int hvl
            have E1 := Lib.hid (outs_take vs p.o hlt hv hvl)
            have EL := Lib.hid (show (outs 0 vs (p.o.take k)).length = k by rw [outs_len, List.length_take]; omega)
            obtain ⟨u, hu⟩ : ∃ u, vs[v] = u := ⟨_, rfl⟩
            rw [hu] at hnc E1
            have ik : (k : Int) < (p.o.length : Int) := by omega
            have iv : (v : Int) < (n : Int) := by rw [← HN.out]; omega
            clear hu hv q1 q2 hown hbel hvl
            go_wp2_with (at_builtin; refine list_step (fun K hK => ?_); refine step_app_int rfl (.tmp 71) (.tmp 76) rfl wo.heap.size k _ (outs 0 vs (p.o.take k)) rfl (OWN2.out.alloc _) EL.out wr.heap.size 1 u rfl (by simp) (by omega) (by simp; omega) ?_; intro A3 c3 w3 hown3 hg3 hbel3; go_simp; refine hK _ _ ?_; clear hK K)
            go_roundw
            case rel => exact ⟨k + 1, A3, c3, by omega, by go_num, rfl, by rw [E1.out]; exact hown3, (BEL2.out.alloc hs2' _).trans hbel3⟩
            case measure => simp [intOf]; omega
          · have hk' : k = p.o.length := by omega
            subst hk'
            rw [List.take_of_length_le (Nat.le_refl _)] at OWN2
            clear hown hbel
            go_wp2
            go_ret2
            have hsz2 : w.heap.size ≤ wo.heap.size := XO.out.size
            exact ⟨A1, c1, by rw [EV.out, EB.out, OL.out]; rfl, by rw [EV.out, OL.out]; exact OWN2.out.base hsz2, XO.out.trans (BEL2.out.mono hsz2)⟩
end Go.Proofs.Ytbbfbccemonihab
