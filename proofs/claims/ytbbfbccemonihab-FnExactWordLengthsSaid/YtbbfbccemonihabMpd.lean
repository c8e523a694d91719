/- WordLengths, of the model and of the program. -/
import Derived.Test.YtbbfbccemonihabMpc
namespace Go.Proofs.Ytbbfbccemonihab
open Go.RowKit

set_option maxRecDepth 100000 in
set_option maxHeartbeats 4000000 in
theorem implWL_any (B : Nat) (A0 B0 : Option Addr) (c0 d0 : Nat) (p : Pl) (A2 : Option Addr) (c2 : Nat) (l : List Int) (w : World) (hB : B ≤ w.heap.size) (hs : p.s.length ≤ 1048576) (ho : p.o.length ≤ 1048576) (hl : l.length ≤ 1048576) (_hc : l.length ≤ c2)
    (hr : RdP w B A0 B0 p) (hrl : Rd w B 1 A2 l.length (l.map I)) :
    Calls Try.prog 28 #[.agg #[.int .i64 p.n, .slice A0 p.s.length c0, .slice B0 p.o.length d0], .slice A2 l.length c2] w fun e w' =>
      ∃ A' c', e = .returned (.tuple #[.slice A' (runV hasW addW p l).length c', .bool (runB hasW addW p l)]) ∧ OwI w' w.heap.size (.slice A' (runV hasW addW p l).length c') (runV hasW addW p l) ∧ Below w.heap.size w w' := by
  have H := Lib.hid hr
  have HL := Lib.hid hrl
  have RU := Lib.hid (fun W hB hr hrl => runW_any B A0 B0 c0 d0 p A2 c2 l W hB hs ho hl hr hrl)
  obtain ⟨rv, hrv⟩ : ∃ x, runV hasW addW p l = x := ⟨_, rfl⟩
  obtain ⟨rb, hrb⟩ : ∃ x, runB hasW addW p l = x := ⟨_, rfl⟩
  rw [hrv, hrb] at RU
  rw [hrv, hrb]
  clear hr hrl hrv hrb
  go_enter Try.func28, Try.ntmps28
  go_wp2_with fail
  go_at_call 88
  generalize hw1 : World.alloc w _ = w1
  obtain ⟨x0, x1, x2, xs, xb⟩ := box3 hw1
  clear hw1
  refine (RU.out w1 (by omega) (H.out.below' xb hB) (HL.out.below' xb hB)).mono ?_
  rintro e w2 ⟨A', c', rfl, ho2, hb2⟩
  have HB := Lib.hid (xb.trans (hb2.mono (by omega)))
  have O2 := Lib.hid (ho2.base (show w.heap.size ≤ w1.heap.size by omega))
  clear hb2 xb x0 x1 x2 ho2
  go_wp2
  go_ret2
  exact ⟨A', c', rfl, O2.out, HB.out⟩

set_option maxRecDepth 100000 in
set_option maxHeartbeats 8000000 in
theorem specWL_any (B : Nat) (A0 B0 : Option Addr) (c0 d0 : Nat) (p : Pl) (A2 : Option Addr) (c2 : Nat) (l : List Int) (w : World) (hB : B ≤ w.heap.size) (hs : p.s.length ≤ 1048576) (ho : p.o.length ≤ 1048576) (hl : l.length ≤ 1048576) (_hc : l.length ≤ c2)
    (hr : RdP w B A0 B0 p) (hrl : Rd w B 1 A2 l.length (l.map I)) :
    Calls Try.prog 26 #[.agg #[.int .i64 p.n, .slice A0 p.s.length c0, .slice B0 p.o.length d0], .slice A2 l.length c2] w fun e w' =>
      ∃ A' c', e = .returned (.tuple #[.slice A' (runV hasW addW p l).length c', .bool (runB hasW addW p l)]) ∧ OwI w' w.heap.size (.slice A' (runV hasW addW p l).length c') (runV hasW addW p l) ∧ Below w.heap.size w w' := by
  have H := Lib.hid hr
  have HL := Lib.hid hrl
  have PG := Lib.hid (fun W hB hr => plGood_any B A0 B0 c0 d0 p W hB (by omega) (by omega) hr)
  have HA := Lib.hid (fun W hr => l1All_any B A2 c2 l 0 2000 W (by omega) hr)
  have RB := Lib.hid (fun h => run_bad (has := hasW) (mul := addW) (p := p) (l := l) h)
  have RD := Lib.hid (show runB hasW addW p l = (good p && (decide ((l.length : Int) = p.n) && (allB l 0 2000 && (runG hasW addW 0 l p.s).isSome))) from rfl)
  have RV := Lib.hid (fun V h1 h2 => run_val (has := hasW) (mul := addW) (p := p) (l := l) (V := V) h1 h2)
  clear hr hrl
  obtain ⟨rv, hrv⟩ : ∃ x, runV hasW addW p l = x := ⟨_, rfl⟩
  obtain ⟨rb, hrb⟩ : ∃ x, runB hasW addW p l = x := ⟨_, rfl⟩
  rw [hrv, hrb] at RV
  rw [hrv, hrb] at RB
  rw [hrb] at RD
  rw [hrv, hrb]
  clear hrv hrb
  cases h1 : good p with
  | false =>
    have eb : rb = false := by rw [RD.out, h1]; rfl
    have EV := Lib.hid (RB.out eb)
    rw [eb]
    rw [h1] at PG
    clear h1 eb
    go_enter Try.func26, Try.ntmps26
    go_wp2_with fail
    go_at_call 78
    generalize hw1 : World.alloc w _ = w1
    obtain ⟨x0, x1, x2, xs, xb⟩ := box3 hw1
    clear hw1
    refine (PG.out w1 (by omega) (H.out.below' xb hB)).mono ?_
    rintro e w2 ⟨rfl, hb2⟩
    have y0 := (hb2.cell (p := ⟨w.heap.size, 0, none⟩) (by simp only []; omega)).trans x0
    have HB := Lib.hid (xb.trans (hb2.mono (by omega)))
    have hs2 : w1.heap.size ≤ w2.heap.size := hb2.size
    have hB2 : B ≤ w2.heap.size := by omega
    clear hb2 xb x0 x1 x2
    go_wp2
    go_ret2
    exact ⟨none, 0, by rw [EV.out]; rfl, by rw [EV.out]; exact OwI.nil _ _, HB.out⟩
  | true =>
  rw [h1] at PG
  obtain ⟨N, hN, n1, n6, s40, o6, hok, hout, _⟩ := good_facts h1
  by_cases h2 : l.length = N
  case neg =>
    have eb : rb = false := by rw [RD.out, h1, decide_eq_false (show ¬ (l.length : Int) = p.n by omega)]; rfl
    have EV := Lib.hid (RB.out eb)
    rw [eb]
    rw [hN] at PG
    rw [hN]
    have i2 : ¬ (l.length : Int) = (N : Int) := by omega
    clear h1 h2 eb hout hok hN
    go_enter Try.func26, Try.ntmps26
    go_wp2_with fail
    go_at_call 78
    generalize hw1 : World.alloc w _ = w1
    obtain ⟨x0, x1, x2, xs, xb⟩ := box3 hw1
    clear hw1
    refine (PG.out w1 (by omega) (H.out.below' xb hB)).mono ?_
    rintro e w2 ⟨rfl, hb2⟩
    have y0 := (hb2.cell (p := ⟨w.heap.size, 0, none⟩) (by simp only []; omega)).trans x0
    have HB := Lib.hid (xb.trans (hb2.mono (by omega)))
    have hs2 : w1.heap.size ≤ w2.heap.size := hb2.size
    have hB2 : B ≤ w2.heap.size := by omega
    clear hb2 xb x0 x1 x2
    go_wp2
    go_ret2
    exact ⟨none, 0, by rw [EV.out]; rfl, by rw [EV.out]; exact OwI.nil _ _, HB.out⟩
  have RD2 := Lib.hid (show rb = (allB l 0 2000 && (runG hasW addW 0 l p.s).isSome) by rw [RD.out, h1, decide_eq_true (show (l.length : Int) = p.n by omega)]; rfl)
  rw [hN] at PG
  rw [hN]
  have LN := Lib.hid h2
  rw [h2] at HA HL
  rw [h2]
  cases h3 : allB l 0 2000 with
  | false =>
    have eb : rb = false := by rw [RD2.out, h3]; rfl
    have EV := Lib.hid (RB.out eb)
    rw [eb]
    rw [h3] at HA
    clear h1 h2 h3 eb hout hok hN
    go_enter Try.func26, Try.ntmps26
    go_wp2_with fail
    go_at_call 78
    generalize hw1 : World.alloc w _ = w1
    obtain ⟨x0, x1, x2, xs, xb⟩ := box3 hw1
    clear hw1
    refine (PG.out w1 (by omega) (H.out.below' xb hB)).mono ?_
    rintro e w2 ⟨rfl, hb2⟩
    have y0 := (hb2.cell (p := ⟨w.heap.size, 0, none⟩) (by simp only []; omega)).trans x0
    have HB := Lib.hid (xb.trans (hb2.mono (by omega)))
    have hs2 : w1.heap.size ≤ w2.heap.size := hb2.size
    have hB2 : B ≤ w2.heap.size := by omega
    clear hb2 xb x0 x1 x2
    go_wp2_with fail
    go_at_call 85
    refine (HA.out w2 (HL.out.below' HB.out hB)).mono ?_
    rintro e w3 ⟨rfl, rfl⟩
    clear y0
    go_wp2
    go_ret2
    exact ⟨none, 0, by rw [EV.out]; rfl, by rw [EV.out]; exact OwI.nil _ _, HB.out⟩
  | true =>
    have RD3 := Lib.hid (show rb = (runG hasW addW 0 l p.s).isSome by rw [RD2.out, h3]; rfl)
    have HV := Lib.hid (show ∀ x ∈ l, hasW x = true from List.all_eq_true.1 h3)
    rw [h3] at HA
    have OW := Lib.hid (fun W hB hr => l1Own_any B A2 c2 l W (by omega) hB hr)
    rw [h2] at OW
    have HO := Lib.hid hok
    have OUT := Lib.hid hout
    obtain ⟨R, hR⟩ : ∃ R, runG hasW addW 0 l p.s = R := ⟨_, rfl⟩
    have HR := Lib.hid hR
    rw [hR] at RD3 RV
    clear h1 h2 h3 hout hok hN hR
    go_enter Try.func26, Try.ntmps26
    go_wp2_with fail
    go_at_call 78
    generalize hw1 : World.alloc w _ = w1
    obtain ⟨x0, x1, x2, xs, xb⟩ := box3 hw1
    clear hw1
    refine (PG.out w1 (by omega) (H.out.below' xb hB)).mono ?_
    rintro e w2 ⟨rfl, hb2⟩
    have y0 := (hb2.cell (p := ⟨w.heap.size, 0, none⟩) (by simp only []; omega)).trans x0
    have FS := Lib.hid (show ∀ x, Below w1.heap.size w1 x → x.cell? ⟨w.heap.size, 1, none⟩ = some (.slice A0 p.s.length c0) ∧ x.cell? ⟨w.heap.size, 2, none⟩ = some (.slice B0 p.o.length d0) from fun x hx =>
      ⟨(hx.cell (p := ⟨w.heap.size, 1, none⟩) (by simp only []; omega)).trans x1, (hx.cell (p := ⟨w.heap.size, 2, none⟩) (by simp only []; omega)).trans x2⟩)
    have X1 := Lib.hid xs
    have B12 := Lib.hid hb2
    have XB := Lib.hid xb
    have HB := Lib.hid (xb.trans (hb2.mono (by omega)))
    have hs2 : w1.heap.size ≤ w2.heap.size := hb2.size
    have hB2 : B ≤ w2.heap.size := by omega
    clear hb2 xb x0 x1 x2 xs
    go_wp2_with fail
    go_at_call 85
    refine (HA.out w2 (HL.out.below' HB.out hB)).mono ?_
    rintro e w3 ⟨rfl, rfl⟩
    clear y0
    go_wp2_with fail
    go_at_call 86
    refine (OW.out w2 hB2 (HL.out.below' HB.out hB)).mono ?_
    rintro e w4 ⟨A4, c4, rfl, ho4, hb4⟩
    have B14 := Lib.hid (B12.out.trans (hb4.mono hs2))
    have O4 := Lib.hid (ho4.base (show w.heap.size + 1 ≤ w2.heap.size by have := X1.out; omega))
    clear hb4 ho4
    have z1 := (FS.out w4 B14.out).1
    go_wp2
    go_loopw [6, 30] (fun ov iv wr => ∃ (j : Nat) (A : Option Addr) (c : Nat) (vs : List Int), j ≤ p.s.length ∧ iv = .int .i64 (j : Int) ∧ ov = .slice A vs.length c ∧ vs.length = N + j ∧ Hid (∀ x ∈ vs, hasW x = true) ∧ Hid (runG hasW addW 0 vs (p.s.drop j) = R) ∧ OwI wr (w.heap.size + 1) ov vs ∧ Below w1.heap.size w1 wr) (fun _ iv _ => p.s.length - (intOf iv).toNat)
    case atStart => exact ⟨0, A4, c4, l, by omega, rfl, by rw [LN.out], by rw [LN.out]; rfl, HV, by simpa using HR, O4.out, B14.out⟩
    case round =>
      obtain ⟨j, A, c, vs, hj, rfl, rfl, hvl, hva, hrun, hown, hbel⟩ := hrel
      have BEL := Lib.hid hbel
      have OWN := Lib.hid hown
      have HVL := Lib.hid hvl
      have hsz : w.heap.size + 1 ≤ wr.heap.size := by have := X1.out; have := hbel.size; omega
      clear z1
      by_cases hlt : j < p.s.length
      · obtain ⟨o1, o2, o3⟩ := HO.out j hlt
        obtain ⟨a, ha⟩ : ∃ a : Nat, (p.s[j]).1 = a := ⟨(p.s[j]).1.toNat, by omega⟩
        obtain ⟨b, hb⟩ : ∃ b : Nat, (p.s[j]).2 = b := ⟨(p.s[j]).2.toNat, by omega⟩
        obtain ⟨sb, off, rfl, hsb, hc1, hc2⟩ := ((H.out.1.below' XB.out hB).below' hbel (by have := X1.out; omega)).stp hlt
        rw [ha] at hc1
        rw [hb] at hc2
        have hal : a < vs.length := by omega
        have hbl : b < vs.length := by omega
        obtain ⟨g, go, rfl, hg, hca⟩ := hown.rd.int hal
        obtain ⟨g', go', hg', _, hcb⟩ := hown.rd.int hbl
        obtain ⟨rfl, rfl⟩ : g = g' ∧ go = go' := by injection hg' with hg'; injection hg' with h1 h2; exact ⟨h1, h2⟩
        obtain ⟨xa0, xa1⟩ := hasW_rng (hva.out _ (List.getElem_mem hal))
        obtain ⟨xb0, xb1⟩ := hasW_rng (hva.out _ (List.getElem_mem hbl))
        have PR := Lib.hid (show prd addW 0 vs p.s[j] = vs[a] + vs[b] by
          unfold prd addW
          rw [ha, hb, show ((a : Int)).toNat = a by omega, show ((b : Int)).toNat = b by omega, getD_at hal, getD_at hbl])
        have GOOD := Lib.hid (fun h => runG_good (has := hasW) (vs := vs) (mul := addW) (z := (0 : Int)) hlt h)
        have BADG := Lib.hid (fun h => runG_bad (has := hasW) (vs := vs) (mul := addW) (z := (0 : Int)) hlt h)
        rw [PR.out] at GOOD
        rw [PR.out] at BADG
        obtain ⟨x, hx⟩ : ∃ x : Nat, vs[a] = (x : Int) := ⟨vs[a].toNat, by omega⟩
        obtain ⟨y, hy⟩ : ∃ y : Nat, vs[b] = (y : Int) := ⟨vs[b].toNat, by omega⟩
        rw [hx] at hca xa1 GOOD BADG
        rw [hy] at hcb xb1 GOOD BADG
        have hxl : x ≤ 2000 := by omega
        have hyl : y ≤ 2000 := by omega
        have w2' : IntKind.i64.wrap ((x : Int) + (y : Int)) = ((x + y : Nat) : Int) := wrapA hxl hyl
        rw [show (x : Int) + (y : Int) = ((x + y : Nat) : Int) by push_cast; rfl] at GOOD BADG
        obtain ⟨P, hP⟩ : ∃ P, x + y = P := ⟨_, rfl⟩
        rw [hP] at GOOD BADG w2'
        obtain ⟨n, hn⟩ : ∃ n, vs.length = n := ⟨_, rfl⟩
        have HN := Lib.hid hn
        have ia : (a : Int) < (n : Int) := by omega
        have ib : (b : Int) < (n : Int) := by omega
        have hn46 : n ≤ 46 := by omega
        rw [hn] at OWN
        rw [hn]
        have ij : (j : Int) < (p.s.length : Int) := by omega
        have HP4 := Lib.hid (show P ≤ 4000 by omega)
        clear o1 o2 o3 ha hb hal hbl hx hy hown hbel hg' hn hvl hP PR xa0 xa1 xb0 xb1 hxl hyl
        go_wp2
        refine wp_region_Tw [0, 1, 2, 3, 4, 5, 6, 7, 8, 9, 10, 11] [2, 4, 7, 9] (.lp 0 (.lp 1 (.lp 5 (.lp 6 (.ls 2 (.lp 3 (.ls 4 (.ls 7 (.lp 8 (.ls 9 (.lp 10 (.lp 11 (.done))))))))))))) (by kernel_rfl) (by kernel_rfl) ?_
        (repeat (first | (refine T_lp rfl (fun K hK => ?_); go_simp; refine hK _ ?_; clear hK K) | (refine T_ls rfl rfl (fun K hK => ?_); go_simp; refine hK _ ?_; clear hK K)))
        refine T_done ?_
        by_cases hh : P ≤ 2000
        · have hHas : hasW (P : Int) = true := by simp [hasW, inB]; omega
          have GO := Lib.hid (GOOD.out hHas)
          have HH := Lib.hid hHas
          have iP : ¬ (2000 : Int) < (P : Int) := by omega
          clear hHas hh
          have hz : ((wr.alloc (Obj.cells #[Value.int .i64 ↑a, Value.int .i64 ↑b] 89)).drew).heap.size ≥ wr.heap.size := by simp
          have OWN1 := Lib.hid ((OWN.out.alloc (Obj.cells #[Value.int .i64 ↑a, Value.int .i64 ↑b] 89)).drew)
          have BEL1 := Lib.hid ((BEL.out.alloc BEL.out.size (Obj.cells #[Value.int .i64 ↑a, Value.int .i64 ↑b] 89)).drew)
          generalize ((wr.alloc (Obj.cells #[Value.int .i64 ↑a, Value.int .i64 ↑b] 89)).drew) = w6 at hz OWN1 BEL1 ⊢
          go_wp2_with (at_builtin; refine list_step (fun K hK => ?_); refine step_app_int rfl (.tmp 47) (.tmp 49) rfl (w.heap.size + 1) n _ vs rfl (OWN1.out.alloc _) HN.out w6.heap.size 1 (P : Int) rfl (by simp) (by omega) (by simp; omega) ?_; intro A3 c3 w7 hown7 hg7 hbel7; go_simp; refine hK _ _ ?_; clear hK K)
          go_roundw
          case rel =>
            refine ⟨j + 1, A3, c3, vs ++ [(P : Int)], by omega, by go_num, by rw [List.length_append, HN.out]; rfl, by rw [List.length_append, HVL.out]; simp; omega, Lib.hid ?_, Lib.hid (by rw [← GO.out]; exact hrun.out), hown7, (BEL1.out.alloc (BEL1.out.size) _).trans (hbel7.mono (by have := X1.out; omega))⟩
            intro z hz
            rcases List.mem_append.1 hz with hz | hz
            · exact hva.out z hz
            · rw [List.mem_singleton.1 hz]; exact HH.out
          case measure => simp [intOf]; omega
        · have hHas : hasW (P : Int) = false := by simp [hasW, inB]; omega
          have eR := hrun.out
          rw [BADG.out hHas] at eR
          have eb : rb = false := by rw [RD3.out, ← eR]; rfl
          have EV := Lib.hid (RB.out eb)
          have EB := Lib.hid eb
          have iP : (2000 : Int) < (P : Int) := by omega
          clear hh hHas eR eb
          go_wp2
          go_ret2
          exact ⟨none, 0, by rw [EV.out, EB.out]; rfl, by rw [EV.out]; exact OwI.nil _ _, XB.out.trans (((BEL.out.alloc BEL.out.size _).drew).mono (by have := X1.out; omega))⟩
      · have hj' : j = p.s.length := by omega
        subst hj'
        have hE := hrun.out
        rw [runG_end (Nat.le_refl _)] at hE
        have eb : rb = true := by rw [RD3.out, ← hE]; rfl
        have EV := Lib.hid (RV.out vs hE.symm eb)
        have EB := Lib.hid eb
        have OL := Lib.hid (outs_len 0 vs p.o)
        have hvL : vs.length = N + p.s.length := hvl
        have z2 := (FS.out wr BEL.out).2
        have OIN := Lib.hid (show ∀ x ∈ p.o, 0 ≤ x ∧ x < (vs.length : Int) from fun x hx => by have := OUT.out x hx; omega)
        have XO := Lib.hid (show Below w.heap.size w wr from XB.out.trans (BEL.out.mono (by have := X1.out; omega)))
        have MP := Lib.hid (moPick_any wr.heap.size A B0 c d0 vs p.o wr (by omega) (Nat.le_refl _) OIN.out OWN.out.rd ((H.out.2.below' XO.out hB).more (by omega)))
        have hsz2 : w.heap.size ≤ wr.heap.size := XO.out.size
        clear hown hbel hE hvl eb hvL
        go_wp2_with fail
        go_at_call 87
        refine MP.out.mono ?_
        rintro e w9 ⟨A9, c9, rfl, ho9, hb9⟩
        have O9 := Lib.hid (ho9.base hsz2)
        have B9 := Lib.hid (XO.out.trans (hb9.mono hsz2))
        clear ho9 hb9 z2
        go_wp2
        go_ret2
        exact ⟨A9, c9, by rw [EV.out, EB.out, OL.out]; rfl, by rw [EV.out, OL.out]; exact O9.out, B9.out⟩
end Go.Proofs.Ytbbfbccemonihab
