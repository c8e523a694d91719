/- SharePlan, of the model. -/
import Derived.Test.YtppfpdobdoaoiaaSi
namespace Go.Proofs.Ytppfpdobdoaoiaa
open Go.RowKit

set_option maxRecDepth 100000 in
set_option maxHeartbeats 8000000 in
theorem specShare_any (B : Nat) (A1 A2 : Option Addr) (c1 c2 : Nat) (p : Pl) (w : World) (hB : B ≤ w.heap.size) (hls : p.s.length ≤ 2000000) (hlo : p.o.length ≤ 2000000) (hr : RdP w B A1 A2 p) :
    Calls Try.prog 49 #[.agg #[.int .i64 p.n, .slice A1 p.s.length c1, .slice A2 p.o.length c2]] w fun e w' =>
      ∃ B1 B2 d1 d2, e = .returned (.tuple #[.agg #[.int .i64 (shareR p).n, .slice B1 (shareR p).s.length d1, .slice B2 (shareR p).o.length d2], .bool (good p)]) ∧ OwP w' w.heap.size B1 B2 d1 d2 (shareR p) ∧ Below w.heap.size w w' := by
  have H := Lib.hid hr
  clear hr
  obtain ⟨gd, hgd⟩ : ∃ x, good p = x := ⟨_, rfl⟩
  have HG := Lib.hid hgd
  go_enter Try.func49, Try.ntmps49
  go_wp2_with fail
  go_at_call 59
  generalize hw1 : World.alloc (World.alloc w _) _ = w1
  obtain ⟨q0, q1, xs, xb⟩ := boxes2 hw1
  clear hw1
  have hC := plGood_any w.heap.size A1 A2 c1 c2 p w1 (by omega) hls hlo ((H.out.below' xb hB).more hB)
  rw [hgd] at hC
  refine hC.mono ?_
  rintro e w2 ⟨rfl, hb2⟩
  clear hC hgd
  have r0 := (hb2.block w.heap.size (by omega)).trans q0
  have r1 := (hb2.block (w.heap.size + 1) (by omega)).trans q1
  obtain ⟨y0, y1, y2, _, _, _⟩ := cells3 r0
  obtain ⟨t0, t1, t2, g0, g1, g2⟩ := cells3 r1
  have HB2 := Lib.hid (xb.trans (hb2.mono (show w.heap.size ≤ w1.heap.size by omega)))
  have hs2 : w.heap.size + 2 ≤ w2.heap.size := by have := hb2.size; omega
  have R0 := Lib.hid r0
  have R1 := Lib.hid r1
  clear q0 q1 xs xb hb2 r0 r1
  cases gd with
  | false =>
    have ea := shareR_bad HG.out
    have EA := Lib.hid ea
    clear ea
    go_wp2
    refine bodyPost_ret (v := .tuple #[.agg #[.int .i64 0, .slice none 0 0, .slice none 0 0], .bool false]) (by simp [results, Try.results49, go_sem, t0, t1, t2]) rfl ⟨none, none, 0, 0, by rw [EA.out, HG.out]; rfl, by rw [EA.out]; exact OwP.zero _ _, ?_⟩
    exact ((HB2.out.setCell (by simp) _).setCell (by simp) _).setCell (by simp) _
  | true =>
    obtain ⟨N, hN, n1, n6, hs40, ho6, hok, hout, _⟩ := good_facts HG.out
    have hgs := good_share HG.out hN
    have ea := shareR_good HG.out hN
    have hel := exps_length N p.s
    have hpf := fun W hBW hrW => plFirst_any w.heap.size N A1 A2 c1 c2 p W hN n1 n6 hs40 hBW hok hrW
    have hqv : shareQ p N = ⟨p.n, p.s.map (shS (exps N p.s)), p.o.map (shF (exps N p.s))⟩ := rfl
    have hoks := okS_share hok
    obtain ⟨E, hE⟩ : ∃ E, exps N p.s = E := ⟨_, rfl⟩
    rw [hE] at hel hpf hqv hoks
    rw [hqv] at ea hgs
    obtain ⟨qs, hqs⟩ : ∃ qs, p.s.map (shS E) = qs := ⟨_, rfl⟩
    obtain ⟨qo, hqo⟩ : ∃ qo, p.o.map (shF E) = qo := ⟨_, rfl⟩
    have hqsl : qs.length = p.s.length := by rw [← hqs]; simp
    have hqol : qo.length = p.o.length := by rw [← hqo]; simp
    have hsk : ∀ k (h : k < p.s.length), qs.take (k + 1) = qs.take k ++ [stI (shF E (p.s[k]).1) (shF E (p.s[k]).2)] := fun k h => by
      subst hqs
      rw [List.take_succ_eq_append_getElem (by simpa using h)]
      simp [shS]
    have hok' : ∀ k (h : k < p.o.length), qo.take (k + 1) = qo.take k ++ [shF E p.o[k]] := fun k h => by
      subst hqo
      rw [List.take_succ_eq_append_getElem (by simpa using h)]
      simp
    rw [hqs] at ea hgs hoks
    rw [hqo] at ea hgs
    have hin : ∀ st ∈ p.s, 0 ≤ st.1 ∧ st.1 ≤ st.2 ∧ st.2 < (E.length : Int) := fun st hst => by
      obtain ⟨i, hi, rfl⟩ := List.mem_iff_getElem.1 hst
      obtain ⟨h1, h2, h3⟩ := hok i hi
      omega
    have hino : ∀ x ∈ p.o, 0 ≤ x ∧ x < (E.length : Int) := fun x hx => by have := hout x hx; omega
    have hEl : E.length ≤ 46 := by omega
    obtain ⟨_, hN2, _, _, _, _, _, hout2, _⟩ := good_facts hgs
    have HQG := Lib.hid hgs
    have ht := trimR_good hgs (show (⟨p.n, qs, qo⟩ : Pl).n = N from hN)
    simp only at hN2 hout2
    have hN3 : ∀ x ∈ qo, 0 ≤ x ∧ x < (N : Int) + (qs.length : Int) := fun x hx => by have := hout2 x hx; omega
    have hul := us_len N qs qo qs.length
    have hpu := fun W B1 B2 d1 d2 hrW => plUsed_any (World.heap W).size N B1 B2 d1 d2 ⟨p.n, qs, qo⟩ W hN n6 (by simp only; omega) (by simp only; omega) (Nat.le_refl _) hoks hrW
    have hpk := fun W A c B1 B2 d1 d2 hrW hlW => plKeep_any (World.heap W).size N B1 B2 A d1 d2 c ⟨p.n, qs, qo⟩ (usd N qs qo) W hN n6 (by unfold usd; omega) (by simp only; omega) (by simp only; omega) (Nat.le_refl _) usd_in hoks hN3 hrW hlW
    simp only at hpu hpk ht
    obtain ⟨U, hU⟩ : ∃ U, usd N qs qo = U := ⟨_, rfl⟩
    have hUl : U.length ≤ 40 := by rw [← hU]; unfold usd; omega
    rw [hU] at hpu hpk ht
    rw [hqsl, hqol] at hpu
    rw [hqsl, hqol] at hpk
    have HT := Lib.hid (ea.trans ht)
    have HPF := Lib.hid hpf
    have HPU := Lib.hid hpu
    have HPK := Lib.hid hpk
    have HSK := Lib.hid hsk
    have HOK' := Lib.hid hok'
    have HIN := Lib.hid hin
    have HINO := Lib.hid hino
    have HQSL := Lib.hid hqsl
    have HQOL := Lib.hid hqol
    have HN := Lib.hid hN
    clear hpf hpu hpk hsk hok' hin hino hqsl hqol hN hN2 hN3 hout2 ht ea hgs hul hU hqs hqo hoks hqv hel hE hok hout t0 t1 t2 g0 g1 g2
    go_wp2_with fail
    go_at_call 85
    refine (HPF.out w2 (by omega) ((H.out.below' HB2.out hB).more hB)).mono ?_
    rintro e w3 ⟨A3, c3, rfl, hown3, hb3⟩
    have hs3 : w2.heap.size ≤ w3.heap.size := hb3.size
    have hfr : Rd w3 w3.heap.size 1 A3 (firstK E E.length).length ((firstK E E.length).map I) := by
      have h' : w3.ownsRow _ _ _ _ _ _ := hown3
      rw [firstK_length] at h' ⊢
      exact Rd.of_own h'
    have HFR := Lib.hid hfr
    have HB3 := Lib.hid (HB2.out.trans (hb3.mono (by omega)))
    have R03 := Lib.hid ((hb3.block w.heap.size (by omega)).trans R0.out)
    have R13 := Lib.hid ((hb3.block (w.heap.size + 1) (by omega)).trans R1.out)
    obtain ⟨z0, z1, z2, _, _, _⟩ := cells3 R03.out
    have zk1 := cell_kept z1
    clear hown3 hb3 y0 y1 y2 hfr
    go_wp2
    generalize hw4 : World.alloc w3 _ = w4
    have q4 : w4.heap[w3.heap.size]? = some (.cells #[.int .i64 p.n, .slice none 0 0, .slice none 0 0] 27 (0, 0)) := by
      rw [← hw4]; exact heap_alloc_new w3 _
    have hb4 : Below w3.heap.size w3 w4 := by rw [← hw4]; exact (Below.refl _ _).alloc (Nat.le_refl _) _
    clear hw4 zk1 z0 z1 z2
    have Q4 := Lib.hid q4
    have HB4 := Lib.hid hb4
    clear q4 hb4
    go_loopw [22] (fun iv wr => ∃ (k : Nat) (B1 : Option Addr) (d1 : Nat), k ≤ p.s.length ∧ iv = .int .i64 k ∧ wr.heap[w3.heap.size]? = some (.cells #[.int .i64 p.n, .slice B1 k d1, .slice none 0 0] 27 (0, 0)) ∧
      wr.ownsRow (w3.heap.size + 1) 91 2 (.slice B1 k d1) k (fl (qs.take k)) ∧ Below w3.heap.size w3 wr) (fun i _ => p.s.length - (intOf i).toNat)
    case atStart => exact ⟨0, none, 0, by omega, rfl, Q4.out, World.ownsRow_nil _ _ _ _, HB4.out⟩
    case round =>
      obtain ⟨k, B1, d1, hk, rfl, hbox, hown, hbel⟩ := hrel
      have hszr : w3.heap.size + 1 ≤ wr.heap.size := (Array.getElem?_eq_some_iff.1 hbox).1
      obtain ⟨a0, a1, a2, _, _, _⟩ := cells3 ((hbel.block w.heap.size (by omega)).trans R03.out)
      obtain ⟨b0, b1, b2, _, _, _⟩ := cells3 hbox
      have hbw : Below w.heap.size w wr := HB3.out.trans (hbel.mono (by omega))
      by_cases hlt : k < p.s.length
      · obtain ⟨i1, i2, i3⟩ := HIN.out _ (List.getElem_mem hlt)
        obtain ⟨sb, off, rfl, hsb, hc1, hc2⟩ := (H.out.below' hbw hB).1.stp hlt
        obtain ⟨x, hx⟩ : ∃ x : Nat, (p.s[k]).1 = x := ⟨(p.s[k]).1.toNat, by omega⟩
        obtain ⟨y, hy⟩ : ∃ y : Nat, (p.s[k]).2 = y := ⟨(p.s[k]).2.toNat, by omega⟩
        rw [hx] at hc1
        rw [hy] at hc2
        have hxl : x < E.length := by omega
        have hyl : y < E.length := by omega
        have ixl : (x : Int) < (E.length : Int) := by omega
        have iyl : (y : Int) < (E.length : Int) := by omega
        have hst := HSK.out k hlt
        rw [hx, hy] at hst
        have hfr := HFR.out.below hbel
        obtain ⟨fb, fo, rfl, hfb, hcx⟩ := hfr.int (show x < (firstK E E.length).length by rw [firstK_length]; exact hxl)
        obtain ⟨fb', fo', hf', _, hcy⟩ := hfr.int (show y < (firstK E E.length).length by rw [firstK_length]; exact hyl)
        obtain ⟨rfl, rfl⟩ : fb = fb' ∧ fo = fo' := by
          injection hf' with hf'
          injection hf' with e1 e2
          exact ⟨e1, e2⟩
        rw [firstK_at hxl] at hcx
        rw [firstK_at hyl] at hcy
        obtain ⟨f1, hf1⟩ : ∃ f, shF E (x : Int) = f := ⟨_, rfl⟩
        obtain ⟨f2, hf2⟩ : ∃ f, shF E (y : Int) = f := ⟨_, rfl⟩
        rw [hf1] at hcx hst
        rw [hf2] at hcy hst
        have HST := Lib.hid hst
        have OWN := Lib.hid hown
        have HBX := Lib.hid hbox
        have HBL := Lib.hid hbel
        clear hst hown hbox hbel hx hy i1 i2 i3 hfr hf' hf1 hf2 hbw
        go_wp2
        generalize hw5 : World.alloc wr _ = w5
        obtain ⟨e0, e1, es, eb⟩ := box2 hw5
        clear hw5
        have hfb5 : fb < w5.heap.size := by omega
        have FS := Lib.hid (show ∀ x', Below w5.heap.size w5 x' → x'.cell? ⟨w3.heap.size, 1, none⟩ = some (.slice B1 k d1) ∧ x'.cell? ⟨wr.heap.size, 0, none⟩ = some (.int .i64 (x : Int)) ∧ x'.cell? ⟨wr.heap.size, 1, none⟩ = some (.int .i64 (y : Int)) ∧ x'.cell? ⟨fb, fo + x, none⟩ = some (.int .i64 f1) ∧ x'.cell? ⟨fb, fo + y, none⟩ = some (.int .i64 f2) from fun x' hx' =>
          ⟨(hx'.cell (p := ⟨w3.heap.size, 1, none⟩) (by simp only []; omega)).trans ((eb.cell (p := ⟨w3.heap.size, 1, none⟩) (by simp only []; omega)).trans b1), (hx'.cell (p := ⟨wr.heap.size, 0, none⟩) (by simp only []; omega)).trans e0, (hx'.cell (p := ⟨wr.heap.size, 1, none⟩) (by simp only []; omega)).trans e1,
            (hx'.cell (p := ⟨fb, fo + x, none⟩) hfb5).trans ((eb.cell (p := ⟨fb, fo + x, none⟩) (by simp only []; omega)).trans hcx), (hx'.cell (p := ⟨fb, fo + y, none⟩) hfb5).trans ((eb.cell (p := ⟨fb, fo + y, none⟩) (by simp only []; omega)).trans hcy)⟩)
        have S0 := Lib.hid (show Below w5.heap.size w5 w5.drew from (Below.refl _ _).drew)
        have EB := Lib.hid eb
        clear a0 a1 a2 b0 b1 b2 e0 e1 eb hcx hcy hc1 hc2
        refine wp_region_T (fun x : World => Below w5.heap.size w5 x) [0, 1, 2, 3, 4, 5, 6, 7, 8, 9, 10, 11, 15] [1, 4, 6, 9, 11] (.lp 0 (.lp 2 (.lp 3 (.lp 7 (.lp 8 (.ls 1 (.ls 4 (.lp 5 (.ls 6 (.ls 9 (.lp 10 (.ls 11 (.hv 12 (.hv 13 (.hv 14 (.lp 15 (.hv 16 (.done)))))))))))))))))) (by kernel_rfl) (by kernel_rfl) ?_
        (repeat (refine T_lp rfl (fun K hK => ?_); go_simp; refine hK _ ?_; clear hK K))
        refine T_ls1 (v := .slice B1 k d1) rfl rfl S0.out (fun x hx => (by obtain ⟨h0, h1, h2, h3, h4⟩ := FS.out x hx; go_simp)) (fun K hK => ?_)
        (go_simp; refine hK _ ?_; clear hK K)
        refine T_ls1 (v := .int .i64 (x : Int)) rfl rfl S0.out (fun x hx => (by obtain ⟨h0, h1, h2, h3, h4⟩ := FS.out x hx; go_simp)) (fun K hK => ?_)
        (go_simp; refine hK _ ?_; clear hK K)
        (repeat (refine T_lp rfl (fun K hK => ?_); go_simp; refine hK _ ?_; clear hK K))
        refine T_ls1 (v := .int .i64 f1) rfl rfl S0.out (fun x hx => (by obtain ⟨h0, h1, h2, h3, h4⟩ := FS.out x hx; go_simp)) (fun K hK => ?_)
        (go_simp; refine hK _ ?_; clear hK K)
        refine T_ls1 (v := .int .i64 (y : Int)) rfl rfl S0.out (fun x hx => (by obtain ⟨h0, h1, h2, h3, h4⟩ := FS.out x hx; go_simp)) (fun K hK => ?_)
        (go_simp; refine hK _ ?_; clear hK K)
        (repeat (refine T_lp rfl (fun K hK => ?_); go_simp; refine hK _ ?_; clear hK K))
        refine T_ls1 (v := .int .i64 f2) rfl rfl S0.out (fun x hx => (by obtain ⟨h0, h1, h2, h3, h4⟩ := FS.out x hx; go_simp)) (fun K hK => ?_)
        (go_simp; refine hK _ ?_; clear hK K)
        refine T_hvS rfl (fun K hK => ?_)
        go_simp
        go_at_call 86
        refine (plStep_any _ _ _).mono ?_
        rintro e w7 ⟨rfl, hb7⟩
        have hb57 : Below w5.heap.size w5 w7 := (Below.refl _ _).drew.trans (hb7.mono (by simp))
        have hbr7 : Below wr.heap.size wr w7 := EB.out.trans (hb57.mono EB.out.size)
        have OW7 := Lib.hid (own_below OWN.out hbr7)
        have BX7 := Lib.hid ((hbr7.block w3.heap.size (by omega)).trans HBX.out)
        have HB7 := Lib.hid (HBL.out.trans (hbr7.mono (by omega)))
        have hs7 : w3.heap.size + 1 ≤ w7.heap.size := by have := hbr7.size; omega
        have HB57 := Lib.hid hb57
        clear hb7 hbr7
        go_simp
        refine hK _ _ hb57 ?_
        clear hK K hb57
        refine T_hvS rfl (fun K hK => ?_)
        go_simp
        refine hK _ _ (HB57.out.alloc HB57.out.size _) ?_
        clear hK K
        refine T_hv rfl (by kernel_rfl) (fun K hK => ?_)
        refine step_app2 Try.underlying24 info_step rfl (by omega) rfl (.tmp 27) (.tmp 39) rfl (w3.heap.size + 1) k _ (fl (qs.take k)) rfl (World.ownsRow.alloc OW7.out _) w7.heap.size 1 (I (leastI f1 f2)) (I (mostI f1 f2)) rfl (by simp) (by simp) rfl rfl (by omega) (by simp; omega) ?_
        intro A4 c4 w8 hown8 hg8 hbel8
        have bx8 : w8.heap[w3.heap.size]? = _ := (hbel8.block w3.heap.size (by omega)).trans ((Below.heap_alloc w7 _ w3.heap.size (by omega)).trans BX7.out)
        obtain ⟨_, k1, _, _, kf1, _⟩ := cells3 bx8
        have BX8 := Lib.hid bx8
        clear bx8
        (go_simp; refine hK _ _ ?_; clear hK K)
        (repeat (first | (refine T_lp rfl (fun K hK => ?_); go_simp; refine hK _ ?_; clear hK K) | (refine T_ls rfl rfl (fun K hK => ?_); go_simp; refine hK _ ?_; clear hK K)))
        (refine T_hv rfl (by kernel_rfl) (fun K hK => ?_); go_simp; refine hK _ _ ?_; clear hK K)
        refine T_done ?_
        go_wp2
        go_roundw
        case rel =>
          refine ⟨k + 1, A4, c4, by omega, by go_num, ?_, ?_, (((HB7.out.alloc (show w3.heap.size ≤ w7.heap.size by omega) _).trans (hbel8.mono (show w3.heap.size ≤ w3.heap.size + 1 by omega))).setCell (by simp) _)⟩
          · rw [heap_setCell_same w8 _ 1 _ _ _ BX8.out]; rfl
          · have h := own_set (o := 1) hown8 BX8.out (by decide) (.slice A4 (k + 1) c4)
            rw [HST.out, fl_snoc]
            exact h
        case measure => simp [intOf]; omega
      · have hk' : k = p.s.length := by omega
        subst hk'
        rw [List.take_of_length_le (by have := HQSL.out; omega)] at hown
        have OWN := Lib.hid hown
        have BX := Lib.hid hbox
        have HB5 := Lib.hid hbel
        clear a0 a1 b0 b1 b2 hbox hown hbel hbw
        go_wp2
        go_loopw [46] (fun iv wq => ∃ (j : Nat) (B2 : Option Addr) (d2 : Nat), j ≤ p.o.length ∧ iv = .int .i64 j ∧ wq.heap[w3.heap.size]? = some (.cells #[.int .i64 p.n, .slice B1 p.s.length d1, .slice B2 j d2] 27 (0, 0)) ∧
          wq.ownsRow (w3.heap.size + 1) 91 2 (.slice B1 p.s.length d1) p.s.length (fl qs) ∧ wq.ownsRow (w3.heap.size + 1) 3 1 (.slice B2 j d2) j ((qo.take j).map I) ∧ Below w3.heap.size w3 wq) (fun i _ => p.o.length - (intOf i).toNat)
        case atStart => exact ⟨0, none, 0, by omega, rfl, BX.out, OWN.out, World.ownsRow_nil _ _ _ _, HB5.out⟩
        case round =>
          obtain ⟨j, B2, d2, hj, rfl, hbox, hown, howo, hbel⟩ := hrel
          have hszr : w3.heap.size + 1 ≤ wr.heap.size := (Array.getElem?_eq_some_iff.1 hbox).1
          obtain ⟨a0, a1, a2, _, _, _⟩ := cells3 ((hbel.block w.heap.size (by omega)).trans R03.out)
          obtain ⟨b0, b1, b2, _, _, _⟩ := cells3 hbox
          have hbw : Below w.heap.size w wr := HB3.out.trans (hbel.mono (by omega))
          by_cases hlt : j < p.o.length
          · obtain ⟨o1, o2⟩ := HINO.out _ (List.getElem_mem hlt)
            obtain ⟨ob, oo, rfl, hob, hoc⟩ := (H.out.below' hbw hB).2.int hlt
            obtain ⟨v, hv⟩ : ∃ v : Nat, p.o[j] = v := ⟨(p.o[j]).toNat, by omega⟩
            have hvl : v < E.length := by omega
            have ivl : (v : Int) < (E.length : Int) := by omega
            have hst := HOK'.out j hlt
            rw [hv] at hoc hst
            obtain ⟨fb, fo, hA3, hfb, hcx⟩ := (HFR.out.below hbel).int (show v < (firstK E E.length).length by rw [firstK_length]; exact hvl)
            subst hA3
            rw [firstK_at hvl] at hcx
            obtain ⟨f1, hf1⟩ : ∃ f, shF E (v : Int) = f := ⟨_, rfl⟩
            rw [hf1] at hcx hst
            have HST := Lib.hid hst
            have OWS := Lib.hid hown
            have OWO := Lib.hid howo
            have HBX := Lib.hid hbox
            have HBL := Lib.hid hbel
            have FS := Lib.hid (show ∀ x', Below wr.heap.size wr x' → x'.cell? ⟨w3.heap.size, 2, none⟩ = some (.slice B2 j d2) ∧ x'.cell? ⟨fb, fo + v, none⟩ = some (.int .i64 f1) from fun x' hx' =>
              ⟨(hx'.cell (p := ⟨w3.heap.size, 2, none⟩) (by simp only []; omega)).trans b2, (hx'.cell (p := ⟨fb, fo + v, none⟩) (by simp only []; omega)).trans hcx⟩)
            have S0 := Lib.hid (show Below wr.heap.size wr wr.drew from (Below.refl _ _).drew)
            clear hst hown howo hbox hbel hv o1 o2 hf1 hbw a0 a1 b0 b1 b2 hcx
            go_wp2
            refine wp_region_T (fun x : World => Below wr.heap.size wr x) [0, 1, 2, 3, 4, 5, 8] [1, 5] (.lp 0 (.lp 2 (.lp 3 (.lp 4 (.ls 1 (.ls 5 (.hv 6 (.hv 7 (.lp 8 (.hv 9 (.done))))))))))) (by kernel_rfl) (by kernel_rfl) ?_
            (repeat (refine T_lp rfl (fun K hK => ?_); go_simp; refine hK _ ?_; clear hK K))
            refine T_ls1 (v := .slice B2 j d2) rfl rfl S0.out (fun x hx => (by obtain ⟨h0, h1⟩ := FS.out x hx; go_simp)) (fun K hK => ?_)
            (go_simp; refine hK _ ?_; clear hK K)
            refine T_ls1 (v := .int .i64 f1) rfl rfl S0.out (fun x hx => (by obtain ⟨h0, h1⟩ := FS.out x hx; go_simp)) (fun K hK => ?_)
            (go_simp; refine hK _ ?_; clear hK K)
            refine T_hvS rfl (fun K hK => ?_)
            go_simp
            refine hK _ _ (S0.out.alloc (Nat.le_refl _) _) ?_
            clear hK K
            refine T_hv rfl (by kernel_rfl) (fun K hK => ?_)
            refine step_app1 Try.underlying25 info_int rfl (by omega) rfl (.tmp 51) (.tmp 56) rfl (w3.heap.size + 1) j _ ((qo.take j).map I) rfl (World.ownsRow.alloc OWO.out _) wr.heap.size 1 (I f1) rfl (by simp) rfl (by omega) (by simp; omega) ?_
            intro A4 c4 w8 hown8 hg8 hbel8
            have bx8 : w8.heap[w3.heap.size]? = _ := (hbel8.block w3.heap.size (by omega)).trans ((Below.heap_alloc wr _ w3.heap.size (by omega)).trans HBX.out)
            obtain ⟨_, _, k2, _, _, kf2⟩ := cells3 bx8
            have oa : (wr.alloc (Obj.cells #[Value.int IntKind.i64 f1] 3)).drew.ownsRow _ _ _ _ _ _ := World.ownsRow.alloc OWS.out (Obj.cells #[Value.int IntKind.i64 f1] 3)
            have os8 := World.ownsRow.kept oa hg8 (own_ne OWS.out OWO.out (by decide))
            have BX8 := Lib.hid bx8
            have OS8 := Lib.hid os8
            clear bx8 os8 hg8 oa
            (go_simp; refine hK _ _ ?_; clear hK K)
            (repeat (first | (refine T_lp rfl (fun K hK => ?_); go_simp; refine hK _ ?_; clear hK K) | (refine T_ls rfl rfl (fun K hK => ?_); go_simp; refine hK _ ?_; clear hK K)))
            (refine T_hv rfl (by kernel_rfl) (fun K hK => ?_); go_simp; refine hK _ _ ?_; clear hK K)
            refine T_done ?_
            go_wp2
            go_roundw
            case rel =>
              refine ⟨j + 1, A4, c4, by omega, by go_num, ?_, own_set (o := 2) OS8.out BX8.out (by decide) _, ?_, ((((HBL.out.alloc (show w3.heap.size ≤ wr.heap.size by omega) _).drew).trans (hbel8.mono (show w3.heap.size ≤ w3.heap.size + 1 by omega))).setCell (by simp) _)⟩
              · rw [heap_setCell_same w8 _ 2 _ _ _ BX8.out]; rfl
              · rw [HST.out, List.map_append]
                exact own_set (o := 2) hown8 BX8.out (by decide) (.slice A4 (j + 1) c4)
            case measure => simp [intOf]; omega
          · have hj' : j = p.o.length := by omega
            subst hj'
            rw [List.take_of_length_le (by have := HQOL.out; omega)] at howo
            have r1 := (hbel.block (w.heap.size + 1) (by omega)).trans R13.out
            have hq : RdP wr wr.heap.size B1 B2 ⟨p.n, qs, qo⟩ := ⟨by
              show Rd _ _ 2 B1 qs.length (fl qs)
              rw [HQSL.out]
              exact Rd.of_own hown, by
              show Rd _ _ 1 B2 qo.length (qo.map I)
              rw [HQOL.out]
              exact Rd.of_own howo⟩
            have HQ := Lib.hid hq
            have R1r := Lib.hid r1
            have HBW := Lib.hid hbw
            have FS := Lib.hid (show ∀ x', Below wr.heap.size wr x' → x'.cell? ⟨w3.heap.size, 0, none⟩ = some (.int .i64 p.n) ∧ x'.cell? ⟨w3.heap.size, 1, none⟩ = some (.slice B1 p.s.length d1) ∧ x'.cell? ⟨w3.heap.size, 2, none⟩ = some (.slice B2 p.o.length d2) from fun x' hx' =>
              ⟨(hx'.cell (p := ⟨w3.heap.size, 0, none⟩) (by simp only []; omega)).trans b0, (hx'.cell (p := ⟨w3.heap.size, 1, none⟩) (by simp only []; omega)).trans b1, (hx'.cell (p := ⟨w3.heap.size, 2, none⟩) (by simp only []; omega)).trans b2⟩)
            have S0 := Lib.hid (show Below wr.heap.size wr wr.drew from (Below.refl _ _).drew)
            clear hq r1 hbw hbox hown howo hbel a0 a1 a2 b0 b1 b2
            go_wp2
            refine wp_region_T (fun x : World => Below wr.heap.size wr x) [0, 1, 5] [0, 1] (.ls 0 (.ls 1 (.hv 2 (.hv 3 (.hv 4 (.lp 5 (.done))))))) (by kernel_rfl) (by kernel_rfl) ?_
            refine T_ls1 (v := .agg #[.int .i64 p.n, .slice B1 p.s.length d1, .slice B2 p.o.length d2]) rfl rfl S0.out (fun x hx => (by obtain ⟨h0, h1, h2⟩ := FS.out x hx; go_simp)) (fun K hK => ?_)
            (go_simp; refine hK _ ?_; clear hK K)
            refine T_ls1 (v := .agg #[.int .i64 p.n, .slice B1 p.s.length d1, .slice B2 p.o.length d2]) rfl rfl S0.out (fun x hx => (by obtain ⟨h0, h1, h2⟩ := FS.out x hx; go_simp)) (fun K hK => ?_)
            (go_simp; refine hK _ ?_; clear hK K)
            refine T_hvS rfl (fun K hK => ?_)
            go_simp
            go_at_call 80
            refine (HPU.out wr.drew B1 B2 d1 d2 HQ.out.drew).mono ?_
            rintro e w5 ⟨A5, c5, rfl, hown5, hb5⟩
            have hb45 : Below wr.heap.size wr w5 := (Below.refl _ _).drew.trans (hb5.mono (by simp))
            have HO5 := Lib.hid hown5
            have HB45 := Lib.hid hb45
            have hs5 : wr.heap.size ≤ w5.heap.size := hb45.size
            clear hown5 hb5
            go_simp
            refine hK _ _ hb45 ?_
            clear hK K hb45
            refine T_hvS rfl (fun K hK => ?_)
            go_simp
            go_at_call 82
            refine (HPK.out w5 A5 c5 B1 B2 d1 d2 ((HQ.out.below HB45.out).more hs5) HO5.out.rd).mono ?_
            rintro e w6 ⟨T1, T2, u1, u2, rfl, hs6, ho6, hb6⟩
            have hb46 : Below wr.heap.size wr w6 := HB45.out.trans (hb6.mono hs5)
            have r6 := (hb46.block (w.heap.size + 1) (by omega)).trans R1r.out
            obtain ⟨t0, t1, t2, g0, g1, g2⟩ := cells3 r6
            have R6 := Lib.hid r6
            have HS6 := Lib.hid (own_base hs6 (show w.heap.size ≤ w5.heap.size by have := HBW.out.size; omega))
            have HO6 := Lib.hid (own_base ho6 (show w.heap.size ≤ w5.heap.size by have := HBW.out.size; omega))
            have HB6 := Lib.hid (HBW.out.trans (hb46.mono (by have := HBW.out.size; omega)))
            go_simp
            refine hK _ _ hb46 ?_
            clear hK K r6 hs6 ho6 hb6 hb46
            (refine T_hv rfl (by kernel_rfl) (fun K hK => ?_); go_simp; refine hK _ _ ?_; clear hK K)
            (repeat (refine T_lp rfl (fun K hK => ?_); go_simp; refine hK _ ?_; clear hK K))
            refine T_done ?_
            go_wp2
            have hkO : (keepO ⟨p.n, qs, qo⟩ N U qo.length).length = p.o.length := by rw [keepO_len ⟨p.n, qs, qo⟩ N U (Nat.le_refl _)]; exact HQOL.out
            have hkS : (keepS ⟨p.n, qs, qo⟩ N U U.length).length = U.length := keepS_len ⟨p.n, qs, qo⟩ N U (Nat.le_refl _)
            refine bodyPost_ret (v := .tuple #[.agg #[.int .i64 (N : Int), .slice T1 U.length u1, .slice T2 p.o.length u2], .bool true]) (by simp [results, Try.results49, go_sem, t0, t1, t2]) rfl ⟨T1, T2, u1, u2, ?_, ?_, ?_⟩
            · rw [HT.out, HG.out]
              simp only
              rw [hkS, hkO, HN.out]
            · rw [HT.out]
              have ho := HO6.out
              rw [← HQOL.out] at ho
              exact owP_of3 HS6.out (by rw [HQOL.out] at ho ⊢; exact ho) R6.out (by decide) (by decide) hkS hkO _ _ _
            · exact ((HB6.out.setCell (by simp) _).setCell (by simp) _).setCell (by simp) _
end Go.Proofs.Ytppfpdobdoaoiaa
