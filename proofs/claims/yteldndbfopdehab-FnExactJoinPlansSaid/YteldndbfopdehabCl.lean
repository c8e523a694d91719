/- JoinPlans, of the program. -/
import Derived.Test.YteldndbfopdehabCj
namespace Go.Proofs.Yteldndbfopdehab
open Go.RowKit

set_option maxRecDepth 100000 in
set_option maxHeartbeats 4000000 in
theorem implJoin_any (B : Nat) (A1 A2 A3 A4 : Option Addr) (c1 c2 c3 c4 : Nat) (p q : Pl) (w : World) (hB : B ≤ w.heap.size) (hls : p.s.length ≤ 2000000) (hlo : p.o.length ≤ 2000000) (hls' : q.s.length ≤ 2000000) (hlo' : q.o.length ≤ 2000000) (hr : RdP w B A1 A2 p) (hr' : RdP w B A3 A4 q) :
    Calls Try.prog 30 #[.agg #[.int .i64 p.n, .slice A1 p.s.length c1, .slice A2 p.o.length c2], .agg #[.int .i64 q.n, .slice A3 q.s.length c3, .slice A4 q.o.length c4]] w fun e w' =>
      ∃ R1 R2 v1 v2, e = .returned (.tuple #[.agg #[.int .i64 (joinR p q).n, .slice R1 (joinR p q).s.length v1, .slice R2 (joinR p q).o.length v2], .bool (joinB p q)]) ∧ OwP w' w.heap.size R1 R2 v1 v2 (joinR p q) ∧ Below w.heap.size w w' := by
  have H := Lib.hid hr
  have H' := Lib.hid hr'
  clear hr hr'
  obtain ⟨gp, hgp⟩ : ∃ x, good p = x := ⟨_, rfl⟩
  obtain ⟨gq, hgq⟩ : ∃ x, good q = x := ⟨_, rfl⟩
  obtain ⟨gd, hgd⟩ : ∃ x, good (joinD p q) = x := ⟨_, rfl⟩
  have HGP := Lib.hid hgp
  have HGQ := Lib.hid hgq
  have HGD := Lib.hid hgd
  go_enter Try.func30, Try.ntmps30
  go_wp2_with fail
  go_at_call 64
  generalize hw1 : World.alloc (World.alloc (World.alloc w _) _) _ = w1
  obtain ⟨q0, q1, q2, xs, xb⟩ := boxesPQZ hw1
  clear hw1
  have hC := implIsPlan_any w.heap.size A1 A2 c1 c2 p w1 (by omega) hls hlo ((H.out.below' xb hB).more hB)
  rw [hgp] at hC
  refine hC.mono ?_
  rintro e w2 ⟨rfl, hb2⟩
  have r0 := (hb2.block w.heap.size (by omega)).trans q0
  have r1 := (hb2.block (w.heap.size + 1) (by omega)).trans q1
  have r2 := (hb2.block (w.heap.size + 2) (by omega)).trans q2
  obtain ⟨y3, y4, y5, _, _, _⟩ := cells3 r1
  obtain ⟨t0, t1, t2, g0, g1, g2⟩ := cells3 r2
  have HB2 := Lib.hid (xb.trans (hb2.mono (show w.heap.size ≤ w1.heap.size by omega)))
  have hs2 : w.heap.size + 3 ≤ w2.heap.size := by have := hb2.size; omega
  have hC2 := fun W hBW hrW => implIsPlan_any w.heap.size A3 A4 c3 c4 q W hBW hls' hlo' hrW
  rw [hgq] at hC2
  have HC2 := Lib.hid hC2
  have R0 := Lib.hid r0
  have R1 := Lib.hid r1
  have R2 := Lib.hid r2
  clear hC hgp hgq hgd q0 q1 q2 xs xb hb2 hC2 r0 r1 r2
  cases gp with
  | false =>
    have ea : joinB p q = false := by simp [joinB, HGP.out]
    have ER := Lib.hid (joinR_false ea)
    have EB := Lib.hid ea
    clear ea
    go_wp2
    refine bodyPost_ret (v := .tuple #[.agg #[.int .i64 0, .slice none 0 0, .slice none 0 0], .bool false]) (by simp [results, Try.results30, go_sem, t0, t1, t2]) rfl ⟨none, none, 0, 0, by rw [ER.out, EB.out]; rfl, by rw [ER.out]; exact OwP.zero _ _, ?_⟩
    exact ((HB2.out.setCell (show w.heap.size ≤ w.heap.size + 2 by omega) _).setCell (show w.heap.size ≤ w.heap.size + 2 by omega) _).setCell (show w.heap.size ≤ w.heap.size + 2 by omega) _
  | true =>
    go_wp2_with fail
    go_at_call 64
    refine (HC2.out w2 (by omega) ((H'.out.below' HB2.out hB).more hB)).mono ?_
    rintro e w3 ⟨rfl, hb3⟩
    clear y3 y4 y5 t0 t1 t2 g0 g1 g2
    have r0 := (hb3.block w.heap.size (by omega)).trans R0.out
    have r1 := (hb3.block (w.heap.size + 1) (by omega)).trans R1.out
    have r2 := (hb3.block (w.heap.size + 2) (by omega)).trans R2.out
    obtain ⟨y0, y1, y2, _, _, _⟩ := cells3 r0
    obtain ⟨y3, y4, y5, _, _, _⟩ := cells3 r1
    obtain ⟨t0, t1, t2, g0, g1, g2⟩ := cells3 r2
    have HB3 := Lib.hid (HB2.out.trans (hb3.mono (by omega)))
    have hs3 : w.heap.size + 3 ≤ w3.heap.size := by have := hb3.size; omega
    have Q0 := Lib.hid r0
    have Q1 := Lib.hid r1
    have Q2 := Lib.hid r2
    clear r0 r1 r2 hb3 R0 R1 R2
    cases gq with
    | false =>
      have ea : joinB p q = false := by simp [joinB, HGQ.out]
      have ER := Lib.hid (joinR_false ea)
      have EB := Lib.hid ea
      clear ea
      go_wp2
      refine bodyPost_ret (v := .tuple #[.agg #[.int .i64 0, .slice none 0 0, .slice none 0 0], .bool false]) (by simp [results, Try.results30, go_sem, t0, t1, t2]) rfl ⟨none, none, 0, 0, by rw [ER.out, EB.out]; rfl, by rw [ER.out]; exact OwP.zero _ _, ?_⟩
      exact ((HB3.out.setCell (show w.heap.size ≤ w.heap.size + 2 by omega) _).setCell (show w.heap.size ≤ w.heap.size + 2 by omega) _).setCell (show w.heap.size ≤ w.heap.size + 2 by omega) _
    | true =>
      by_cases hpq : p.n = q.n
      · obtain ⟨N, hN, n1, n6, hs40, ho6, hok, hout, _⟩ := good_facts HGP.out
        obtain ⟨N', hN', n1', n6', hs40', ho6', hok', hout', _⟩ := good_facts HGQ.out
        obtain rfl : N = N' := by omega
        have hpe : (p.n == q.n) = true := by simpa using hpq
        have ebd : joinB p q = gd := by
          unfold joinB
          rw [HGP.out, HGQ.out, HGD.out, decide_eq_true hpq]
          rfl
        have EB := Lib.hid ebd
        have eNm : ups N ++ tailN (p.n + p.s.length) q.s.length = joinNm p q := by
          unfold joinNm
          rw [show p.n.toNat = N by omega]
        obtain ⟨O2, hO2⟩ : ∃ O, (q.o.map fun x => (joinNm p q).getD x.toNat 0) = O := ⟨_, rfl⟩
        have hO2l : O2.length = q.o.length := by rw [← hO2]; simp
        have eDo : (joinD p q).o = p.o ++ O2 := by rw [← hO2]; rfl
        have FS := Lib.hid (show ∀ x, Below w3.heap.size w3 x → (x.cell? ⟨w.heap.size, 0, none⟩ = some (.int .i64 p.n) ∧ x.cell? ⟨w.heap.size, 1, none⟩ = some (.slice A1 p.s.length c1) ∧ x.cell? ⟨w.heap.size, 2, none⟩ = some (.slice A2 p.o.length c2)) ∧ (x.cell? ⟨w.heap.size + 1, 0, none⟩ = some (.int .i64 q.n) ∧ x.cell? ⟨w.heap.size + 1, 1, none⟩ = some (.slice A3 q.s.length c3) ∧ x.cell? ⟨w.heap.size + 1, 2, none⟩ = some (.slice A4 q.o.length c4)) from fun x hx =>
          ⟨⟨(hx.cell (p := ⟨w.heap.size, 0, none⟩) (by simp only []; omega)).trans y0, (hx.cell (p := ⟨w.heap.size, 1, none⟩) (by simp only []; omega)).trans y1, (hx.cell (p := ⟨w.heap.size, 2, none⟩) (by simp only []; omega)).trans y2⟩,
            ⟨(hx.cell (p := ⟨w.heap.size + 1, 0, none⟩) (by simp only []; omega)).trans y3, (hx.cell (p := ⟨w.heap.size + 1, 1, none⟩) (by simp only []; omega)).trans y4, (hx.cell (p := ⟨w.heap.size + 1, 2, none⟩) (by simp only []; omega)).trans y5⟩⟩)
        have S0 := Lib.hid (show Below w3.heap.size w3 w3.drew from (Below.refl _ _).drew)
        have hIf := fun W E1 E2 e1 e2 hrW => planOrNone_any W.heap.size E1 E2 e1 e2 (joinD p q) W (Nat.le_refl _) (by rw [joinD_s]; omega) (by rw [joinD_o]; omega) hrW
        have en : (joinD p q).n = p.n := rfl
        rw [joinD_s, joinD_o, HGD.out, en] at hIf
        have HIF := Lib.hid hIf
        have HO2L := Lib.hid hO2l
        have EDO := Lib.hid eDo
        have hin : ∀ st ∈ q.s, 0 ≤ st.1 ∧ st.1 ≤ st.2 ∧ st.2 < ((ups N).length : Int) + q.s.length := fun st hst => by
          obtain ⟨i, hi, rfl⟩ := List.getElem_of_mem hst
          obtain ⟨i1, i2, i3⟩ := hok' i hi
          rw [ups_length]
          exact ⟨i1, i2, by omega⟩
        have hU := fun W => firstNumbers_any N W (by omega)
        rw [← hN'] at hU
        have hT := fun W A c h1 h2 h3 => stepsBehind_any W.heap.size N A1 A2 A3 A4 A c1 c2 c3 c4 c p q (ups N) W hN (by omega) (by omega) (by omega) (by rw [ups_length]; omega) (by rw [ups_length]; omega) (Nat.le_refl _) hin h1 h2 h3
        rw [ups_length, eNm] at hT
        have hnl : (joinNm p q).length = N + q.s.length := by rw [← eNm]; simp [ups, tailN]
        have hRn := fun W B' A A' c c' hBW h1 h2 => renamed_any B' A A' c c' q.o (joinNm p q) W (by omega) hBW (fun x hx => by
          obtain ⟨o1, o2⟩ := hout' x hx
          rw [hnl]
          exact ⟨o1, by omega⟩) h1 h2
        rw [hnl, hO2] at hRn
        have HRN := Lib.hid hRn
        have HNL := Lib.hid hnl
        have HU := Lib.hid hU
        have HT := Lib.hid hT
        clear ebd hU hT hRn hnl hIf en hok hout hok' hout' hN hN' hpq eNm hO2 hO2l eDo hin
        go_wp2
        clear y0 y1 y2 y3 y4 y5 t0 t1 t2 g0 g1 g2
        refine wp_region_T (fun x : World => Below w3.heap.size w3 x) [0, 1, 2, 3, 6, 7, 8, 9, 10] [0, 1, 3] (.lp 2 (.ls 0 (.ls 1 (.ls 3 (.hv 4 (.hv 5 (.lp 6 (.lp 7 (.lp 8 (.lp 9 (.lp 10 (.done)))))))))))) (by kernel_rfl) (by kernel_rfl) ?_
        (repeat (refine T_lp rfl (fun K hK => ?_); go_simp; refine hK _ ?_; clear hK K))
        refine T_ls1 (v := .agg #[.int .i64 p.n, .slice A1 p.s.length c1, .slice A2 p.o.length c2]) rfl rfl S0.out (fun x hx => (by obtain ⟨⟨h0, h1, h2⟩, ⟨h3, h4, h5⟩⟩ := FS.out x hx; go_simp)) (fun K hK => ?_)
        (go_simp; refine hK _ ?_; clear hK K)
        refine T_ls1 (v := .agg #[.int .i64 q.n, .slice A3 q.s.length c3, .slice A4 q.o.length c4]) rfl rfl S0.out (fun x hx => (by obtain ⟨⟨h0, h1, h2⟩, ⟨h3, h4, h5⟩⟩ := FS.out x hx; go_simp)) (fun K hK => ?_)
        (go_simp; refine hK _ ?_; clear hK K)
        refine T_ls1 (v := .int .i64 q.n) rfl rfl S0.out (fun x hx => (by obtain ⟨⟨h0, h1, h2⟩, ⟨h3, h4, h5⟩⟩ := FS.out x hx; go_simp)) (fun K hK => ?_)
        (go_simp; refine hK _ ?_; clear hK K)
        refine T_hvS rfl (fun K hK => ?_)
        go_simp
        go_at_call 69
        refine (HU.out w3.drew).mono ?_
        rintro e wa ⟨A5, c5, rfl, hua, hba⟩
        have hb3a : Below w3.heap.size w3 wa := S0.out.trans (hba.mono (by simp))
        have hs3a : w3.heap.size ≤ wa.heap.size := hb3a.size
        have hua' : OwI wa w3.drew.heap.size (.slice A5 (ups N).length c5) (ups N) := by rw [ups_length]; exact hua
        have RU := Lib.hid (show Rd wa wa.heap.size 1 A5 N ((ups N).map I) from by
          have h := Rd.of_own hua'
          rw [ups_length] at h
          exact h)
        clear hua hua' hba
        go_simp
        refine hK _ _ hb3a ?_
        clear hK K
        refine T_hvS rfl (fun K hK => ?_)
        go_simp
        go_at_call 65
        have hbwa : Below w.heap.size w wa := HB3.out.trans (hb3a.mono (by omega))
        have hrp := (H.out.below' hbwa hB).more (show B ≤ wa.heap.size by omega)
        have hrq := (H'.out.below' hbwa hB).more (show B ≤ wa.heap.size by omega)
        refine (HT.out wa A5 c5 hrp.1 hrq.1 RU.out).mono ?_
        rintro e wb ⟨E1, Z, e1, ez, rfl, hsb, hzb, hbb⟩
        have hb3b : Below w3.heap.size w3 wb := hb3a.trans (hbb.mono hs3a)
        have HB3B := Lib.hid hb3b
        have hs3b : w3.heap.size ≤ wb.heap.size := hb3b.size
        have HSB := Lib.hid (show OwS wb w3.heap.size (.slice E1 (p.s.length + q.s.length) e1) (joinD p q).s from own_base hsb hs3a)
        have R2 := Lib.hid ((hb3b.block (w.heap.size + 2) (by omega)).trans Q2.out)
        have HBB := Lib.hid (HB3.out.trans (hb3b.mono (show w.heap.size ≤ w3.heap.size by omega)))
        have hsbw : w.heap.size ≤ wb.heap.size := by omega
        have SB := Lib.hid (show Below wb.heap.size wb wb.drew from (Below.refl _ _).drew)
        have hzb' : OwI wb wa.heap.size (.slice Z (joinNm p q).length ez) (joinNm p q) := by rw [HNL.out]; exact hzb
        have HZ := Lib.hid (show Rd wb wb.heap.size 1 Z (N + q.s.length) ((joinNm p q).map I) from by
          have h := Rd.of_own hzb'
          rw [HNL.out] at h
          exact h)
        clear hrp hrq hbwa hsb hzb hzb' hbb hb3a
        go_simp
        refine hK _ _ hb3b ?_
        clear hK K hb3b
        (repeat (refine T_lp rfl (fun K hK => ?_); go_simp; refine hK _ ?_; clear hK K))
        refine T_done ?_
        go_wp2
        refine wp_region_T (fun x : World => Below wb.heap.size wb x) [0, 1, 2, 3, 4, 5, 6, 7, 11, 13, 14, 16] [1, 4, 6] (.lp 0 (.lp 2 (.lp 3 (.lp 5 (.lp 7 (.ls 1 (.ls 4 (.ls 6 (.hv 8 (.hv 9 (.hv 10 (.lp 11 (.hv 12 (.lp 13 (.lp 14 (.hv 15 (.lp 16 (.done)))))))))))))))))) (by kernel_rfl) (by kernel_rfl) ?_
        (repeat (refine T_lp rfl (fun K hK => ?_); go_simp; refine hK _ ?_; clear hK K))
        refine T_ls1 (v := .int .i64 p.n) rfl rfl SB.out (fun x hx => (by obtain ⟨⟨h0, h1, h2⟩, ⟨h3, h4, h5⟩⟩ := FS.out x (HB3B.out.trans (hx.mono hs3b)); go_simp)) (fun K hK => ?_)
        (go_simp; refine hK _ ?_; clear hK K)
        refine T_ls1 (v := .slice A2 p.o.length c2) rfl rfl SB.out (fun x hx => (by obtain ⟨⟨h0, h1, h2⟩, ⟨h3, h4, h5⟩⟩ := FS.out x (HB3B.out.trans (hx.mono hs3b)); go_simp)) (fun K hK => ?_)
        (go_simp; refine hK _ ?_; clear hK K)
        refine T_ls1 (v := .slice A4 q.o.length c4) rfl rfl SB.out (fun x hx => (by obtain ⟨⟨h0, h1, h2⟩, ⟨h3, h4, h5⟩⟩ := FS.out x (HB3B.out.trans (hx.mono hs3b)); go_simp)) (fun K hK => ?_)
        (go_simp; refine hK _ ?_; clear hK K)
        refine T_hvS rfl (fun K hK => ?_)
        go_simp
        go_at_call 67
        have hrq := ((H'.out.below' HBB.out hB).more (show B ≤ wb.heap.size by omega)).2
        refine (HRN.out wb.drew wb.heap.size A4 Z c4 ez (by simp) hrq.drew HZ.out.drew).mono ?_
        rintro e wc ⟨A6, c6, rfl, hoc, hbc⟩
        have hbwc : Below wb.heap.size wb wc := SB.out.trans (hbc.mono (by simp))
        have hoc' : OwI wc wb.drew.heap.size (.slice A6 O2.length c6) O2 := by rw [HO2L.out]; exact hoc
        have RO2 := Lib.hid (show Rd wc wc.heap.size 1 A6 O2.length (O2.map I) from Rd.of_own hoc')
        have hsbc : wb.heap.size ≤ wc.heap.size := hbwc.size
        have HBWC := Lib.hid hbwc
        have HPO := Lib.hid (((H.out.below' HBB.out hB).more (show B ≤ wb.heap.size by omega)).2)
        clear hrq hoc hoc' hbc
        go_simp
        refine hK _ _ hbwc ?_
        clear hK K hbwc
        refine T_hvS rfl (fun K hK => ?_)
        go_simp
        refine hK _ _ (HBWC.out.alloc hsbc _) ?_
        clear hK K
        refine T_hvS rfl (fun K hK => ?_)
        go_simp
        go_at_call 70
        generalize hw7 : World.alloc wc _ = w7
        obtain ⟨f0, f1, es, eb⟩ := box2 hw7
        clear hw7
        have hb7 : Below wb.heap.size wb w7 := HBWC.out.trans (eb.mono hsbc)
        have hCc := concatI_any wc.heap.size wc.heap.size A2 A6 c2 c6 2 p.o O2 w7 (by omega) (by rw [HO2L.out]; omega) (by omega) f0 (by rw [HO2L.out]; exact f1) (by omega) ((HPO.out.below' hb7 (Nat.le_refl _)).more hsbc) (RO2.out.below' eb (Nat.le_refl _))
        rw [HO2L.out] at hCc
        refine hCc.mono ?_
        rintro e wd ⟨E2, e2, rfl, hown9, hb9⟩
        have hbd : Below wb.heap.size wb wd := hb7.trans (hb9.mono (by omega))
        have hod : OwI wd wb.heap.size (.slice E2 (p.o.length + q.o.length) e2) (joinD p q).o := by
          rw [EDO.out]
          exact own_base hown9 (show wb.heap.size ≤ w7.heap.size by omega)
        have hsd := own_below HSB.out hbd
        have hsd' : OwS wd w3.heap.size (.slice E1 (joinD p q).s.length e1) (joinD p q).s := by rw [joinD_s]; exact hsd
        have hod' : OwI wd wb.heap.size (.slice E2 (joinD p q).o.length e2) (joinD p q).o := by rw [joinD_o]; exact hod
        have RD := Lib.hid (show RdP wd wd.heap.size E1 E2 (joinD p q) from ⟨Rd.of_own hsd', Rd.of_own hod'⟩)
        have HSD := Lib.hid (show OwS wd w3.heap.size (.slice E1 (p.s.length + q.s.length) e1) (joinD p q).s from hsd)
        have HOD := Lib.hid hod
        have HBD := Lib.hid hbd
        have hsbd : wb.heap.size ≤ wd.heap.size := hbd.size
        clear hown9 hb9 hb7 hCc f0 f1 es eb hsd hsd' hod hod'
        go_simp
        refine hK _ _ hbd ?_
        clear hK K hbd
        (repeat (refine T_lp rfl (fun K hK => ?_); go_simp; refine hK _ ?_; clear hK K))
        refine T_hvS rfl (fun K hK => ?_)
        go_simp
        go_at_call 66
        refine (HIF.out wd E1 E2 e1 e2 RD.out).mono ?_
        rintro e w5 ⟨rfl, hb5⟩
        have hbn5 : Below wb.heap.size wb w5 := HBD.out.trans (hb5.mono hsbd)
        have r2 := (hbn5.block (w.heap.size + 2) (by omega)).trans R2.out
        obtain ⟨t0, t1, t2, g0, g1, g2⟩ := cells3 r2
        have Q5 := Lib.hid r2
        have HS5 := Lib.hid (own_base (own_below HSD.out hb5) (show w.heap.size ≤ w3.heap.size by omega))
        have HO5 := Lib.hid (own_base (own_below HOD.out hb5) hsbw)
        have HB5 := Lib.hid (HBB.out.trans (hbn5.mono hsbw))
        clear r2 hb5
        have hs5w : w.heap.size ≤ w5.heap.size := HB5.out.size
        cases gd with
        | false =>
          have ER := Lib.hid (joinR_false EB.out)
          simp only [selV, Bool.false_eq_true, if_false]
          go_simp
          refine hK _ _ hbn5 ?_
          clear hK K hbn5
          (repeat (refine T_lp rfl (fun K hK => ?_); go_simp; refine hK _ ?_; clear hK K))
          (refine T_hv rfl (by kernel_rfl) (fun K hK => ?_); go_simp; refine hK _ _ ?_; clear hK K)
          (repeat (refine T_lp rfl (fun K hK => ?_); go_simp; refine hK _ ?_; clear hK K))
          refine T_done ?_
          go_wp2
          refine bodyPost_ret (v := .tuple #[.agg #[.int .i64 0, .slice none 0 0, .slice none 0 0], .bool false]) (by simp [results, Try.results30, go_sem, t0, t1, t2]) rfl ⟨none, none, 0, 0, by rw [ER.out, EB.out]; rfl, by rw [ER.out]; exact OwP.zero _ _, ?_⟩
          exact ((HB5.out.setCell (show w.heap.size ≤ w.heap.size + 2 by omega) _).setCell (show w.heap.size ≤ w.heap.size + 2 by omega) _).setCell (show w.heap.size ≤ w.heap.size + 2 by omega) _
        | true =>
          have ER := Lib.hid (joinR_true EB.out)
          simp only [selV, if_true]
          go_simp
          refine hK _ _ hbn5 ?_
          clear hK K hbn5
          (repeat (refine T_lp rfl (fun K hK => ?_); go_simp; refine hK _ ?_; clear hK K))
          (refine T_hv rfl (by kernel_rfl) (fun K hK => ?_); go_simp; refine hK _ _ ?_; clear hK K)
          (repeat (refine T_lp rfl (fun K hK => ?_); go_simp; refine hK _ ?_; clear hK K))
          refine T_done ?_
          go_wp2
          refine bodyPost_ret (v := .tuple #[.agg #[.int .i64 p.n, .slice E1 (p.s.length + q.s.length) e1, .slice E2 (p.o.length + q.o.length) e2], .bool true]) (by simp [results, Try.results30, go_sem, t0, t1, t2]) rfl ⟨E1, E2, e1, e2, by rw [ER.out, EB.out, joinD_s, joinD_o]; rfl, ?_, ?_⟩
          · rw [ER.out]
            show OwP _ _ _ _ _ _ ⟨p.n, (joinD p q).s, (joinD p q).o⟩
            exact owP_of3 HS5.out HO5.out Q5.out (by decide) (by decide) (joinD_s p q) (joinD_o p q) _ _ _
          · exact ((HB5.out.setCell (show w.heap.size ≤ w.heap.size + 2 by omega) _).setCell (show w.heap.size ≤ w.heap.size + 2 by omega) _).setCell (show w.heap.size ≤ w.heap.size + 2 by omega) _
      · have hpe : (p.n == q.n) = false := by simpa using hpq
        have ea : joinB p q = false := by
          unfold joinB
          rw [decide_eq_false hpq]
          simp
        have ER := Lib.hid (joinR_false ea)
        have EB := Lib.hid ea
        clear ea hpq
        go_wp2
        refine bodyPost_ret (v := .tuple #[.agg #[.int .i64 0, .slice none 0 0, .slice none 0 0], .bool false]) (by simp [results, Try.results30, go_sem, t0, t1, t2]) rfl ⟨none, none, 0, 0, by rw [ER.out, EB.out]; rfl, by rw [ER.out]; exact OwP.zero _ _, ?_⟩
        exact ((HB3.out.setCell (show w.heap.size ≤ w.heap.size + 2 by omega) _).setCell (show w.heap.size ≤ w.heap.size + 2 by omega) _).setCell (show w.heap.size ≤ w.heap.size + 2 by omega) _
end Go.Proofs.Yteldndbfopdehab
