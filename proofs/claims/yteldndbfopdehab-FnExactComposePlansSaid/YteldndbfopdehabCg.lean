/- ComposePlans, of the program. -/
import Derived.Test.YteldndbfopdehabCe
namespace Go.Proofs.Yteldndbfopdehab
open Go.RowKit

set_option maxRecDepth 100000 in
set_option maxHeartbeats 4000000 in
theorem implCompose_any (B : Nat) (A1 A2 A3 A4 : Option Addr) (c1 c2 c3 c4 : Nat) (p q : Pl) (w : World) (hB : B ≤ w.heap.size) (hls : p.s.length ≤ 2000000) (hlo : p.o.length ≤ 2000000) (hls' : q.s.length ≤ 2000000) (hlo' : q.o.length ≤ 2000000) (hr : RdP w B A1 A2 p) (hr' : RdP w B A3 A4 q) :
    Calls Try.prog 28 #[.agg #[.int .i64 p.n, .slice A1 p.s.length c1, .slice A2 p.o.length c2], .agg #[.int .i64 q.n, .slice A3 q.s.length c3, .slice A4 q.o.length c4]] w fun e w' =>
      ∃ R1 R2 v1 v2, e = .returned (.tuple #[.agg #[.int .i64 (compR p q).n, .slice R1 (compR p q).s.length v1, .slice R2 (compR p q).o.length v2], .bool (compB p q)]) ∧ OwP w' w.heap.size R1 R2 v1 v2 (compR p q) ∧ Below w.heap.size w w' := by
  have H := Lib.hid hr
  have H' := Lib.hid hr'
  clear hr hr'
  obtain ⟨gp, hgp⟩ : ∃ x, good p = x := ⟨_, rfl⟩
  obtain ⟨gq, hgq⟩ : ∃ x, good q = x := ⟨_, rfl⟩
  obtain ⟨gd, hgd⟩ : ∃ x, good (compD p q) = x := ⟨_, rfl⟩
  have HGP := Lib.hid hgp
  have HGQ := Lib.hid hgq
  have HGD := Lib.hid hgd
  go_enter Try.func28, Try.ntmps28
  go_wp2_with fail
  go_at_call 64
  generalize hw1 : World.alloc (World.alloc (World.alloc w _) _) _ = w1
  obtain ⟨q0, q1, q2, xs, xb⟩ := boxesPQZ hw1
  clear hw1
  have hC := implIsPlan_any w.heap.size A1 A2 c1 c2 p w1 (by omega) hls hlo ((H.out.below' xb hB).more hB)
  rw [hgp] at hC
  refine hC.mono ?_
  rintro e w2 ⟨rfl, hb2⟩
  have r0 := (hb2.block w.heap.size (by omega)).trans q0
  have r1 := (hb2.block (w.heap.size + 1) (by omega)).trans q1
  have r2 := (hb2.block (w.heap.size + 2) (by omega)).trans q2
  obtain ⟨y3, y4, y5, _, _, _⟩ := cells3 r1
  obtain ⟨t0, t1, t2, g0, g1, g2⟩ := cells3 r2
  have HB2 := Lib.hid (xb.trans (hb2.mono (show w.heap.size ≤ w1.heap.size by omega)))
  have hs2 : w.heap.size + 3 ≤ w2.heap.size := by have := hb2.size; omega
  have hC2 := fun W hBW hrW => implIsPlan_any w.heap.size A3 A4 c3 c4 q W hBW hls' hlo' hrW
  rw [hgq] at hC2
  have HC2 := Lib.hid hC2
  have R0 := Lib.hid r0
  have R1 := Lib.hid r1
  have R2 := Lib.hid r2
  clear hC hgp hgq hgd q0 q1 q2 xs xb hb2 hC2 r0 r1 r2
  cases gp with
  | false =>
    have ea : compB p q = false := by simp [compB, HGP.out]
    have ER := Lib.hid (compR_false ea)
    have EB := Lib.hid ea
    clear ea
    go_wp2
    refine bodyPost_ret (v := .tuple #[.agg #[.int .i64 0, .slice none 0 0, .slice none 0 0], .bool false]) (by simp [results, Try.results28, go_sem, t0, t1, t2]) rfl ⟨none, none, 0, 0, by rw [ER.out, EB.out]; rfl, by rw [ER.out]; exact OwP.zero _ _, ?_⟩
    exact ((HB2.out.setCell (show w.heap.size ≤ w.heap.size + 2 by omega) _).setCell (show w.heap.size ≤ w.heap.size + 2 by omega) _).setCell (show w.heap.size ≤ w.heap.size + 2 by omega) _
  | true =>
    go_wp2_with fail
    go_at_call 64
    refine (HC2.out w2 (by omega) ((H'.out.below' HB2.out hB).more hB)).mono ?_
    rintro e w3 ⟨rfl, hb3⟩
    clear y3 y4 y5 t0 t1 t2 g0 g1 g2
    have r0 := (hb3.block w.heap.size (by omega)).trans R0.out
    have r1 := (hb3.block (w.heap.size + 1) (by omega)).trans R1.out
    have r2 := (hb3.block (w.heap.size + 2) (by omega)).trans R2.out
    obtain ⟨y0, y1, y2, _, _, _⟩ := cells3 r0
    obtain ⟨y3, y4, y5, _, _, _⟩ := cells3 r1
    obtain ⟨t0, t1, t2, g0, g1, g2⟩ := cells3 r2
    have HB3 := Lib.hid (HB2.out.trans (hb3.mono (by omega)))
    have hs3 : w.heap.size + 3 ≤ w3.heap.size := by have := hb3.size; omega
    have Q0 := Lib.hid r0
    have Q1 := Lib.hid r1
    have Q2 := Lib.hid r2
    clear r0 r1 r2 hb3 R0 R1 R2
    cases gq with
    | false =>
      have ea : compB p q = false := by simp [compB, HGQ.out]
      have ER := Lib.hid (compR_false ea)
      have EB := Lib.hid ea
      clear ea
      go_wp2
      refine bodyPost_ret (v := .tuple #[.agg #[.int .i64 0, .slice none 0 0, .slice none 0 0], .bool false]) (by simp [results, Try.results28, go_sem, t0, t1, t2]) rfl ⟨none, none, 0, 0, by rw [ER.out, EB.out]; rfl, by rw [ER.out]; exact OwP.zero _ _, ?_⟩
      exact ((HB3.out.setCell (show w.heap.size ≤ w.heap.size + 2 by omega) _).setCell (show w.heap.size ≤ w.heap.size + 2 by omega) _).setCell (show w.heap.size ≤ w.heap.size + 2 by omega) _
    | true =>
      by_cases hpq : (p.o.length : Int) = q.n
      · obtain ⟨N, hN, n1, n6, hs40, ho6, hok, hout, _⟩ := good_facts HGP.out
        obtain ⟨N', hN', n1', n6', hs40', ho6', hok', hout', _⟩ := good_facts HGQ.out
        obtain rfl : N' = p.o.length := by omega
        have hpe : ((p.o.length : Int) == q.n) = true := by simpa using hpq
        have ebd : compB p q = gd := by
          unfold compB
          rw [HGP.out, HGQ.out, HGD.out, decide_eq_true hpq]
          rfl
        have EB := Lib.hid ebd
        have hin : ∀ st ∈ q.s, 0 ≤ st.1 ∧ st.1 ≤ st.2 ∧ st.2 < (p.o.length : Int) + q.s.length := fun st hst => by
          obtain ⟨i, hi, rfl⟩ := List.getElem_of_mem hst
          obtain ⟨i1, i2, i3⟩ := hok' i hi
          exact ⟨i1, i2, by omega⟩
        have hT := fun W hBW h1 h2 h3 => stepsBehind_any w.heap.size N A1 A2 A3 A4 A2 c1 c2 c3 c4 c2 p q p.o W hN (by omega) (by omega) (by omega) (by omega) (by omega) hBW hin h1 h2 h3
        have hnl : (compNm p q).length = p.o.length + q.s.length := by simp [compNm, tailN]
        have hRn := fun W B' A A' c c' hBW h1 h2 => renamed_any B' A A' c c' q.o (compNm p q) W (by omega) hBW (fun x hx => by
          obtain ⟨o1, o2⟩ := hout' x hx
          rw [hnl]
          exact ⟨o1, by omega⟩) h1 h2
        rw [hnl] at hRn
        have hIf := fun W E1 E2 e1 e2 hrW => planOrNone_any W.heap.size E1 E2 e1 e2 (compD p q) W (Nat.le_refl _) (by rw [compD_s]; omega) (by rw [compD_o]; omega) hrW
        have en : (compD p q).n = p.n := rfl
        rw [compD_s, compD_o, HGD.out, en] at hIf
        have HT := Lib.hid hT
        have HRN := Lib.hid hRn
        have HNL := Lib.hid hnl
        have HIF := Lib.hid hIf
        clear ebd hT hRn hnl hIf en hok hout hok' hout' hN hN' hpq hin
        go_wp2_with fail
        go_at_call 65
        have hrp := (H.out.below' HB3.out hB).more hB
        have hrq := (H'.out.below' HB3.out hB).more hB
        refine (HT.out w3 (by omega) hrp.1 hrq.1 hrp.2).mono ?_
        rintro e w4 ⟨E1, Z, e1, ez, rfl, hs4, hz4, hb4⟩
        clear y0 y1 y2 y3 y4 y5 t0 t1 t2 g0 g1 g2 hrp hrq
        have r0 := (hb4.block w.heap.size (by omega)).trans Q0.out
        have r1 := (hb4.block (w.heap.size + 1) (by omega)).trans Q1.out
        have r2 := (hb4.block (w.heap.size + 2) (by omega)).trans Q2.out
        obtain ⟨y0, y1, y2, _, _, _⟩ := cells3 r0
        obtain ⟨y3, y4, y5, _, _, _⟩ := cells3 r1
        have hz4' : OwI w4 w3.heap.size (.slice Z (compNm p q).length ez) (compNm p q) := by rw [HNL.out]; exact hz4
        have HZ := Lib.hid (show Rd w4 w4.heap.size 1 Z (p.o.length + q.s.length) ((compNm p q).map I) from by
          have h := Rd.of_own hz4'
          rw [HNL.out] at h
          exact h)
        have HS4 := Lib.hid (show OwS w4 w3.heap.size (.slice E1 (p.s.length + q.s.length) e1) (compD p q).s from hs4)
        have R2 := Lib.hid r2
        have HB4 := Lib.hid (HB3.out.trans (hb4.mono (show w.heap.size ≤ w3.heap.size by omega)))
        have hs34 : w3.heap.size ≤ w4.heap.size := hb4.size
        have FS := Lib.hid (show ∀ x, Below w4.heap.size w4 x → x.cell? ⟨w.heap.size, 0, none⟩ = some (.int .i64 p.n) ∧ x.cell? ⟨w.heap.size + 1, 2, none⟩ = some (.slice A4 q.o.length c4) from fun x hx =>
          ⟨(hx.cell (p := ⟨w.heap.size, 0, none⟩) (by simp only []; omega)).trans y0, (hx.cell (p := ⟨w.heap.size + 1, 2, none⟩) (by simp only []; omega)).trans y5⟩)
        have S0 := Lib.hid (show Below w4.heap.size w4 w4.drew from (Below.refl _ _).drew)
        clear r0 r1 r2 hb4 hs4 hz4 hz4' y0 y1 y2 y3 y4 y5
        go_wp2
        refine wp_region_T (fun x : World => Below w4.heap.size w4 x) [0, 1, 2, 3, 4, 5, 7, 9, 10, 12] [1, 4] (.lp 0 (.lp 2 (.lp 3 (.lp 5 (.ls 1 (.ls 4 (.hv 6 (.lp 7 (.hv 8 (.lp 9 (.lp 10 (.hv 11 (.lp 12 (.done)))))))))))))) (by kernel_rfl) (by kernel_rfl) ?_
        (repeat (refine T_lp rfl (fun K hK => ?_); go_simp; refine hK _ ?_; clear hK K))
        refine T_ls1 (v := .int .i64 p.n) rfl rfl S0.out (fun x hx => (by obtain ⟨h0, h1⟩ := FS.out x hx; go_simp)) (fun K hK => ?_)
        (go_simp; refine hK _ ?_; clear hK K)
        refine T_ls1 (v := .slice A4 q.o.length c4) rfl rfl S0.out (fun x hx => (by obtain ⟨h0, h1⟩ := FS.out x hx; go_simp)) (fun K hK => ?_)
        (go_simp; refine hK _ ?_; clear hK K)
        refine T_hvS rfl (fun K hK => ?_)
        go_simp
        go_at_call 67
        have hrq := ((H'.out.below' HB4.out hB).more (show B ≤ w4.heap.size by have := HB4.out.size; omega)).2
        refine (HRN.out w4.drew w4.heap.size A4 Z c4 ez (by simp) hrq.drew HZ.out.drew).mono ?_
        rintro e wn ⟨E2, e2, rfl, hon, hbn⟩
        have hb4n : Below w4.heap.size w4 wn := S0.out.trans (hbn.mono (by simp))
        have hsn := own_below HS4.out hb4n
        have hs4' : OwS wn w3.heap.size (.slice E1 (compD p q).s.length e1) (compD p q).s := by rw [compD_s]; exact hsn
        have ho4' : OwI wn w4.drew.heap.size (.slice E2 (compD p q).o.length e2) (compD p q).o := by rw [compD_o]; exact hon
        have RD := Lib.hid (show RdP wn wn.heap.size E1 E2 (compD p q) from ⟨Rd.of_own hs4', Rd.of_own ho4'⟩)
        have HSN := Lib.hid (show OwS wn w3.heap.size (.slice E1 (p.s.length + q.s.length) e1) (compD p q).s from hsn)
        have HON := Lib.hid (show OwI wn w4.drew.heap.size (.slice E2 q.o.length e2) (compD p q).o from hon)
        have hs4n : w4.heap.size ≤ wn.heap.size := hb4n.size
        have HB4N := Lib.hid hb4n
        clear hrq hon hbn hsn hs4' ho4'
        go_simp
        refine hK _ _ hb4n ?_
        clear hK K hb4n
        (repeat (refine T_lp rfl (fun K hK => ?_); go_simp; refine hK _ ?_; clear hK K))
        refine T_hvS rfl (fun K hK => ?_)
        go_simp
        go_at_call 66
        refine (HIF.out wn E1 E2 e1 e2 RD.out).mono ?_
        rintro e w5 ⟨rfl, hb5⟩
        have hbn5 : Below w4.heap.size w4 w5 := HB4N.out.trans (hb5.mono hs4n)
        have r2 := (hbn5.block (w.heap.size + 2) (by omega)).trans R2.out
        obtain ⟨t0, t1, t2, g0, g1, g2⟩ := cells3 r2
        have Q5 := Lib.hid r2
        have HS5 := Lib.hid (own_base (own_below HSN.out hb5) (show w.heap.size ≤ w3.heap.size by omega))
        have HO5 := Lib.hid (own_base (own_below HON.out hb5) (show w.heap.size ≤ w4.drew.heap.size by simp; omega))
        have HB5 := Lib.hid (HB4.out.trans (hbn5.mono (show w.heap.size ≤ w4.heap.size by omega)))
        clear r2 hb5
        have hs5w : w.heap.size ≤ w5.heap.size := HB5.out.size
        cases gd with
        | false =>
          have ER := Lib.hid (compR_false EB.out)
          simp only [selV, Bool.false_eq_true, if_false]
          go_simp
          refine hK _ _ hbn5 ?_
          clear hK K hbn5
          (repeat (refine T_lp rfl (fun K hK => ?_); go_simp; refine hK _ ?_; clear hK K))
          (refine T_hv rfl (by kernel_rfl) (fun K hK => ?_); go_simp; refine hK _ _ ?_; clear hK K)
          (repeat (refine T_lp rfl (fun K hK => ?_); go_simp; refine hK _ ?_; clear hK K))
          refine T_done ?_
          go_wp2
          refine bodyPost_ret (v := .tuple #[.agg #[.int .i64 0, .slice none 0 0, .slice none 0 0], .bool false]) (by simp [results, Try.results28, go_sem, t0, t1, t2]) rfl ⟨none, none, 0, 0, by rw [ER.out, EB.out]; rfl, by rw [ER.out]; exact OwP.zero _ _, ?_⟩
          exact ((HB5.out.setCell (show w.heap.size ≤ w.heap.size + 2 by omega) _).setCell (show w.heap.size ≤ w.heap.size + 2 by omega) _).setCell (show w.heap.size ≤ w.heap.size + 2 by omega) _
        | true =>
          have ER := Lib.hid (compR_true EB.out)
          simp only [selV, if_true]
          go_simp
          refine hK _ _ hbn5 ?_
          clear hK K hbn5
          (repeat (refine T_lp rfl (fun K hK => ?_); go_simp; refine hK _ ?_; clear hK K))
          (refine T_hv rfl (by kernel_rfl) (fun K hK => ?_); go_simp; refine hK _ _ ?_; clear hK K)
          (repeat (refine T_lp rfl (fun K hK => ?_); go_simp; refine hK _ ?_; clear hK K))
          refine T_done ?_
          go_wp2
          refine bodyPost_ret (v := .tuple #[.agg #[.int .i64 p.n, .slice E1 (p.s.length + q.s.length) e1, .slice E2 q.o.length e2], .bool true]) (by simp [results, Try.results28, go_sem, t0, t1, t2]) rfl ⟨E1, E2, e1, e2, by rw [ER.out, EB.out, compD_s, compD_o]; rfl, ?_, ?_⟩
          · rw [ER.out]
            show OwP _ _ _ _ _ _ ⟨p.n, (compD p q).s, (compD p q).o⟩
            exact owP_of3 HS5.out HO5.out Q5.out (by decide) (by decide) (compD_s p q) (compD_o p q) _ _ _
          · exact ((HB5.out.setCell (show w.heap.size ≤ w.heap.size + 2 by omega) _).setCell (show w.heap.size ≤ w.heap.size + 2 by omega) _).setCell (show w.heap.size ≤ w.heap.size + 2 by omega) _
      · have hpe : ((p.o.length : Int) == q.n) = false := by simpa using hpq
        have ea : compB p q = false := by
          unfold compB
          rw [decide_eq_false hpq]
          simp
        have ER := Lib.hid (compR_false ea)
        have EB := Lib.hid ea
        clear ea hpq
        go_wp2
        refine bodyPost_ret (v := .tuple #[.agg #[.int .i64 0, .slice none 0 0, .slice none 0 0], .bool false]) (by simp [results, Try.results28, go_sem, t0, t1, t2]) rfl ⟨none, none, 0, 0, by rw [ER.out, EB.out]; rfl, by rw [ER.out]; exact OwP.zero _ _, ?_⟩
        exact ((HB3.out.setCell (show w.heap.size ≤ w.heap.size + 2 by omega) _).setCell (show w.heap.size ≤ w.heap.size + 2 by omega) _).setCell (show w.heap.size ≤ w.heap.size + 2 by omega) _
end Go.Proofs.Yteldndbfopdehab
