/- Joined: Cg Nb Va Vb Pw Px Wk Wp We Wq Wv Wl. -/
import Derived.Test.YtodjnafalbbmjaaP3
import Derived.Test.YtodjnafalbbmjaaP6
import Derived.Test.YtodjnafalbbmjaaP7
import Derived.Test.YtodjnafalbbmjaaP5
/- ComposePlans, of the program. -/
namespace Go.Proofs.Ytodjnafalbbmjaa
open Go.RowKit

set_option maxRecDepth 100000 in
set_option maxHeartbeats 4000000 in
theorem implCompose_any (B : Nat) (A1 A2 A3 A4 : Option Addr) (c1 c2 c3 c4 : Nat) (p q : Pl) (w : World) (hB : B ≤ w.heap.size) (hls : p.s.length ≤ 2000000) (hlo : p.o.length ≤ 2000000) (hls' : q.s.length ≤ 2000000) (hlo' : q.o.length ≤ 2000000) (hr : RdP w B A1 A2 p) (hr' : RdP w B A3 A4 q) :
    Calls Try.prog 137 #[.agg #[.int .i64 p.n, .slice A1 p.s.length c1, .slice A2 p.o.length c2], .agg #[.int .i64 q.n, .slice A3 q.s.length c3, .slice A4 q.o.length c4]] w fun e w' =>
      ∃ R1 R2 v1 v2, e = .returned (.tuple #[.agg #[.int .i64 (compR p q).n, .slice R1 (compR p q).s.length v1, .slice R2 (compR p q).o.length v2], .bool (compB p q)]) ∧ OwP w' w.heap.size R1 R2 v1 v2 (compR p q) ∧ Below w.heap.size w w' := by
  have H := Lib.hid hr
  have H' := Lib.hid hr'
  clear hr hr'
  obtain ⟨gp, hgp⟩ : ∃ x, good p = x := ⟨_, rfl⟩
  obtain ⟨gq, hgq⟩ : ∃ x, good q = x := ⟨_, rfl⟩
  obtain ⟨gd, hgd⟩ : ∃ x, good (compD p q) = x := ⟨_, rfl⟩
  have HGP := Lib.hid hgp
  have HGQ := Lib.hid hgq
  have HGD := Lib.hid hgd
  go_enter Try.func137, Try.ntmps137
  go_wp2_with fail
  go_at_call 135
  generalize hw1 : World.alloc (World.alloc (World.alloc w _) _) _ = w1
  obtain ⟨q0, q1, q2, xs, xb⟩ := boxesPQZ hw1
  clear hw1
  have hC := implIsPlan_any w.heap.size A1 A2 c1 c2 p w1 (by omega) hls hlo ((H.out.below' xb hB).more hB)
  rw [hgp] at hC
  refine hC.mono ?_
  rintro e w2 ⟨rfl, hb2⟩
  have r0 := (hb2.block w.heap.size (by omega)).trans q0
  have r1 := (hb2.block (w.heap.size + 1) (by omega)).trans q1
  have r2 := (hb2.block (w.heap.size + 2) (by omega)).trans q2
  obtain ⟨y3, y4, y5, _, _, _⟩ := cells3 r1
  obtain ⟨t0, t1, t2, g0, g1, g2⟩ := cells3 r2
  have HB2 := Lib.hid (xb.trans (hb2.mono (show w.heap.size ≤ w1.heap.size by omega)))
  have hs2 : w.heap.size + 3 ≤ w2.heap.size := by have := hb2.size; omega
  have hC2 := fun W hBW hrW => implIsPlan_any w.heap.size A3 A4 c3 c4 q W hBW hls' hlo' hrW
  rw [hgq] at hC2
  have HC2 := Lib.hid hC2
  have R0 := Lib.hid r0
  have R1 := Lib.hid r1
  have R2 := Lib.hid r2
  clear hC hgp hgq hgd q0 q1 q2 xs xb hb2 hC2 r0 r1 r2
  cases gp with
  | false =>
    have ea : compB p q = false := by simp [compB, HGP.out]
    have ER := Lib.hid (compR_false ea)
    have EB := Lib.hid ea
    clear ea
    go_wp2
    refine bodyPost_ret (v := .tuple #[.agg #[.int .i64 0, .slice none 0 0, .slice none 0 0], .bool false]) (by simp [results, Try.results137, go_sem, t0, t1, t2]) rfl ⟨none, none, 0, 0, by rw [ER.out, EB.out]; rfl, by rw [ER.out]; exact OwP.zero _ _, ?_⟩
    exact ((HB2.out.setCell (show w.heap.size ≤ w.heap.size + 2 by omega) _).setCell (show w.heap.size ≤ w.heap.size + 2 by omega) _).setCell (show w.heap.size ≤ w.heap.size + 2 by omega) _
  | true =>
    go_wp2_with fail
    go_at_call 135
    refine (HC2.out w2 (by omega) ((H'.out.below' HB2.out hB).more hB)).mono ?_
    rintro e w3 ⟨rfl, hb3⟩
    clear y3 y4 y5 t0 t1 t2 g0 g1 g2
    have r0 := (hb3.block w.heap.size (by omega)).trans R0.out
    have r1 := (hb3.block (w.heap.size + 1) (by omega)).trans R1.out
    have r2 := (hb3.block (w.heap.size + 2) (by omega)).trans R2.out
    obtain ⟨y0, y1, y2, _, _, _⟩ := cells3 r0
    obtain ⟨y3, y4, y5, _, _, _⟩ := cells3 r1
    obtain ⟨t0, t1, t2, g0, g1, g2⟩ := cells3 r2
    have HB3 := Lib.hid (HB2.out.trans (hb3.mono (by omega)))
    have hs3 : w.heap.size + 3 ≤ w3.heap.size := by have := hb3.size; omega
    have Q0 := Lib.hid r0
    have Q1 := Lib.hid r1
    have Q2 := Lib.hid r2
    clear r0 r1 r2 hb3 R0 R1 R2
    cases gq with
    | false =>
      have ea : compB p q = false := by simp [compB, HGQ.out]
      have ER := Lib.hid (compR_false ea)
      have EB := Lib.hid ea
      clear ea
      go_wp2
      refine bodyPost_ret (v := .tuple #[.agg #[.int .i64 0, .slice none 0 0, .slice none 0 0], .bool false]) (by simp [results, Try.results137, go_sem, t0, t1, t2]) rfl ⟨none, none, 0, 0, by rw [ER.out, EB.out]; rfl, by rw [ER.out]; exact OwP.zero _ _, ?_⟩
      exact ((HB3.out.setCell (show w.heap.size ≤ w.heap.size + 2 by omega) _).setCell (show w.heap.size ≤ w.heap.size + 2 by omega) _).setCell (show w.heap.size ≤ w.heap.size + 2 by omega) _
    | true =>
      by_cases hpq : (p.o.length : Int) = q.n
      · obtain ⟨N, hN, n1, n6, hs40, ho6, hok, hout, _⟩ := good_facts HGP.out
        obtain ⟨N', hN', n1', n6', hs40', ho6', hok', hout', _⟩ := good_facts HGQ.out
        obtain rfl : N' = p.o.length := by omega
        have hpe : ((p.o.length : Int) == q.n) = true := by simpa using hpq
        have ebd : compB p q = gd := by
          unfold compB
          rw [HGP.out, HGQ.out, HGD.out, decide_eq_true hpq]
          rfl
        have EB := Lib.hid ebd
        have hin : ∀ st ∈ q.s, 0 ≤ st.1 ∧ st.1 ≤ st.2 ∧ st.2 < (p.o.length : Int) + q.s.length := fun st hst => by
          obtain ⟨i, hi, rfl⟩ := List.getElem_of_mem hst
          obtain ⟨i1, i2, i3⟩ := hok' i hi
          exact ⟨i1, i2, by omega⟩
        have hT := fun W hBW h1 h2 h3 => stepsBehind_any w.heap.size N A1 A2 A3 A4 A2 c1 c2 c3 c4 c2 p q p.o W hN (by omega) (by omega) (by omega) (by omega) (by omega) hBW hin h1 h2 h3
        have hnl : (compNm p q).length = p.o.length + q.s.length := by simp [compNm, tailN]
        have hRn := fun W B' A A' c c' hBW h1 h2 => renamed_any B' A A' c c' q.o (compNm p q) W (by omega) hBW (fun x hx => by
          obtain ⟨o1, o2⟩ := hout' x hx
          rw [hnl]
          exact ⟨o1, by omega⟩) h1 h2
        rw [hnl] at hRn
        have hIf := fun W E1 E2 e1 e2 hrW => planOrNone_any W.heap.size E1 E2 e1 e2 (compD p q) W (Nat.le_refl _) (by rw [compD_s]; omega) (by rw [compD_o]; omega) hrW
        have en : (compD p q).n = p.n := rfl
        rw [compD_s, compD_o, HGD.out, en] at hIf
        have HT := Lib.hid hT
        have HRN := Lib.hid hRn
        have HNL := Lib.hid hnl
        have HIF := Lib.hid hIf
        clear ebd hT hRn hnl hIf en hok hout hok' hout' hN hN' hpq hin
        go_wp2_with fail
        go_at_call 138
        have hrp := (H.out.below' HB3.out hB).more hB
        have hrq := (H'.out.below' HB3.out hB).more hB
        refine (HT.out w3 (by omega) hrp.1 hrq.1 hrp.2).mono ?_
        rintro e w4 ⟨E1, Z, e1, ez, rfl, hs4, hz4, hb4⟩
        clear y0 y1 y2 y3 y4 y5 t0 t1 t2 g0 g1 g2 hrp hrq
        have r0 := (hb4.block w.heap.size (by omega)).trans Q0.out
        have r1 := (hb4.block (w.heap.size + 1) (by omega)).trans Q1.out
        have r2 := (hb4.block (w.heap.size + 2) (by omega)).trans Q2.out
        obtain ⟨y0, y1, y2, _, _, _⟩ := cells3 r0
        obtain ⟨y3, y4, y5, _, _, _⟩ := cells3 r1
        have hz4' : OwI w4 w3.heap.size (.slice Z (compNm p q).length ez) (compNm p q) := by rw [HNL.out]; exact hz4
        have HZ := Lib.hid (show Rd w4 w4.heap.size 1 Z (p.o.length + q.s.length) ((compNm p q).map I) from by
          have h := Rd.of_own hz4'
          rw [HNL.out] at h
          exact h)
        have HS4 := Lib.hid (show OwS w4 w3.heap.size (.slice E1 (p.s.length + q.s.length) e1) (compD p q).s from hs4)
        have R2 := Lib.hid r2
        have HB4 := Lib.hid (HB3.out.trans (hb4.mono (show w.heap.size ≤ w3.heap.size by omega)))
        have hs34 : w3.heap.size ≤ w4.heap.size := hb4.size
        have FS := Lib.hid (show ∀ x, Below w4.heap.size w4 x → x.cell? ⟨w.heap.size, 0, none⟩ = some (.int .i64 p.n) ∧ x.cell? ⟨w.heap.size + 1, 2, none⟩ = some (.slice A4 q.o.length c4) from fun x hx =>
          ⟨(hx.cell (p := ⟨w.heap.size, 0, none⟩) (by simp only []; omega)).trans y0, (hx.cell (p := ⟨w.heap.size + 1, 2, none⟩) (by simp only []; omega)).trans y5⟩)
        have S0 := Lib.hid (show Below w4.heap.size w4 w4.drew from (Below.refl _ _).drew)
        clear r0 r1 r2 hb4 hs4 hz4 hz4' y0 y1 y2 y3 y4 y5
        go_wp2
        refine wp_region_T (fun x : World => Below w4.heap.size w4 x) [0, 1, 2, 3, 4, 5, 7, 9, 10, 12] [1, 4] (.lp 0 (.lp 2 (.lp 3 (.lp 5 (.ls 1 (.ls 4 (.hv 6 (.lp 7 (.hv 8 (.lp 9 (.lp 10 (.hv 11 (.lp 12 (.done)))))))))))))) (by kernel_rfl) (by kernel_rfl) ?_
        (repeat (refine T_lp rfl (fun K hK => ?_); go_simp; refine hK _ ?_; clear hK K))
        refine T_ls1 (v := .int .i64 p.n) rfl rfl S0.out (fun x hx => (by obtain ⟨h0, h1⟩ := FS.out x hx; go_simp)) (fun K hK => ?_)
        (go_simp; refine hK _ ?_; clear hK K)
        refine T_ls1 (v := .slice A4 q.o.length c4) rfl rfl S0.out (fun x hx => (by obtain ⟨h0, h1⟩ := FS.out x hx; go_simp)) (fun K hK => ?_)
        (go_simp; refine hK _ ?_; clear hK K)
        refine T_hvS rfl (fun K hK => ?_)
        go_simp
        go_at_call 118
        have hrq := ((H'.out.below' HB4.out hB).more (show B ≤ w4.heap.size by have := HB4.out.size; omega)).2
        refine (HRN.out w4.drew w4.heap.size A4 Z c4 ez (by simp) hrq.drew HZ.out.drew).mono ?_
        rintro e wn ⟨E2, e2, rfl, hon, hbn⟩
        have hb4n : Below w4.heap.size w4 wn := S0.out.trans (hbn.mono (by simp))
        have hsn := own_below HS4.out hb4n
        have hs4' : OwS wn w3.heap.size (.slice E1 (compD p q).s.length e1) (compD p q).s := by rw [compD_s]; exact hsn
        have ho4' : OwI wn w4.drew.heap.size (.slice E2 (compD p q).o.length e2) (compD p q).o := by rw [compD_o]; exact hon
        have RD := Lib.hid (show RdP wn wn.heap.size E1 E2 (compD p q) from ⟨Rd.of_own hs4', Rd.of_own ho4'⟩)
        have HSN := Lib.hid (show OwS wn w3.heap.size (.slice E1 (p.s.length + q.s.length) e1) (compD p q).s from hsn)
        have HON := Lib.hid (show OwI wn w4.drew.heap.size (.slice E2 q.o.length e2) (compD p q).o from hon)
        have hs4n : w4.heap.size ≤ wn.heap.size := hb4n.size
        have HB4N := Lib.hid hb4n
        clear hrq hon hbn hsn hs4' ho4'
        go_simp
        refine hK _ _ hb4n ?_
        clear hK K hb4n
        (repeat (refine T_lp rfl (fun K hK => ?_); go_simp; refine hK _ ?_; clear hK K))
        refine T_hvS rfl (fun K hK => ?_)
        go_simp
        go_at_call 134
        refine (HIF.out wn E1 E2 e1 e2 RD.out).mono ?_
        rintro e w5 ⟨rfl, hb5⟩
        have hbn5 : Below w4.heap.size w4 w5 := HB4N.out.trans (hb5.mono hs4n)
        have r2 := (hbn5.block (w.heap.size + 2) (by omega)).trans R2.out
        obtain ⟨t0, t1, t2, g0, g1, g2⟩ := cells3 r2
        have Q5 := Lib.hid r2
        have HS5 := Lib.hid (own_base (own_below HSN.out hb5) (show w.heap.size ≤ w3.heap.size by omega))
        have HO5 := Lib.hid (own_base (own_below HON.out hb5) (show w.heap.size ≤ w4.drew.heap.size by simp; omega))
        have HB5 := Lib.hid (HB4.out.trans (hbn5.mono (show w.heap.size ≤ w4.heap.size by omega)))
        clear r2 hb5
        have hs5w : w.heap.size ≤ w5.heap.size := HB5.out.size
        cases gd with
        | false =>
          have ER := Lib.hid (compR_false EB.out)
          simp only [selV, Bool.false_eq_true, if_false]
          go_simp
          refine hK _ _ hbn5 ?_
          clear hK K hbn5
          (repeat (refine T_lp rfl (fun K hK => ?_); go_simp; refine hK _ ?_; clear hK K))
          (refine T_hv rfl (by kernel_rfl) (fun K hK => ?_); go_simp; refine hK _ _ ?_; clear hK K)
          (repeat (refine T_lp rfl (fun K hK => ?_); go_simp; refine hK _ ?_; clear hK K))
          refine T_done ?_
          go_wp2
          refine bodyPost_ret (v := .tuple #[.agg #[.int .i64 0, .slice none 0 0, .slice none 0 0], .bool false]) (by simp [results, Try.results137, go_sem, t0, t1, t2]) rfl ⟨none, none, 0, 0, by rw [ER.out, EB.out]; rfl, by rw [ER.out]; exact OwP.zero _ _, ?_⟩
          exact ((HB5.out.setCell (show w.heap.size ≤ w.heap.size + 2 by omega) _).setCell (show w.heap.size ≤ w.heap.size + 2 by omega) _).setCell (show w.heap.size ≤ w.heap.size + 2 by omega) _
        | true =>
          have ER := Lib.hid (compR_true EB.out)
          simp only [selV, if_true]
          go_simp
          refine hK _ _ hbn5 ?_
          clear hK K hbn5
          (repeat (refine T_lp rfl (fun K hK => ?_); go_simp; refine hK _ ?_; clear hK K))
          (refine T_hv rfl (by kernel_rfl) (fun K hK => ?_); go_simp; refine hK _ _ ?_; clear hK K)
          (repeat (refine T_lp rfl (fun K hK => ?_); go_simp; refine hK _ ?_; clear hK K))
          refine T_done ?_
          go_wp2
          refine bodyPost_ret (v := .tuple #[.agg #[.int .i64 p.n, .slice E1 (p.s.length + q.s.length) e1, .slice E2 q.o.length e2], .bool true]) (by simp [results, Try.results137, go_sem, t0, t1, t2]) rfl ⟨E1, E2, e1, e2, by rw [ER.out, EB.out, compD_s, compD_o]; rfl, ?_, ?_⟩
          · rw [ER.out]
            show OwP _ _ _ _ _ _ ⟨p.n, (compD p q).s, (compD p q).o⟩
            exact owP_of3 HS5.out HO5.out Q5.out (by decide) (by decide) (compD_s p q) (compD_o p q) _ _ _
          · exact ((HB5.out.setCell (show w.heap.size ≤ w.heap.size + 2 by omega) _).setCell (show w.heap.size ≤ w.heap.size + 2 by omega) _).setCell (show w.heap.size ≤ w.heap.size + 2 by omega) _
      · have hpe : ((p.o.length : Int) == q.n) = false := by simpa using hpq
        have ea : compB p q = false := by
          unfold compB
          rw [decide_eq_false hpq]
          simp
        have ER := Lib.hid (compR_false ea)
        have EB := Lib.hid ea
        clear ea hpq
        go_wp2
        refine bodyPost_ret (v := .tuple #[.agg #[.int .i64 0, .slice none 0 0, .slice none 0 0], .bool false]) (by simp [results, Try.results137, go_sem, t0, t1, t2]) rfl ⟨none, none, 0, 0, by rw [ER.out, EB.out]; rfl, by rw [ER.out]; exact OwP.zero _ _, ?_⟩
        exact ((HB3.out.setCell (show w.heap.size ≤ w.heap.size + 2 by omega) _).setCell (show w.heap.size ≤ w.heap.size + 2 by omega) _).setCell (show w.heap.size ≤ w.heap.size + 2 by omega) _
end Go.Proofs.Ytodjnafalbbmjaa
/- Least factors. -/
namespace Go.Proofs.Ytodjnafalbbmjaa
open Go.RowKit

def lfF (n : Nat) : Nat → Nat → Nat
  | 0, _ => n
  | f + 1, d => if n < d * d then n else if n % d = 0 then d else lfF n f (d + 1)
/-- The least factor of n. -/
def lfac (n : Nat) : Nat := lfF n 1000 2

theorem lfF_end {n f d : Nat} (h : n < d * d) : lfF n f d = n := by
  cases f with
  | zero => rfl
  | succ f => unfold lfF; rw [if_pos h]
theorem lfF_hit {n f d : Nat} (hn : n ≤ 1000000) (hf : f + d = 1002) (h : ¬ n < d * d) (hm : n % d = 0) : lfF n f d = d := by
  cases f with
  | zero =>
    obtain rfl : d = 1002 := by omega
    omega
  | succ f => unfold lfF; rw [if_neg h, if_pos hm]
theorem lfF_next {n f d : Nat} (hn : n ≤ 1000000) (hf : f + d = 1002) (h : ¬ n < d * d) (hm : n % d ≠ 0) : ∃ g, g + (d + 1) = 1002 ∧ lfF n g (d + 1) = lfF n f d := by
  cases f with
  | zero =>
    obtain rfl : d = 1002 := by omega
    omega
  | succ f =>
    refine ⟨f, by omega, ?_⟩
    show _ = (if n < d * d then n else if n % d = 0 then d else lfF n f (d + 1))
    rw [if_neg h, if_neg hm]

set_option maxRecDepth 100000 in
set_option maxHeartbeats 1000000 in
theorem meFactor_any (n : Nat) (w : World) (hn : n ≤ 1000000) :
    Calls Try.prog 44 #[.int .i64 (n : Int)] w fun e w' => e = .returned (.int .i64 (lfac n : Nat)) ∧ w = w' := by
  go_enter Try.func44, Try.ntmps44
  go_wp2
  go_loop [3] (fun dv => ∃ d f : Nat, 2 ≤ d ∧ f + d = 1002 ∧ dv = .int .i64 d ∧ lfF n f d = lfac n) (fun dv => (1002 - intOf dv).toNat)
  case atStart => exact ⟨2, 1000, by omega, by omega, rfl, rfl⟩
  case round =>
    obtain ⟨d, f, hd, hf, rfl, hq⟩ := hrel
    have Q := Lib.hid hq
    clear hq
    have hd2 : d ≤ 1002 := by omega
    have hdd : d * d ≤ 1002 * 1002 := Nat.mul_le_mul hd2 hd2
    obtain ⟨D, hD⟩ : ∃ D, d * d = D := ⟨_, rfl⟩
    have eD : (d : Int) * (d : Int) = (D : Int) := by rw [← hD]; push_cast; rfl
    have ewD : IntKind.i64.wrap (D : Int) = (D : Int) := IntWalk.i64_in _ (by omega)
    have hd0 : ((d : Int) == 0) = false := by simp; omega
    by_cases hlt : n < d * d
    · have E := Lib.hid (lfF_end hlt (f := f))
      have ip : ¬ (D : Int) ≤ (n : Int) := by omega
      clear hlt
      go_wp2
      go_ret
      exact ⟨by rw [← Q.out, E.out]; rfl, rfl⟩
    · have ip : (D : Int) ≤ (n : Int) := by omega
      by_cases hm : n % d = 0
      · have E := Lib.hid (lfF_hit hn hf hlt hm)
        have er : (((n : Int) % (d : Int)) == 0) = true := by rw [show (n : Int) % (d : Int) = ((n % d : Nat) : Int) by push_cast; rfl, hm]; rfl
        clear hlt hm
        go_wp2
        go_ret
        exact ⟨by rw [← Q.out, E.out]; rfl, rfl⟩
      · obtain ⟨g, hg, hgq⟩ := lfF_next hn hf hlt hm
        have er : (((n : Int) % (d : Int)) == 0) = false := by
          rw [show (n : Int) % (d : Int) = ((n % d : Nat) : Int) by push_cast; rfl]
          simp
          omega
        have E := Lib.hid (hgq.trans Q.out)
        clear hlt hm hgq
        go_wp2
        go_round
        case rel => exact ⟨d + 1, g, by omega, by omega, by go_num, E.out⟩
        case measure => simp [intOf]; omega

def lfB (x : Int) : Bool := isNum x && decide (x ≠ 1)
def lfV (x : Int) : Int := if lfB x then (lfac x.toNat : Int) else 0
theorem lfV_false {x : Int} (h : lfB x = false) : lfV x = 0 := by unfold lfV; rw [h]; rfl
theorem lfV_true {x : Int} (h : lfB x = true) : lfV x = (lfac x.toNat : Int) := by unfold lfV; rw [if_pos h]

set_option maxRecDepth 100000 in
set_option maxHeartbeats 1000000 in
theorem specFactor_any (x : Int) (w : World) : Calls Try.prog 18 #[.int .i64 x] w fun e w' => e = .returned (.tuple #[.int .i64 (lfV x), .bool (lfB x)]) ∧ w = w' := by
  obtain ⟨g1, h1⟩ : ∃ g, isNum x = g := ⟨_, rfl⟩
  have H1 := Lib.hid h1
  cases g1 with
  | false =>
    have EB := Lib.hid (show lfB x = false by unfold lfB; rw [h1]; rfl)
    have EV := Lib.hid (lfV_false EB.out)
    clear h1
    go_enter Try.func18, Try.ntmps18
    go_wp2_with (go_at_call 39; refine (chNumber_any _ _).mono ?_; rw [H1.out]; rintro e w' ⟨rfl, rfl⟩)
    go_ret2
    exact ⟨by rw [EV.out, EB.out]; rfl, rfl⟩
  | true =>
  by_cases hx : x = 1
  · have EB := Lib.hid (show lfB x = false by unfold lfB; rw [hx]; rfl)
    have EV := Lib.hid (lfV_false EB.out)
    have ix : (x == 1) = true := by simpa using hx
    clear h1 hx
    go_enter Try.func18, Try.ntmps18
    go_wp2_with (go_at_call 39; refine (chNumber_any _ _).mono ?_; rw [H1.out]; rintro e w' ⟨rfl, rfl⟩)
    go_ret2
    exact ⟨by rw [EV.out, EB.out]; rfl, rfl⟩
  · have EB := Lib.hid (show lfB x = true by unfold lfB; rw [h1, decide_eq_true hx]; rfl)
    have ev := lfV_true EB.out
    have ix : (x == 1) = false := by simpa using hx
    have ⟨r1, r2⟩ := isNum_rng h1
    obtain ⟨n, rfl⟩ : ∃ n : Nat, x = n := ⟨x.toNat, by omega⟩
    rw [show ((n : Int)).toNat = n by omega] at ev
    have EV := Lib.hid ev
    have hn : n ≤ 1000000 := by omega
    clear h1 hx ev r1 r2
    go_enter Try.func18, Try.ntmps18
    go_wp2_with (first
      | (go_at_call 39; refine (chNumber_any _ _).mono ?_; rw [H1.out]; rintro e w' ⟨rfl, rfl⟩)
      | (go_at_call 44; refine (meFactor_any n _ hn).mono ?_; rintro e w' ⟨rfl, rfl⟩))
    go_ret2
    exact ⟨by rw [EV.out, EB.out]; rfl, rfl⟩

set_option maxRecDepth 100000 in
set_option maxHeartbeats 1000000 in
theorem implFactor_any (x : Int) (w : World) : Calls Try.prog 19 #[.int .i64 x] w fun e w' => e = .returned (.tuple #[.int .i64 (lfV x), .bool (lfB x)]) ∧ w = w' := by
  obtain ⟨g1, h1⟩ : ∃ g, isNum x = g := ⟨_, rfl⟩
  have H1 := Lib.hid h1
  cases g1 with
  | false =>
    have EB := Lib.hid (show lfB x = false by unfold lfB; rw [h1]; rfl)
    have EV := Lib.hid (lfV_false EB.out)
    clear h1
    go_enter Try.func19, Try.ntmps19
    go_wp2_with (go_at_call 42; refine (isExponent_any _ _).mono ?_; rw [H1.out]; rintro e w' ⟨rfl, rfl⟩)
    go_ret2
    exact ⟨by rw [EV.out, EB.out]; rfl, rfl⟩
  | true =>
  by_cases hx : x = 1
  · have EB := Lib.hid (show lfB x = false by unfold lfB; rw [hx]; rfl)
    have EV := Lib.hid (lfV_false EB.out)
    have ix : (x == 1) = true := by simpa using hx
    clear h1 hx
    go_enter Try.func19, Try.ntmps19
    go_wp2_with (go_at_call 42; refine (isExponent_any _ _).mono ?_; rw [H1.out]; rintro e w' ⟨rfl, rfl⟩)
    go_ret2
    exact ⟨by rw [EV.out, EB.out]; rfl, rfl⟩
  · have EB := Lib.hid (show lfB x = true by unfold lfB; rw [h1, decide_eq_true hx]; rfl)
    have ev := lfV_true EB.out
    have ix : (x == 1) = false := by simpa using hx
    have ⟨r1, r2⟩ := isNum_rng h1
    obtain ⟨n, rfl⟩ : ∃ n : Nat, x = n := ⟨x.toNat, by omega⟩
    rw [show ((n : Int)).toNat = n by omega] at ev
    have EV := Lib.hid ev
    have hn : n ≤ 1000000 := by omega
    clear h1 hx ev r1 r2
    go_enter Try.func19, Try.ntmps19
    go_wp2_with (go_at_call 42; refine (isExponent_any _ _).mono ?_; rw [H1.out]; rintro e w' ⟨rfl, rfl⟩)
    go_loop [4] (fun dv => ∃ d f : Nat, 2 ≤ d ∧ f + d = 1002 ∧ dv = .int .i64 d ∧ lfF n f d = lfac n) (fun dv => (1002 - intOf dv).toNat)
    case atStart => exact ⟨2, 1000, by omega, by omega, rfl, rfl⟩
    case round =>
      obtain ⟨d, f, hd, hf, rfl, hq⟩ := hrel
      have Q := Lib.hid hq
      clear hq
      have hd2 : d ≤ 1002 := by omega
      have hdd : d * d ≤ 1002 * 1002 := Nat.mul_le_mul hd2 hd2
      obtain ⟨D, hD⟩ : ∃ D, d * d = D := ⟨_, rfl⟩
      have eD : (d : Int) * (d : Int) = (D : Int) := by rw [← hD]; push_cast; rfl
      have ewD : IntKind.i64.wrap (D : Int) = (D : Int) := IntWalk.i64_in _ (by omega)
      have hd0 : ((d : Int) == 0) = false := by simp; omega
      by_cases hlt : n < d * d
      · have E := Lib.hid (lfF_end hlt (f := f))
        have ip : ¬ (D : Int) ≤ (n : Int) := by omega
        clear hlt
        go_wp2
        go_ret2
        exact ⟨by rw [EV.out, EB.out, ← Q.out, E.out]; rfl, rfl⟩
      · have ip : (D : Int) ≤ (n : Int) := by omega
        by_cases hm : n % d = 0
        · have E := Lib.hid (lfF_hit hn hf hlt hm)
          have er : (((n : Int) % (d : Int)) == 0) = true := by rw [show (n : Int) % (d : Int) = ((n % d : Nat) : Int) by push_cast; rfl, hm]; rfl
          clear hlt hm
          go_wp2
          go_ret2
          exact ⟨by rw [EV.out, EB.out, ← Q.out, E.out]; rfl, rfl⟩
        · obtain ⟨g, hg, hgq⟩ := lfF_next hn hf hlt hm
          have er : (((n : Int) % (d : Int)) == 0) = false := by
            rw [show (n : Int) % (d : Int) = ((n % d : Nat) : Int) by push_cast; rfl]
            simp
            omega
          have E := Lib.hid (hgq.trans Q.out)
          clear hlt hm hgq
          go_wp2
          go_round
          case rel => exact ⟨d + 1, g, by omega, by omega, by go_num, E.out⟩
          case measure => simp [intOf]; omega
end Go.Proofs.Ytodjnafalbbmjaa
/- Plans by factors, as data: they are plans of the number, with at most 39 steps. -/
namespace Go.Proofs.Ytodjnafalbbmjaa
open Go.RowKit

theorem lfF_prop (n : Nat) : ∀ f d, 2 ≤ d → lfF n f d = n ∨ (2 ≤ lfF n f d ∧ lfF n f d * lfF n f d ≤ n ∧ n % lfF n f d = 0) := by
  intro f
  induction f with
  | zero => intro d _; exact .inl rfl
  | succ f ih =>
    intro d hd
    unfold lfF
    split
    · exact .inl rfl
    · split
      · exact .inr ⟨hd, by omega, by assumption⟩
      · exact ih (d + 1) (by omega)
theorem lfac_facts {n : Nat} (h2 : 2 ≤ n) : 2 ≤ lfac n ∧ lfac n ≤ n ∧ lfac n * (n / lfac n) = n ∧ n / lfac n < n ∧ 1 ≤ n / lfac n := by
  have h : 2 ≤ lfac n ∧ lfac n ≤ n ∧ n % lfac n = 0 := by
    rcases lfF_prop n 1000 2 (Nat.le_refl _) with h | ⟨a, b, c⟩
    · have e : lfac n = n := h
      rw [e]
      exact ⟨h2, Nat.le_refl _, Nat.mod_self _⟩
    · refine ⟨a, ?_, c⟩
      have : lfac n * 1 ≤ lfac n * lfac n := Nat.mul_le_mul_left _ (by show 1 ≤ lfF n 1000 2; omega)
      show lfac n ≤ n
      have hb : lfac n * lfac n ≤ n := b
      omega
  obtain ⟨a, b, c⟩ := h
  have e : lfac n * (n / lfac n) = n := Nat.mul_div_cancel' (Nat.dvd_of_mod_eq_zero c)
  exact ⟨a, b, e, Nat.div_lt_self (by omega) a, Nat.div_pos b (by omega)⟩
theorem lfac_even {n : Nat} (h4 : 4 ≤ n) (he : n % 2 = 0) : lfac n = 2 := by
  show (if n < 2 * 2 then n else if n % 2 = 0 then 2 else lfF n 999 (2 + 1)) = 2
  rw [if_neg (by omega), if_pos he]
theorem lfac_two : lfac 2 = 2 := lfF_end (n := 2) (f := 1000) (d := 2) (by omega)

def plS (s : List (Int × Int)) : Pl := ⟨1, s, [(s.length : Int)]⟩
def fcS : Nat → Nat → List (Int × Int)
  | 0, _ => []
  | f + 1, n => if n ≤ 1 then [] else if lfac n = n then fcS f (n - 1) ++ [stI ((fcS f (n - 1)).length : Int) 0] else (compD (plS (fcS f (lfac n))) (plS (fcS f (n / lfac n)))).s
theorem fcS_fuel : ∀ f g n, n ≤ f → n ≤ g → fcS f n = fcS g n := by
  intro f
  induction f with
  | zero =>
    intro g n hf _
    have : n = 0 := by omega
    subst this
    cases g with
    | zero => rfl
    | succ g => rfl
  | succ f ih =>
    intro g n hf hg
    by_cases h1 : n ≤ 1
    · cases g with
      | zero => show (if n ≤ 1 then [] else _) = []; rw [if_pos h1]
      | succ g => show (if n ≤ 1 then [] else _) = (if n ≤ 1 then [] else _); rw [if_pos h1, if_pos h1]
    · cases g with
      | zero => omega
      | succ g =>
        obtain ⟨a, b, c, d, e⟩ := lfac_facts (n := n) (by omega)
        show (if n ≤ 1 then [] else if lfac n = n then fcS f (n - 1) ++ [stI ((fcS f (n - 1)).length : Int) 0] else (compD (plS (fcS f (lfac n))) (plS (fcS f (n / lfac n)))).s) =
          (if n ≤ 1 then [] else if lfac n = n then fcS g (n - 1) ++ [stI ((fcS g (n - 1)).length : Int) 0] else (compD (plS (fcS g (lfac n))) (plS (fcS g (n / lfac n)))).s)
        rw [if_neg h1, if_neg h1]
        by_cases hp : lfac n = n
        · rw [if_pos hp, if_pos hp, ih g (n - 1) (by omega) (by omega)]
        · rw [if_neg hp, if_neg hp, ih g (lfac n) (by omega) (by omega), ih g (n / lfac n) (by omega) (by omega)]
def facS (n : Nat) : List (Int × Int) := fcS n n
def facP (n : Nat) : Pl := plS (facS n)
theorem facS_one : facS 1 = [] := rfl
theorem facS_prime {n : Nat} (h2 : 2 ≤ n) (hp : lfac n = n) : facS n = facS (n - 1) ++ [stI ((facS (n - 1)).length : Int) 0] := by
  obtain ⟨m, rfl⟩ : ∃ m, n = m + 1 := ⟨n - 1, by omega⟩
  show (if m + 1 ≤ 1 then [] else if lfac (m + 1) = m + 1 then fcS m (m + 1 - 1) ++ [stI ((fcS m (m + 1 - 1)).length : Int) 0] else _) = _
  rw [if_neg (by omega), if_pos hp]
  rfl
theorem facS_comp {n : Nat} (h2 : 2 ≤ n) (hp : lfac n ≠ n) : facS n = (compD (facP (lfac n)) (facP (n / lfac n))).s := by
  obtain ⟨a, b, c, d, e⟩ := lfac_facts h2
  obtain ⟨m, rfl⟩ : ∃ m, n = m + 1 := ⟨n - 1, by omega⟩
  show (if m + 1 ≤ 1 then [] else if lfac (m + 1) = m + 1 then _ else (compD (plS (fcS m (lfac (m + 1)))) (plS (fcS m ((m + 1) / lfac (m + 1))))).s) = _
  rw [if_neg (by omega), if_neg hp, fcS_fuel m (lfac (m + 1)) (lfac (m + 1)) (by omega) (Nat.le_refl _), fcS_fuel m ((m + 1) / lfac (m + 1)) ((m + 1) / lfac (m + 1)) (by omega) (Nat.le_refl _)]
  rfl
/-- Names behind a plan with one output, its last value. -/
theorem nm_get (a b : Nat) {x : Nat} (hx : x ≤ b) : ([(a : Int)] ++ tailN (1 + (a : Int)) b).getD x 0 = (a : Int) + x := by
  cases x with
  | zero => simp
  | succ x =>
    simp only [List.singleton_append, List.getD_cons_succ]
    unfold tailN
    simp [show x < b by omega]
    omega
theorem compD_plS (A B : List (Int × Int)) : compD (plS A) (plS B) = plS (compD (plS A) (plS B)).s := by
  have h1 : (compD (plS A) (plS B)).s.length = A.length + B.length := by simp [compD, plS]
  show (⟨1, (compD (plS A) (plS B)).s, [(compNm (plS A) (plS B)).getD ((B.length : Int)).toNat 0]⟩ : Pl) = ⟨1, _, [((compD (plS A) (plS B)).s.length : Int)]⟩
  rw [h1]
  have h2 : (compNm (plS A) (plS B)).getD ((B.length : Int)).toNat 0 = (A.length : Int) + B.length := by
    show ([(A.length : Int)] ++ tailN (1 + (A.length : Int)) B.length).getD ((B.length : Int)).toNat 0 = _
    rw [Int.toNat_natCast, nm_get _ _ (Nat.le_refl _)]
  rw [h2]
  simp
theorem facP_comp {n : Nat} (h2 : 2 ≤ n) (hp : lfac n ≠ n) : facP n = compD (facP (lfac n)) (facP (n / lfac n)) := by
  have h := compD_plS (facS (lfac n)) (facS (n / lfac n))
  unfold facP at *
  rw [h, facS_comp h2 hp]
  rfl
theorem fac_len_comp {n : Nat} (h2 : 2 ≤ n) (hp : lfac n ≠ n) : (facS n).length = (facS (lfac n)).length + (facS (n / lfac n)).length := by
  rw [facS_comp h2 hp]
  simp [compD, facP, plS]
theorem fac_len_prime {n : Nat} (h2 : 2 ≤ n) (hp : lfac n = n) : (facS n).length = (facS (n - 1)).length + 1 := by
  rw [facS_prime h2 hp]
  simp
theorem fac_len_two : (facS 2).length = 1 := by
  rw [fac_len_prime (Nat.le_refl _) lfac_two, show 2 - 1 = 1 from rfl, facS_one]
  rfl
theorem fac_bound : ∀ n, 1 ≤ n → 2 ^ (facS n).length ≤ n * n := by
  intro n
  induction n using Nat.strongRecOn with
  | ind n ih =>
    intro h1
    by_cases h : n = 1
    · subst h; rw [facS_one]; decide
    by_cases h2 : n = 2
    · subst h2; rw [fac_len_two]; decide
    have h3 : 3 ≤ n := by omega
    by_cases hp : lfac n = n
    · have hodd : n % 2 = 1 := by
        rcases Nat.mod_two_eq_zero_or_one n with h | h
        · have := lfac_even (n := n) (by omega) h
          omega
        · exact h
      rw [fac_len_prime (by omega) hp]
      by_cases h4 : n = 3
      · subst h4; rw [show 3 - 1 = 2 from rfl, fac_len_two]; decide
      · obtain ⟨q, hq⟩ : ∃ q, n = 2 * q + 1 := ⟨n / 2, by omega⟩
        have hm : lfac (n - 1) = 2 := lfac_even (by omega) (by omega)
        rw [fac_len_comp (n := n - 1) (by omega) (by omega), hm, fac_len_two, show (n - 1) / 2 = q by omega]
        have := ih q (by omega) (by omega)
        rw [show 1 + (facS q).length + 1 = (facS q).length + 2 by omega, Nat.pow_add]
        have e : n * n = 4 * (q * q) + 4 * q + 1 := by
          rw [hq]
          have : (2 * q + 1) * (2 * q + 1) = 4 * (q * q) + 4 * q + 1 := by
            rw [Nat.add_mul, Nat.mul_add, Nat.mul_mul_mul_comm]
            omega
          exact this
        rw [e]
        omega
    · obtain ⟨a, b, c, d, e⟩ := lfac_facts (n := n) (by omega)
      rw [fac_len_comp (by omega) hp, Nat.pow_add]
      have h5 := ih (lfac n) (by omega) (by omega)
      have h6 := ih (n / lfac n) d e
      have h7 := Nat.mul_le_mul h5 h6
      have e2 : lfac n * lfac n * (n / lfac n * (n / lfac n)) = n * n := by
        rw [Nat.mul_mul_mul_comm, c]
      omega
theorem fac_len39 {n : Nat} (h1 : 1 ≤ n) (hn : n ≤ 1000000) : (facS n).length ≤ 39 := by
  have h := fac_bound n h1
  rcases Nat.lt_or_ge (facS n).length 40 with h2 | h2
  · omega
  · have h3 : 2 ^ 40 ≤ 2 ^ (facS n).length := Nat.pow_le_pow_right (by omega) h2
    have h4 : n * n ≤ 1000000 * 1000000 := Nat.mul_le_mul hn hn
    have h5 : (2 : Nat) ^ 40 = 1099511627776 := by decide
    omega

/-- Exponents without a bound. -/
def evUS (out : List Int) (st : Int × Int) : List Int := out ++ [out.getD st.1.toNat 0 + out.getD st.2.toNat 0]
def evU (s : List (Int × Int)) : List Int := s.foldl evUS [1]
theorem evU_snoc (s : List (Int × Int)) (st : Int × Int) : evU (s ++ [st]) = evUS (evU s) st := by simp [evU]
theorem evU_len (s : List (Int × Int)) : ∀ k, k ≤ s.length → (evU (s.take k)).length = k + 1 := by
  intro k
  induction k with
  | zero => intro _; rfl
  | succ k ih =>
    intro hk
    rw [List.take_succ_eq_append_getElem (by omega), evU_snoc]
    unfold evUS
    rw [List.length_append, ih (by omega)]
    rfl
theorem evU_exps {s : List (Int × Int)} (hok : OkS 1 s) (hb : ∀ e ∈ evU s, 0 ≤ e ∧ e ≤ 1000000) : exps 1 s = (evU s).map fun e => [e] := by
  have hpre : ∀ k, k ≤ s.length → ∀ e ∈ evU (s.take k), 0 ≤ e ∧ e ≤ 1000000 := by
    intro k hk
    have h : ∃ r, evU s = evU (s.take k) ++ r := by
      have hg : ∀ (t : List (Int × Int)) (o : List Int), ∃ r, t.foldl evUS o = o ++ r := by
        intro t
        induction t with
        | nil => intro o; exact ⟨[], by simp⟩
        | cons st t ih =>
          intro o
          obtain ⟨r, hr⟩ := ih (evUS o st)
          exact ⟨_, by rw [List.foldl_cons, hr]; unfold evUS; rw [List.append_assoc]⟩
      obtain ⟨r, hr⟩ := hg (s.drop k) (evU (s.take k))
      refine ⟨r, ?_⟩
      rw [← hr]
      unfold evU
      rw [← List.foldl_append, List.take_append_drop]
    obtain ⟨r, hr⟩ := h
    intro e he
    exact hb e (by rw [hr]; exact List.mem_append_left _ he)
  have hall : ∀ k, k ≤ s.length → exps 1 (s.take k) = (evU (s.take k)).map fun e => [e] := by
    intro k
    induction k with
    | zero => intro _; rfl
    | succ k ih =>
      intro hk
      obtain ⟨h1, h2, h3⟩ := hok k (by omega)
      have hl := evU_len s k (by omega)
      have hp := hpre (k + 1) hk
      rw [List.take_succ_eq_append_getElem (by omega), evU_snoc] at hp
      rw [exps_take 1 (by omega), ih (by omega), List.take_succ_eq_append_getElem (l := s) (i := k) (by omega), evU_snoc]
      unfold expStep evUS at *
      rw [getD_row _ (by omega), getD_row _ (by omega), List.map_append]
      congr 1
      have hv := hp ((evU (s.take k)).getD (s[k]).1.toNat 0 + (evU (s.take k)).getD (s[k]).2.toNat 0) (List.mem_append_right _ (List.mem_singleton.2 rfl))
      show [[leastI ((evU (s.take k)).getD (s[k]).1.toNat 0 + (evU (s.take k)).getD (s[k]).2.toNat 0) 1000001]] = _
      unfold leastI
      rw [if_pos (by omega)]
      rfl
  have h := hall s.length (Nat.le_refl _)
  rwa [List.take_of_length_le (Nat.le_refl _)] at h
theorem evU_comp {A B : List (Int × Int)} (hB : OkS 1 B) : ∀ k, k ≤ B.length →
    evU (A ++ (B.take k).map (stN ([(A.length : Int)] ++ tailN (1 + (A.length : Int)) B.length))) = evU A ++ ((evU (B.take k)).drop 1).map (fun e => (evU A).getD A.length 0 * e) := by
  intro k
  have hAl := evU_len A A.length (Nat.le_refl _)
  rw [List.take_of_length_le (Nat.le_refl _)] at hAl
  induction k with
  | zero => intro _; simp [evU]
  | succ k ih =>
    intro hk
    have hb0 : ∀ k, k ≤ B.length → (evU (B.take k)).getD 0 0 = 1 := by
      intro k
      induction k with
      | zero => intro _; rfl
      | succ k ih2 =>
        intro hk
        have hl := evU_len B k (by omega)
        rw [List.take_succ_eq_append_getElem (by omega), evU_snoc]
        unfold evUS
        rw [List.getD_eq_getElem?_getD, List.getElem?_append_left (by omega), ← List.getD_eq_getElem?_getD, ih2 (by omega)]
    obtain ⟨h1, h2, h3⟩ := hB k (by omega)
    have hl := evU_len B k (by omega)
    have hat : ∀ x, x ≤ k → (evU A ++ ((evU (B.take k)).drop 1).map (fun e => (evU A).getD A.length 0 * e)).getD (A.length + x) 0 = (evU A).getD A.length 0 * (evU (B.take k)).getD x 0 := by
      intro x hx
      rcases Nat.eq_zero_or_pos x with rfl | hx0
      · rw [hb0 k (by omega), Int.mul_one, Nat.add_zero, List.getD_eq_getElem?_getD, List.getElem?_append_left (by omega), ← List.getD_eq_getElem?_getD]
      · rw [List.getD_eq_getElem?_getD, List.getElem?_append_right (by omega), List.getElem?_map, List.getElem?_drop, show 1 + (A.length + x - (evU A).length) = x by omega]
        rw [List.getElem?_eq_getElem (by omega)]
        simp [show x < (evU (B.take k)).length by omega]
    rw [List.take_succ_eq_append_getElem (by omega), List.map_append, ← List.append_assoc, List.map_singleton, evU_snoc, ih (by omega), evU_snoc]
    have hst : stN ([(A.length : Int)] ++ tailN (1 + (A.length : Int)) B.length) B[k] = ((A.length : Int) + (B[k]).1, (A.length : Int) + (B[k]).2) := by
      unfold stN
      rw [nm_get _ _ (by omega), nm_get _ _ (by omega), stI_min]
      congr 1 <;> omega
    rw [hst]
    unfold evUS
    rw [show ((A.length : Int) + (B[k]).1).toNat = A.length + (B[k]).1.toNat by omega, show ((A.length : Int) + (B[k]).2).toNat = A.length + (B[k]).2.toNat by omega]
    rw [hat _ (by omega), hat _ (by omega), List.drop_append_of_le_length (by omega), List.map_append, List.append_assoc, ← Int.mul_add]
    rfl

structure FcOk (S : List (Int × Int)) (n : Nat) : Prop where
  ok : OkS 1 S
  last : (evU S).getD S.length 0 = n
  rng : ∀ e ∈ evU S, 1 ≤ e ∧ e ≤ (n : Int)
theorem evU_full (s : List (Int × Int)) : (evU s).length = s.length + 1 := by
  have h := evU_len s s.length (Nat.le_refl _)
  rwa [List.take_of_length_le (Nat.le_refl _)] at h
theorem fc_ok : ∀ n, 1 ≤ n → FcOk (facS n) n := by
  intro n
  induction n using Nat.strongRecOn with
  | ind n ih =>
    intro h1
    by_cases h : n = 1
    · subst h
      rw [facS_one]
      exact ⟨fun i hi => absurd hi (by simp), rfl, fun e he => by simp [evU] at he; subst he; exact ⟨by omega, by omega⟩⟩
    by_cases hp : lfac n = n
    · obtain ⟨o, l, r⟩ := ih (n - 1) (by omega) (by omega)
      rw [facS_prime (by omega) hp]
      obtain ⟨S, hS⟩ : ∃ S, facS (n - 1) = S := ⟨_, rfl⟩
      rw [hS] at o l r
      rw [hS]
      have hl := evU_full S
      have hst : stI (S.length : Int) 0 = (0, (S.length : Int)) := by rw [stI_min]; congr 1 <;> omega
      have hz : (evU S).getD 0 0 = 1 := by
        have hpre : ∀ k, k ≤ S.length → (evU (S.take k)).getD 0 0 = 1 := by
          intro k
          induction k with
          | zero => intro _; rfl
          | succ k ih2 =>
            intro hk
            have hl := evU_len S k (by omega)
            rw [List.take_succ_eq_append_getElem (by omega), evU_snoc]
            unfold evUS
            rw [List.getD_eq_getElem?_getD, List.getElem?_append_left (by omega), ← List.getD_eq_getElem?_getD, ih2 (by omega)]
        have h := hpre S.length (Nat.le_refl _)
        rwa [List.take_of_length_le (Nat.le_refl _)] at h
      have hev : evU (S ++ [stI (S.length : Int) 0]) = evU S ++ [(n : Int)] := by
        rw [evU_snoc, hst]
        unfold evUS
        simp only [Int.toNat_natCast, show ((0 : Int)).toNat = 0 from rfl]
        rw [l, hz]
        congr 2
        omega
      refine ⟨fun i hi => ?_, ?_, ?_⟩
      · rcases Nat.lt_or_ge i S.length with h | h
        · rw [List.getElem_append_left h]; exact o i h
        · have e : i = S.length := by simp at hi; omega
          subst e
          rw [List.getElem_append_right (Nat.le_refl _)]
          simp only [Nat.sub_self, List.getElem_singleton]
          rw [hst]
          exact ⟨by omega, by show (0 : Int) ≤ S.length; omega, by show (S.length : Int) < 1 + S.length; omega⟩
      · rw [hev, List.length_append, List.length_singleton, List.getD_eq_getElem?_getD, List.getElem?_append_right (by omega), hl]
        simp
      · intro e he
        rw [hev] at he
        rcases List.mem_append.1 he with h | h
        · have := r e h; omega
        · simp at h; omega
    · obtain ⟨a, b, c, d, e⟩ := lfac_facts (n := n) (by omega)
      obtain ⟨oA, lA, rA⟩ := ih (lfac n) (by omega) (by omega)
      obtain ⟨oB, lB, rB⟩ := ih (n / lfac n) d e
      rw [facS_comp (by omega) hp]
      obtain ⟨p, hpp⟩ : ∃ p, lfac n = p := ⟨_, rfl⟩
      obtain ⟨q, hq⟩ : ∃ q, n / lfac n = q := ⟨_, rfl⟩
      rw [hq] at oB lB rB c
      rw [hq]
      rw [hpp] at oA lA rA c
      rw [hpp]
      unfold facP
      obtain ⟨A, hA⟩ : ∃ S, facS p = S := ⟨_, rfl⟩
      obtain ⟨B, hB⟩ : ∃ S, facS q = S := ⟨_, rfl⟩
      rw [hA] at oA lA rA
      rw [hB] at oB lB rB
      rw [hA, hB]
      have hs : (compD (plS A) (plS B)).s = A ++ B.map (stN ([(A.length : Int)] ++ tailN (1 + (A.length : Int)) B.length)) := rfl
      have hev := evU_comp (A := A) oB B.length (Nat.le_refl _)
      rw [List.take_of_length_le (Nat.le_refl _), lA] at hev
      have hlA := evU_full A
      have hlB := evU_full B
      have hn : (p : Int) * (q : Int) = (n : Int) := by rw [← c]; push_cast; rfl
      have hp0 : (1 : Int) ≤ (p : Int) := by have := rA ((p : Int)) (by rw [← lA, List.getD_eq_getElem?_getD, List.getElem?_eq_getElem (by omega)]; exact List.getElem_mem _); omega
      have hmul : ∀ x : Int, 1 ≤ x → x ≤ (q : Int) → 1 ≤ (p : Int) * x ∧ (p : Int) * x ≤ (n : Int) := fun x h1 h2 => by
        have m1 : 1 * 1 ≤ (p : Int) * x := Int.mul_le_mul hp0 h1 (by omega) (by omega)
        have m2 : (p : Int) * x ≤ (p : Int) * q := Int.mul_le_mul_of_nonneg_left h2 (by omega)
        omega
      have hq1 : (1 : Int) ≤ (q : Int) := by have := rB ((q : Int)) (by rw [← lB, List.getD_eq_getElem?_getD, List.getElem?_eq_getElem (by omega)]; exact List.getElem_mem _); omega
      have hpn : (p : Int) ≤ n := by have := (hmul 1 (by omega) hq1).2; omega
      rw [hs]
      refine ⟨fun i hi => ?_, ?_, ?_⟩
      · rcases Nat.lt_or_ge i A.length with h | h
        · rw [List.getElem_append_left h]; exact oA i h
        · rw [List.getElem_append_right h, List.getElem_map]
          simp at hi
          obtain ⟨b1, b2, b3⟩ := oB (i - A.length) (by omega)
          unfold stN
          rw [nm_get _ _ (by omega), nm_get _ _ (by omega), stI_min]
          simp only
          omega
      · rw [hev, List.length_append, List.length_map, List.getD_eq_getElem?_getD]
        rcases Nat.eq_zero_or_pos B.length with h0 | h0
        · have hq2 : (q : Int) = 1 := by
            rw [← lB, h0]
            have hBn : B = [] := List.eq_nil_of_length_eq_zero h0
            rw [hBn]
            rfl
          rw [List.getElem?_append_left (by omega), h0, Nat.add_zero, ← List.getD_eq_getElem?_getD, lA]
          rw [hq2] at hn
          omega
        · rw [List.getElem?_append_right (by omega), List.getElem?_map, List.getElem?_drop, show 1 + (A.length + B.length - (evU A).length) = B.length by omega, List.getElem?_eq_getElem (by omega)]
          rw [List.getD_eq_getElem?_getD, List.getElem?_eq_getElem (by omega)] at lB
          simp at lB
          simp [lB, hn]
      · intro x hx
        rw [hev] at hx
        rcases List.mem_append.1 hx with h | h
        · have := rA x h; omega
        · obtain ⟨y, hy, rfl⟩ := List.mem_map.1 h
          have := rB y (List.mem_of_mem_drop hy)
          exact hmul y this.1 this.2
theorem facP_good {n : Nat} (h1 : 1 ≤ n) (hn : n ≤ 1000000) : good (facP n) = true ∧ (facP n).s.length ≤ 39 := by
  obtain ⟨o, l, r⟩ := fc_ok n h1
  have hl := fac_len39 h1 hn
  refine ⟨?_, hl⟩
  unfold facP plS
  obtain ⟨S, hS⟩ : ∃ S, facS n = S := ⟨_, rfl⟩
  rw [hS] at o l r hl
  rw [hS]
  have h2 : okPre 1 S S.length = true := okPre_ofS (n := 1) o _ (Nat.le_refl _)
  have h3 : expsB (exps 1 S) = true := by
    rw [evU_exps o (fun e he => by have := r e he; omega)]
    unfold expsB
    rw [List.all_eq_true]
    intro x hx
    obtain ⟨e, he, rfl⟩ := List.mem_map.1 hx
    have := r e he
    simp [allB, inB]
    omega
  have h4 : allB [(S.length : Int)] 0 (1 + (S.length : Int) - 1) = true := by
    simp [allB, inB]
    omega
  unfold good
  simp only [show ((1 : Int)).toNat = 1 from rfl]
  rw [h2, h3, h4]
  simp [inB]
  omega
end Go.Proofs.Ytodjnafalbbmjaa
/- Plans by factors, by the model. -/
namespace Go.Proofs.Ytodjnafalbbmjaa
open Go.RowKit

theorem box_at {w w1 : World} {a b c : Value} (h : w.alloc (.cells #[a, b, c] 33) = w1) : w1.heap[w.heap.size]? = some (.cells #[a, b, c] 33 (0, 0)) ∧ w1.heap.size = w.heap.size + 1 ∧ Below w.heap.size w w1 := by
  subst h
  exact ⟨heap_alloc_new w _, by simp, (Below.refl _ _).alloc (Nat.le_refl _) _⟩

set_option maxRecDepth 100000 in
set_option maxHeartbeats 4000000 in
theorem meFactors_any : ∀ n, 1 ≤ n → n ≤ 1000000 → ∀ w,
    Calls Try.prog 58 #[.int .i64 ((n : Nat) : Int)] w fun e w' =>
      ∃ A1 A2 c1 c2, e = .returned (.agg #[.int .i64 (facP n).n, .slice A1 (facP n).s.length c1, .slice A2 (facP n).o.length c2]) ∧ OwP w' w.heap.size A1 A2 c1 c2 (facP n) ∧ Below w.heap.size w w' := by
  intro n
  induction n using Nat.strongRecOn with
  | ind n ih =>
    intro h1 hn w
    have IH := Lib.hid ih
    clear ih
    by_cases hone : n = 1
    · subst hone
      have E := Lib.hid (show facP 1 = ⟨1, [], [0]⟩ from rfl)
      rw [E.out]
      go_enter Try.func58, Try.ntmps58
      go_wp2_with fail
      go_at_call 63
      generalize hw1 : World.alloc w _ = w1
      obtain ⟨q0, xs, xb⟩ := zero_box hw1
      clear hw1
      refine (meEnd_any w1.heap.size none none 0 0 0 1 0 [] w1 (Nat.le_refl _) (World.ownsRow_nil _ _ _ _)).mono ?_
      rintro e w3 ⟨A5, rfl, hs3, ho3, hb3⟩
      have q3 := (hb3.block w.heap.size (by omega)).trans q0
      obtain ⟨t0, t1, t2, g0, g1, g2⟩ := cells3 q3
      have B3 := Lib.hid (xb.trans (hb3.mono (by omega)))
      have Q3 := Lib.hid q3
      have OO := Lib.hid ho3
      clear q0 xb hs3 ho3 hb3 q3
      go_wp2
      refine bodyPost_ret (v := .agg #[.int .i64 1, .slice none 0 0, .slice A5 1 1]) (by simp [results, Try.results58, go_sem, t0, t1, t2]) rfl ⟨none, A5, 0, 1, rfl, ?_, ?_⟩
      · exact owP_of3 (show OwS _ _ (.slice none ([] : List (Int × Int)).length 0) [] from World.ownsRow_nil _ _ _ _) (own_base OO.out (by omega)) Q3.out (by decide) (by decide) rfl rfl _ _ _
      · exact ((B3.out.setCell (Nat.le_refl _) _).setCell (Nat.le_refl _) _).setCell (Nat.le_refl _) _
    have h2 : 2 ≤ n := by omega
    have hone' : (((n : Nat) : Int) == 1) = false := by simp; omega
    obtain ⟨p1, p2, p3, p4, p5⟩ := lfac_facts h2
    by_cases hp : lfac n = n
    · obtain ⟨m, hm⟩ : ∃ m, n = m + 1 := ⟨n - 1, by omega⟩
      have ES := Lib.hid (show facP n = plS (facS m ++ [stI ((facS m).length : Int) 0]) by unfold facP; rw [facS_prime h2 hp, show n - 1 = m by omega])
      have hIH := fun W => IH.out m (by omega) (by omega) (by omega) W
      have em : ((n : Nat) : Int) - 1 = (m : Int) := by omega
      have hl := fac_len39 (n := m) (by omega) (by omega)
      obtain ⟨S, hS⟩ : ∃ S, facS m = S := ⟨_, rfl⟩
      rw [show facP m = plS S by unfold facP; rw [hS]] at hIH
      rw [hS] at ES hl
      have HIH := Lib.hid (show ∀ W : World, Calls Try.prog 58 #[.int .i64 (m : Int)] W fun e w' => ∃ A1 A2 c1 c2, e = .returned (.agg #[.int .i64 1, .slice A1 S.length c1, .slice A2 1 c2]) ∧ (OwS w' W.heap.size (.slice A1 S.length c1) S ∧ OwI w' W.heap.size (.slice A2 1 c2) [(S.length : Int)]) ∧ Below W.heap.size W w' from hIH)
      have HP := Lib.hid hp
      obtain ⟨T, hT⟩ : ∃ T, S ++ [stI (S.length : Int) 0] = T := ⟨_, rfl⟩
      have HTL := Lib.hid (show T.length = S.length + 1 by rw [← hT]; simp)
      rw [hT] at ES
      rw [ES.out]
      have HT := Lib.hid hT
      clear hT
      clear hIH hm p1 p2 p3 p4 p5 hp hS
      go_enter Try.func58, Try.ntmps58
      go_wp2_with fail
      go_at_call 44
      generalize hw1 : World.alloc w _ = w1
      obtain ⟨q0, xs, xb⟩ := zero_box hw1
      clear hw1
      refine (meFactor_any n w1 hn).mono ?_
      rw [HP.out]
      rintro e w' ⟨rfl, hww⟩
      subst w'
      have Q0 := Lib.hid q0
      have XB := Lib.hid xb
      have XS := Lib.hid xs
      clear q0 xs xb
      go_wp2_with fail
      go_at_call 58
      refine (HIH.out w1).mono ?_
      rintro e w2 ⟨A1, A2, c1, c2, rfl, ho2, hb2⟩
      have O2 := Lib.hid ho2
      have B2 := Lib.hid hb2
      clear ho2 hb2
      go_wp2_with fail
      generalize hw3 : World.alloc w2 _ = w3
      obtain ⟨q3, s3, b3⟩ := box_at hw3
      clear hw3
      obtain ⟨b, off, hA2, hb, hout⟩ := (show OwI w2 w1.heap.size (.slice A2 [(S.length : Int)].length c2) [(S.length : Int)] from O2.out.2).rd.int (k := 0) (by simp)
      subst hA2
      obtain ⟨y0, y1, y2, _, _, _⟩ := cells3 q3
      have FS := Lib.hid (show ∀ x, Below w3.heap.size w3 x → x.cell? ⟨w2.heap.size, 0, none⟩ = some (.int .i64 1) ∧ x.cell? ⟨w2.heap.size, 1, none⟩ = some (.slice A1 S.length c1) ∧ x.cell? ⟨w2.heap.size, 2, none⟩ = some (.slice (some ⟨b, off, none⟩) 1 c2) ∧ x.cell? ⟨b, off, none⟩ = some (.int .i64 (S.length : Int)) from fun x hx =>
        ⟨(hx.cell (p := ⟨w2.heap.size, 0, none⟩) (by simp only []; omega)).trans y0, (hx.cell (p := ⟨w2.heap.size, 1, none⟩) (by simp only []; omega)).trans y1, (hx.cell (p := ⟨w2.heap.size, 2, none⟩) (by simp only []; omega)).trans y2,
          (hx.cell (p := ⟨b, off, none⟩) (by simp only []; omega)).trans ((b3.cell (p := ⟨b, off, none⟩) (by simp only []; omega)).trans hout)⟩)
      have O3 := Lib.hid (own_below O2.out.1 b3)
      have B3 := Lib.hid (B2.out.trans (b3.mono B2.out.size))
      have hs23 := B3.out.size
      have HC := Lib.hid (show Below w3.heap.size w3 w3.drew from (Below.refl _ _).drew)
      clear q3 b3 y0 y1 y2 hout
      refine wp_region_T (fun x : World => Below w3.heap.size w3 x) [0, 1, 2, 3, 4, 6, 7, 8, 11] [0, 2, 4] (.lp 1 (.ls 0 (.ls 2 (.lp 3 (.ls 4 (.hv2 5 (.lp 6 (.lp 7 (.lp 8 (.hv 9 (.hv 10 (.lp 11 (.done))))))) 9 (.hv 5 (.lp 6 (.lp 7 (.lp 8 (.hv 10 (.lp 11 (.done))))))))))))) (by kernel_rfl) (by kernel_rfl) ?_
      (repeat (refine T_lp rfl (fun K hK => ?_); go_simp; refine hK _ ?_; clear hK K))
      refine T_ls1 (v := .agg #[.int .i64 1, .slice A1 S.length c1, .slice (some ⟨b, off, none⟩) 1 c2]) rfl rfl HC.out (fun x hx => (by obtain ⟨h0, h1, h2, h3⟩ := FS.out x hx; go_simp)) (fun K hK => ?_)
      (go_simp; refine hK _ ?_; clear hK K)
      refine T_ls1 (v := .slice (some ⟨b, off, none⟩) 1 c2) rfl rfl HC.out (fun x hx => (by obtain ⟨h0, h1, h2, h3⟩ := FS.out x hx; go_simp)) (fun K hK => ?_)
      (go_simp; refine hK _ ?_; clear hK K)
      (repeat (refine T_lp rfl (fun K hK => ?_); go_simp; refine hK _ ?_; clear hK K))
      refine T_ls1 (v := .int .i64 (S.length : Int)) rfl rfl HC.out (fun x hx => (by obtain ⟨h0, h1, h2, h3⟩ := FS.out x hx; go_simp)) (fun K hK => ?_)
      (go_simp; refine hK _ ?_; clear hK K)
      generalize World.drew w3 = wd at HC ⊢
      refine T_hv2 ?_ ?_
      · refine T_hvS rfl (fun K hK => ?_)
        go_simp
        go_at_call 62
        refine (meTimes_any wd.heap.size A1 (some ⟨b, off, none⟩) c1 1 c2 1 S (S.length : Int) 0 wd (Nat.le_refl _) (by omega) (by omega) (by omega) (Rd.of_own (own_below O3.out HC.out))).mono ?_
        rintro e x1 ⟨A4, c4, rfl, ho4, hb4⟩
        go_simp
        refine hK _ _ (HC.out.trans (hb4.mono HC.out.size)) ?_
        clear hK K
        rw [HT.out] at ho4
        have OW := Lib.hid ho4
        have HOB := Lib.hid (show w3.heap.size ≤ wd.heap.size from HC.out.size)
        have HC := Lib.hid (HC.out.trans (hb4.mono HC.out.size))
        have OWS := Lib.hid (show OwS x1 w3.heap.size (.slice A4 (S.length + 1) c4) T from own_base OW.out HOB.out)
        clear ho4 hb4
        (repeat (refine T_lp rfl (fun K hK => ?_); go_simp; refine hK _ ?_; clear hK K))
        refine T_hvS rfl (fun K hK => ?_)
        go_simp
        refine hK _ _ (HC.out.alloc HC.out.size _) ?_
        clear hK K
        generalize hx : World.alloc x1 _ = x2
        obtain ⟨gb, _, hbx⟩ := box_at hx
        have GB := Lib.hid gb
        have HGS := Lib.hid (show w3.heap.size ≤ x1.heap.size from HC.out.size)
        have OWS := Lib.hid (show OwS x2 w3.heap.size (.slice A4 (S.length + 1) c4) T from own_below OWS.out hbx)
        have HC := Lib.hid (HC.out.trans (hbx.mono HC.out.size))
        clear hx gb hbx
        obtain ⟨t0, t1, t2, g0, g1, g2⟩ := cells3 GB.out
        refine T_hvS rfl (fun K hK => ?_)
        go_simp
        obtain ⟨x7, hy⟩ : ∃ y, ((World.setCell x2 ⟨x1.heap.size, 0, none⟩ (.int .i64 1)).setCell ⟨x1.heap.size, 1, none⟩ (.slice A4 (S.length + 1) c4)).setCell ⟨x1.heap.size, 2, none⟩ (.slice none 0 0) = y := ⟨_, rfl⟩
        rw [hy]
        have hG := mt_set3 GB.out hy
        have hC := Lib.hid (show Below w3.heap.size w3 x7 from by subst hy; exact ((HC.out.setCell HGS.out _).setCell HGS.out _).setCell HGS.out _)
        have hO := Lib.hid (show OwS x7 w3.heap.size (.slice A4 (S.length + 1) c4) T from by subst hy; exact own_set3 OWS.out GB.out (by decide) _ _ _)
        refine hK _ _ hC.out ?_
        clear hK K hy t0 t1 t2 g0 g1 g2
        (repeat (refine T_lp rfl (fun K hK => ?_); go_simp; refine hK _ ?_; clear hK K))
        refine T_done ?_
        obtain ⟨t0, t1, t2, g0, g1, g2⟩ := cells3 hG
        have hE := meEnd_any w3.heap.size A4 none c4 0 0 1 (1 + (S.length : Int)) T x7 hC.out.size (by rw [HTL.out]; exact hO.out)
        rw [HTL.out] at hE
        have HE := Lib.hid hE
        clear hE hG
        go_wp2_with fail
        go_at_call 63
        refine HE.out.mono ?_
        rintro e w9 ⟨A5, rfl, hs9, ho9, hb9⟩
        have B9 := Lib.hid (B3.out.trans ((hC.out.trans (hb9.mono hC.out.size)).mono hs23))
        have Q9 := Lib.hid ((B9.out.block w.heap.size (by have := XS.out; omega)).trans Q0.out)
        have OS := Lib.hid hs9
        have OO := Lib.hid ho9
        have hC9 := hC.out.size
        clear hs9 ho9 hb9 t0 t1 t2 g0 g1 g2
        obtain ⟨t0, t1, t2, g0, g1, g2⟩ := cells3 Q9.out
        go_wp2
        refine bodyPost_ret (v := .agg #[.int .i64 1, .slice A4 (S.length + 1) c4, .slice A5 1 1]) (by simp [results, Try.results58, go_sem, t0, t1, t2]) rfl ⟨A4, A5, c4, 1, by show _ = Ending.returned (.agg #[.int .i64 1, .slice A4 T.length c4, .slice A5 1 1]); rw [HTL.out], ?_, ?_⟩
        · refine owP_of3 (show OwS w9 w.heap.size (.slice A4 T.length c4) T from ?_) (show OwI w9 w.heap.size (.slice A5 [(T.length : Int)].length 1) [(T.length : Int)] from ?_) Q9.out (by decide) (by decide) rfl rfl _ _ _
          · rw [HTL.out]; exact own_base OS.out (by have := XS.out; omega)
          · rw [HTL.out, show ((S.length + 1 : Nat) : Int) = 1 + (S.length : Int) by omega]; exact own_base OO.out (by have := XS.out; omega)
        · exact ((((XB.out.trans (B9.out.mono (by have := XS.out; omega)))).setCell (Nat.le_refl _) _).setCell (Nat.le_refl _) _).setCell (Nat.le_refl _) _
      · refine T_hvS rfl (fun K hK => ?_)
        go_simp
        refine hK _ _ (HC.out.alloc HC.out.size _) ?_
        clear hK K
        generalize hx : World.alloc wd _ = x1
        obtain ⟨gb, _, hbx⟩ := box_at hx
        have GB := Lib.hid gb
        have HGS := Lib.hid (show w3.heap.size ≤ wd.heap.size from HC.out.size)
        have HC := Lib.hid (HC.out.trans (hbx.mono HC.out.size))
        clear hx gb hbx
        refine T_hvS rfl (fun K hK => ?_)
        go_simp
        go_at_call 62
        refine (meTimes_any x1.heap.size A1 (some ⟨b, off, none⟩) c1 1 c2 1 S (S.length : Int) 0 x1 (Nat.le_refl _) (by omega) (by omega) (by omega) (Rd.of_own (own_below O3.out HC.out))).mono ?_
        rintro e x2 ⟨A4, c4, rfl, ho4, hb4⟩
        go_simp
        refine hK _ _ (HC.out.trans (hb4.mono HC.out.size)) ?_
        clear hK K
        rw [HT.out] at ho4
        have OW := Lib.hid ho4
        have GB := Lib.hid ((hb4.block _ (Array.getElem?_eq_some_iff.1 GB.out).1).trans GB.out)
        have HOB := Lib.hid (show w3.heap.size ≤ x1.heap.size from HC.out.size)
        have HC := Lib.hid (HC.out.trans (hb4.mono HC.out.size))
        have OWS := Lib.hid (show OwS x2 w3.heap.size (.slice A4 (S.length + 1) c4) T from own_base OW.out HOB.out)
        clear ho4 hb4
        (repeat (refine T_lp rfl (fun K hK => ?_); go_simp; refine hK _ ?_; clear hK K))
        obtain ⟨t0, t1, t2, g0, g1, g2⟩ := cells3 GB.out
        refine T_hvS rfl (fun K hK => ?_)
        go_simp
        obtain ⟨x7, hy⟩ : ∃ y, ((World.setCell x2 ⟨wd.heap.size, 0, none⟩ (.int .i64 1)).setCell ⟨wd.heap.size, 1, none⟩ (.slice A4 (S.length + 1) c4)).setCell ⟨wd.heap.size, 2, none⟩ (.slice none 0 0) = y := ⟨_, rfl⟩
        rw [hy]
        have hG := mt_set3 GB.out hy
        have hC := Lib.hid (show Below w3.heap.size w3 x7 from by subst hy; exact ((HC.out.setCell HGS.out _).setCell HGS.out _).setCell HGS.out _)
        have hO := Lib.hid (show OwS x7 w3.heap.size (.slice A4 (S.length + 1) c4) T from by subst hy; exact own_set3 OWS.out GB.out (by decide) _ _ _)
        refine hK _ _ hC.out ?_
        clear hK K hy t0 t1 t2 g0 g1 g2
        (repeat (refine T_lp rfl (fun K hK => ?_); go_simp; refine hK _ ?_; clear hK K))
        refine T_done ?_
        obtain ⟨t0, t1, t2, g0, g1, g2⟩ := cells3 hG
        have hE := meEnd_any w3.heap.size A4 none c4 0 0 1 (1 + (S.length : Int)) T x7 hC.out.size (by rw [HTL.out]; exact hO.out)
        rw [HTL.out] at hE
        have HE := Lib.hid hE
        clear hE hG
        go_wp2_with fail
        go_at_call 63
        refine HE.out.mono ?_
        rintro e w9 ⟨A5, rfl, hs9, ho9, hb9⟩
        have B9 := Lib.hid (B3.out.trans ((hC.out.trans (hb9.mono hC.out.size)).mono hs23))
        have Q9 := Lib.hid ((B9.out.block w.heap.size (by have := XS.out; omega)).trans Q0.out)
        have OS := Lib.hid hs9
        have OO := Lib.hid ho9
        have hC9 := hC.out.size
        clear hs9 ho9 hb9 t0 t1 t2 g0 g1 g2
        obtain ⟨t0, t1, t2, g0, g1, g2⟩ := cells3 Q9.out
        go_wp2
        refine bodyPost_ret (v := .agg #[.int .i64 1, .slice A4 (S.length + 1) c4, .slice A5 1 1]) (by simp [results, Try.results58, go_sem, t0, t1, t2]) rfl ⟨A4, A5, c4, 1, by show _ = Ending.returned (.agg #[.int .i64 1, .slice A4 T.length c4, .slice A5 1 1]); rw [HTL.out], ?_, ?_⟩
        · refine owP_of3 (show OwS w9 w.heap.size (.slice A4 T.length c4) T from ?_) (show OwI w9 w.heap.size (.slice A5 [(T.length : Int)].length 1) [(T.length : Int)] from ?_) Q9.out (by decide) (by decide) rfl rfl _ _ _
          · rw [HTL.out]; exact own_base OS.out (by have := XS.out; omega)
          · rw [HTL.out, show ((S.length + 1 : Nat) : Int) = 1 + (S.length : Int) by omega]; exact own_base OO.out (by have := XS.out; omega)
        · exact ((((XB.out.trans (B9.out.mono (by have := XS.out; omega)))).setCell (Nat.le_refl _) _).setCell (Nat.le_refl _) _).setCell (Nat.le_refl _) _
    · have hpn : ((((lfac n : Nat) : Int) == ((n : Nat) : Int))) = false := by simp; omega
      have ES := Lib.hid (facP_comp h2 hp)
      obtain ⟨q, hq⟩ : ∃ q, n / lfac n = q := ⟨_, rfl⟩
      obtain ⟨p, hpp⟩ : ∃ p, lfac n = p := ⟨_, rfl⟩
      have hdiv : ((n : Nat) : Int) / ((p : Nat) : Int) = (q : Int) := by rw [← hq, ← hpp]; omega
      have hMF := fun W => meFactor_any n W hn
      rw [hpp] at hMF hpn
      rw [hq, hpp] at ES
      rw [hq] at p3 p4 p5
      rw [hpp] at p1 p2 p3
      have hpn' : p < n := by
        rcases Nat.lt_or_eq_of_le p2 with h | h
        · exact h
        · exact absurd (hpp.trans h) hp
      have hIHp := fun W => IH.out p (by omega) (by omega) (by omega) W
      have hIHq := fun W => IH.out q (by omega) (by omega) (by omega) W
      obtain ⟨okB, _, _⟩ := fc_ok q (by omega)
      have hlA := fac_len39 (n := p) (by omega) (by omega)
      have hlB := fac_len39 (n := q) (by omega) (by omega)
      obtain ⟨SA, hSA⟩ : ∃ S, facS p = S := ⟨_, rfl⟩
      obtain ⟨SB, hSB⟩ : ∃ S, facS q = S := ⟨_, rfl⟩
      rw [hSB] at okB hlB
      rw [hSA] at hlA
      rw [show facP p = plS SA by unfold facP; rw [hSA]] at hIHp ES
      rw [show facP q = plS SB by unfold facP; rw [hSB]] at hIHq ES
      have HIHP := Lib.hid (show ∀ W : World, Calls Try.prog 58 #[.int .i64 (p : Int)] W fun e w' => ∃ A1 A2 c1 c2, e = .returned (.agg #[.int .i64 1, .slice A1 SA.length c1, .slice A2 1 c2]) ∧ (OwS w' W.heap.size (.slice A1 SA.length c1) SA ∧ OwI w' W.heap.size (.slice A2 1 c2) [(SA.length : Int)]) ∧ Below W.heap.size W w' from hIHp)
      have HIHQ := Lib.hid (show ∀ W : World, Calls Try.prog 58 #[.int .i64 (q : Int)] W fun e w' => ∃ A1 A2 c1 c2, e = .returned (.agg #[.int .i64 1, .slice A1 SB.length c1, .slice A2 1 c2]) ∧ (OwS w' W.heap.size (.slice A1 SB.length c1) SB ∧ OwI w' W.heap.size (.slice A2 1 c2) [(SB.length : Int)]) ∧ Below W.heap.size W w' from hIHq)
      have hT := fun W A1 D1 D2 A c1 d1 d2 c h1 h2 h3 => plThen_any W.heap.size 1 A1 D1 D2 A c1 d1 d2 c SA (plS SB) [(SA.length : Int)] W (by omega) (by omega) (show SB.length ≤ 1000 by omega) (by simp [plS]) (by simp) (Nat.le_refl _) okB (by intro x hx; have e : x = (SB.length : Int) := (by simpa [plS] using hx); subst e; show (0 : Int) ≤ _ ∧ _ < ((1 : Nat) : Int) + (SB.length : Int); omega) h1 h2 h3
      obtain ⟨T, hTT⟩ : ∃ T, compD (plS SA) (plS SB) = T := ⟨_, rfl⟩
      have HTS := Lib.hid (show T.s.length = SA.length + SB.length by rw [← hTT]; exact compD_s _ _)
      have HTO := Lib.hid (show T.o.length = 1 by rw [← hTT]; exact compD_o _ _)
      have HTN := Lib.hid (show T.n = 1 by rw [← hTT]; rfl)
      have HT := Lib.hid (show ∀ (W : World) (A1 D1 D2 A : Option Addr) (c1 d1 d2 c : Nat), Rd W W.heap.size 2 A1 SA.length (fl SA) → RdP W W.heap.size D1 D2 (plS SB) → Rd W W.heap.size 1 A 1 ([(SA.length : Int)].map I) →
        Calls Try.prog 70 #[.slice A1 SA.length c1, .int .i64 1, .agg #[.int .i64 1, .slice D1 SB.length d1, .slice D2 1 d2], .slice A 1 c] W fun e w' =>
          ∃ E1 E2 e1 e2, e = .returned (.tuple #[.slice E1 (SA.length + SB.length) e1, .slice E2 1 e2]) ∧ OwS w' W.heap.size (.slice E1 (SA.length + SB.length) e1) T.s ∧ OwI w' W.heap.size (.slice E2 1 e2) T.o ∧ Below W.heap.size W w' from by
          subst hTT
          exact hT)
      rw [hTT] at ES
      rw [ES.out]
      have HMF := Lib.hid hMF
      have HDV := Lib.hid (show IntKind.i64.wrap ((n : Int) / (p : Int)) = (q : Int) by rw [hdiv]; exact IntWalk.i64_in _ (by omega))
      have hpz : ¬ p = 0 := by omega
      clear hT hTT hIHp hIHq okB hSA hSB hMF hpp hq p3 p4 p5 hp IH hdiv
      go_enter Try.func58, Try.ntmps58
      go_wp2_with fail
      go_at_call 44
      generalize hw1 : World.alloc w _ = w1
      obtain ⟨q0, xs, xb⟩ := zero_box hw1
      clear hw1
      refine (HMF.out w1).mono ?_
      rintro e w' ⟨rfl, hww⟩
      subst w'
      have Q0 := Lib.hid q0
      have XB := Lib.hid xb
      have XS := Lib.hid xs
      clear q0 xs xb
      go_wp2_with fail
      go_at_call 58
      refine (HIHP.out w1).mono ?_
      rintro e w2 ⟨A1, A2, c1, c2, rfl, ho2, hb2⟩
      have O2 := Lib.hid ho2
      have B2 := Lib.hid hb2
      clear ho2 hb2
      go_wp2_with fail
      generalize hw3 : World.alloc w2 _ = w3
      obtain ⟨q3, s3, b3⟩ := box_at hw3
      clear hw3
      obtain ⟨y0, y1, y2, _, _, _⟩ := cells3 q3
      have FS := Lib.hid (show ∀ x, Below w3.heap.size w3 x → x.cell? ⟨w2.heap.size, 0, none⟩ = some (.int .i64 1) ∧ x.cell? ⟨w2.heap.size, 1, none⟩ = some (.slice A1 SA.length c1) ∧ x.cell? ⟨w2.heap.size, 2, none⟩ = some (.slice A2 1 c2) from fun x hx =>
        ⟨(hx.cell (p := ⟨w2.heap.size, 0, none⟩) (by simp only []; omega)).trans y0, (hx.cell (p := ⟨w2.heap.size, 1, none⟩) (by simp only []; omega)).trans y1, (hx.cell (p := ⟨w2.heap.size, 2, none⟩) (by simp only []; omega)).trans y2⟩)
      have O3 := Lib.hid (show OwS w3 w1.heap.size (.slice A1 SA.length c1) SA ∧ OwI w3 w1.heap.size (.slice A2 1 c2) [(SA.length : Int)] from ⟨own_below O2.out.1 b3, own_below (show OwI w2 w1.heap.size (.slice A2 1 c2) [(SA.length : Int)] from O2.out.2) b3⟩)
      have B3 := Lib.hid (B2.out.trans (b3.mono B2.out.size))
      have hs23 := B3.out.size
      have HC := Lib.hid (show Below w3.heap.size w3 w3.drew from (Below.refl _ _).drew)
      clear q3 b3 y0 y1 y2
      refine wp_region_T (fun x : World => Below w3.heap.size w3 x) [0, 1, 2, 3, 4, 6, 7, 9, 10, 11, 12, 13] [1, 7] (.lp 0 (.lp 2 (.lp 3 (.lp 4 (.lp 6 (.ls 1 (.ls 7 (.hv 5 (.hv 8 (.lp 9 (.lp 10 (.lp 11 (.lp 12 (.lp 13 (.done))))))))))))))) (by kernel_rfl) (by kernel_rfl) ?_
      (repeat (refine T_lp rfl (fun K hK => ?_); go_simp; refine hK _ ?_; clear hK K))
      rw [HDV.out]
      refine T_ls1 (v := .slice A1 SA.length c1) rfl rfl HC.out (fun x hx => (by obtain ⟨h0, h1, h2⟩ := FS.out x hx; go_simp)) (fun K hK => ?_)
      (go_simp; refine hK _ ?_; clear hK K)
      refine T_ls1 (v := .slice A2 1 c2) rfl rfl HC.out (fun x hx => (by obtain ⟨h0, h1, h2⟩ := FS.out x hx; go_simp)) (fun K hK => ?_)
      (go_simp; refine hK _ ?_; clear hK K)
      generalize World.drew w3 = wd at HC ⊢
      refine T_hvS rfl (fun K hK => ?_)
      go_simp
      go_at_call 58
      refine (HIHQ.out wd).mono ?_
      rintro e x1 ⟨D1, D2, d1, d2, rfl, ho4, hb4⟩
      go_simp
      refine hK _ _ (HC.out.trans (hb4.mono HC.out.size)) ?_
      clear hK K
      have O4 := Lib.hid (show RdP x1 x1.heap.size D1 D2 (plS SB) from ⟨Rd.of_own ho4.1, Rd.of_own ho4.2⟩)
      have HC := Lib.hid (HC.out.trans (hb4.mono HC.out.size))
      clear ho4 hb4
      refine T_hvS rfl (fun K hK => ?_)
      go_simp
      go_at_call 70
      refine (HT.out x1 A1 D1 D2 A2 c1 d1 d2 c2 (Rd.of_own (own_below O3.out.1 HC.out)) O4.out (Rd.of_own (own_below O3.out.2 HC.out))).mono ?_
      rintro e x2 ⟨E1, E2, e1, e2, rfl, hs5, ho5, hb5⟩
      go_simp
      refine hK _ _ (HC.out.trans (hb5.mono HC.out.size)) ?_
      clear hK K
      have S5 := Lib.hid hs5
      have I5 := Lib.hid ho5
      have hs1 := HC.out.size
      have HC := Lib.hid (HC.out.trans (hb5.mono HC.out.size))
      clear hs5 ho5 hb5
      (repeat (refine T_lp rfl (fun K hK => ?_); go_simp; refine hK _ ?_; clear hK K))
      refine T_done ?_
      have B9 := Lib.hid (B3.out.trans (HC.out.mono hs23))
      have Q9 := Lib.hid ((B9.out.block w.heap.size (by have := XS.out; omega)).trans Q0.out)
      obtain ⟨t0, t1, t2, g0, g1, g2⟩ := cells3 Q9.out
      go_wp2
      refine bodyPost_ret (v := .agg #[.int .i64 1, .slice E1 (SA.length + SB.length) e1, .slice E2 1 e2]) (by simp [results, Try.results58, go_sem, t0, t1, t2]) rfl ⟨E1, E2, e1, e2, by rw [HTN.out, HTS.out, HTO.out], ?_, ?_⟩
      · refine owP_of3 (z := 1) (s := T.s) (o := T.o) (show OwS x2 w.heap.size (.slice E1 T.s.length e1) T.s from ?_) (show OwI x2 w.heap.size (.slice E2 T.o.length e2) T.o from ?_) Q9.out (by decide) (by decide) rfl rfl _ _ _
        · rw [HTS.out]; exact own_base S5.out (by have := XS.out; omega)
        · rw [HTO.out]; exact own_base I5.out (by have := XS.out; omega)
      · exact ((((XB.out.trans (B9.out.mono (by have := XS.out; omega)))).setCell (Nat.le_refl _) _).setCell (Nat.le_refl _) _).setCell (Nat.le_refl _) _
end Go.Proofs.Ytodjnafalbbmjaa
/- Plans by windows at all places, as data: exponents, used steps, what trimming leaves. -/
namespace Go.Proofs.Ytodjnafalbbmjaa
open Go.RowKit

/-- The powers of the input up to g. -/
def pwS (g : Nat) : List (Int × Int) := (List.range (g - 1)).map fun i : Nat => ((0 : Int), (i : Int))
def pwE (g : Nat) : List Int := (List.range g).map fun i : Nat => ((i + 1 : Nat) : Int)
/-- Behind j + 1 digits d from the highest one on, k squares each. -/
def wdX (g k : Nat) (d : Nat → Nat) : Nat → List (Int × Int) × Int
  | 0 => (pwS g, (d 0 : Int) - 1)
  | j + 1 => if d (j + 1) = 0 then sqN 1 (wdX g k d j) k else muS 1 (sqN 1 (wdX g k d j) k) ((d (j + 1) : Int) - 1)
theorem pwS_len (g : Nat) : (pwS g).length = g - 1 := by simp [pwS]
theorem pwS_succ {g : Nat} (h : 1 ≤ g) : pwS (g + 1) = pwS g ++ [(0, ((g - 1 : Nat) : Int))] := by
  unfold pwS
  rw [show g + 1 - 1 = (g - 1) + 1 by omega, List.range_succ]
  simp
theorem wdX_len (g k : Nat) (d : Nat → Nat) (j : Nat) : (wdX g k d j).1.length ≤ (g - 1) + (k + 1) * j := by
  induction j with
  | zero => simp [wdX, pwS_len]
  | succ j ih =>
    have h : (sqN 1 (wdX g k d j) k).1.length ≤ (g - 1) + (k + 1) * j + k := by rw [sqN_len]; omega
    rw [Nat.mul_succ]
    unfold wdX
    split
    · omega
    · show ((sqN 1 (wdX g k d j) k).1 ++ [_]).length ≤ _
      rw [List.length_append, List.length_singleton]
      omega

structure SInv (n : Int) (P : List Int) (x : List (Int × Int) × Int) (v : Int) : Prop where
  ok : OkS 1 x.1
  rng : 0 ≤ x.2 ∧ x.2 ≤ x.1.length
  pre : ∃ t, evU x.1 = P ++ t
  val : (evU x.1).getD x.2.toNat 0 = v
  bnd : ∀ e ∈ evU x.1, 1 ≤ e ∧ e ≤ n
theorem muS_len (x : List (Int × Int) × Int) (b : Int) : (muS 1 x b).1.length = x.1.length + 1 := by simp [muS]
theorem evU_mu (x : List (Int × Int) × Int) (b : Int) {v e : Int} (hv : (evU x.1).getD x.2.toNat 0 = v) (he : (evU x.1).getD b.toNat 0 = e) : evU (muS 1 x b).1 = evU x.1 ++ [v + e] := by
  show evU (x.1 ++ [stI x.2 b]) = _
  rw [evU_snoc, stI_min]
  unfold evUS
  simp only
  congr 2
  rcases Int.le_total x.2 b with h | h
  · rw [show min x.2 b = x.2 by omega, show max x.2 b = b by omega, hv, he]
  · rw [show min x.2 b = b by omega, show max x.2 b = x.2 by omega, hv, he, Int.add_comm]
theorem oks_mu {x : List (Int × Int) × Int} {b : Int} (h : OkS 1 x.1) (hr : 0 ≤ x.2 ∧ x.2 ≤ x.1.length) (hb : 0 ≤ b ∧ b ≤ x.1.length) : OkS 1 (muS 1 x b).1 := by
  intro i hi
  rw [muS_len] at hi
  show 0 ≤ ((x.1 ++ [stI x.2 b])[i]'(by simp; omega)).1 ∧ ((x.1 ++ [stI x.2 b])[i]'(by simp; omega)).1 ≤ ((x.1 ++ [stI x.2 b])[i]'(by simp; omega)).2 ∧ ((x.1 ++ [stI x.2 b])[i]'(by simp; omega)).2 < ((1 : Nat) : Int) + i
  rcases Nat.lt_or_ge i x.1.length with hl | hl
  · rw [List.getElem_append_left hl]
    exact h i hl
  · have e : i = x.1.length := by omega
    subst e
    rw [List.getElem_append_right (Nat.le_refl _)]
    simp only [Nat.sub_self, List.getElem_singleton]
    rw [stI_min]
    simp only
    omega
theorem si_mu {n : Int} {P : List Int} {x : List (Int × Int) × Int} {v e b : Int} (h : SInv n P x v) (hb : 0 ≤ b ∧ b ≤ x.1.length) (he : (evU x.1).getD b.toNat 0 = e) (hle : v + e ≤ n) : SInv n P (muS 1 x b) (v + e) := by
  obtain ⟨ok, rng, ⟨t, ht⟩, val, bnd⟩ := h
  have hev := evU_mu x b val he
  have hfl := evU_full x.1
  have h1 : ∀ y : Nat, y ≤ x.1.length → 1 ≤ (evU x.1).getD y 0 := fun y hy => by
    rw [List.getD_eq_getElem?_getD, List.getElem?_eq_getElem (by omega)]
    exact (bnd _ (List.getElem_mem _)).1
  have hv1 := h1 x.2.toNat (by omega)
  have he1 := h1 b.toNat (by omega)
  rw [val] at hv1
  rw [he] at he1
  refine ⟨oks_mu ok rng hb, ?_, ⟨t ++ [v + e], by rw [hev, ht, List.append_assoc]⟩, ?_, ?_⟩
  · rw [muS_len]
    show 0 ≤ (1 : Int) + x.1.length ∧ (1 : Int) + x.1.length ≤ _
    omega
  · show (evU (muS 1 x b).1).getD ((1 : Int) + x.1.length).toNat 0 = _
    rw [hev, show ((1 : Int) + x.1.length).toNat = x.1.length + 1 by omega, List.getD_eq_getElem?_getD, List.getElem?_append_right (by omega), hfl]
    simp
  · intro y hy
    rw [hev] at hy
    rcases List.mem_append.1 hy with h | h
    · exact bnd y h
    · simp at h; omega
theorem si_sq {n : Int} {P : List Int} {x : List (Int × Int) × Int} {v : Int} (h : SInv n P x v) (h0 : 0 ≤ v) : ∀ m : Nat, v * 2 ^ m ≤ n → SInv n P (sqN 1 x m) (v * 2 ^ m) := by
  intro m
  induction m with
  | zero => intro _; rw [Int.pow_zero, Int.mul_one]; exact h
  | succ m ih =>
    intro hm
    have e : v * 2 ^ (m + 1) = v * 2 ^ m + v * 2 ^ m := by rw [Int.pow_succ, ← Int.mul_assoc]; omega
    have hp : 0 ≤ v * 2 ^ m := Int.mul_nonneg h0 (Int.pow_nonneg (by omega))
    have ih := ih (by omega)
    rw [e] at hm ⊢
    exact si_mu ih ih.rng ih.val hm

/-- The value of step i is used. -/
def Us (x : List (Int × Int) × Int) (i : Nat) : Prop := x.2 = 1 + (i : Int) ∨ ∃ i', ∃ h : i' < x.1.length, i < i' ∧ ((x.1[i']).1 = 1 + (i : Int) ∨ (x.1[i']).2 = 1 + (i : Int))
theorem mu_at {x : List (Int × Int) × Int} {b : Int} {i : Nat} (h : i < x.1.length) (h' : i < (muS 1 x b).1.length) : (muS 1 x b).1[i] = x.1[i] := by
  show (x.1 ++ [stI x.2 b])[i]'(by simp; omega) = _
  rw [List.getElem_append_left h]
theorem mu_last {x : List (Int × Int) × Int} {b : Int} (h' : x.1.length < (muS 1 x b).1.length) : (muS 1 x b).1[x.1.length] = (min x.2 b, max x.2 b) := by
  show (x.1 ++ [stI x.2 b])[x.1.length]'(by simp) = _
  rw [List.getElem_append_right (Nat.le_refl _)]
  simp only [Nat.sub_self, List.getElem_singleton]
  exact stI_min _ _
theorem us_of {x : List (Int × Int) × Int} {b : Int} {i : Nat} (hi : i < x.1.length) (h : x.2 = 1 + (i : Int) ∨ b = 1 + (i : Int)) : Us (muS 1 x b) i := by
  have hl := muS_len x b
  refine .inr ⟨x.1.length, by omega, hi, ?_⟩
  rw [mu_last]
  simp only
  omega
theorem us_mu {x : List (Int × Int) × Int} {b : Int} {i : Nat} (hi : i < x.1.length) (h : Us x i) : Us (muS 1 x b) i := by
  rcases h with h | ⟨i', h', h1, h2⟩
  · exact us_of hi (.inl h)
  · have hl := muS_len x b
    refine .inr ⟨i', by omega, h1, ?_⟩
    rw [mu_at h']
    exact h2
/-- All steps are used but perhaps the last power. -/
def AU (g : Nat) (q : Prop) (x : List (Int × Int) × Int) : Prop := g - 1 ≤ x.1.length ∧ ∀ i, i < x.1.length → Us x i ∨ (i + 2 = g ∧ ¬ q)
theorem au_mu {g : Nat} {q q' : Prop} {x : List (Int × Int) × Int} {b : Int} (h : AU g q x) (hq : q' → q ∨ b + 1 = (g : Int)) : AU g q' (muS 1 x b) := by
  have hl := muS_len x b
  refine ⟨by have := h.1; omega, fun i hi => ?_⟩
  rcases Nat.lt_or_ge i x.1.length with hlt | hge
  · rcases h.2 i hlt with h1 | ⟨h1, h2⟩
    · exact .inl (us_mu hlt h1)
    · by_cases hqq : q'
      · rcases hq hqq with h3 | h3
        · exact absurd h3 h2
        · exact .inl (us_of hlt (.inr (by omega)))
      · exact .inr ⟨h1, hqq⟩
  · refine .inl (.inl ?_)
    show (1 : Int) + x.1.length = _
    omega
theorem au_sq {g : Nat} {q : Prop} {x : List (Int × Int) × Int} (h : AU g q x) : ∀ m, AU g q (sqN 1 x m) := by
  intro m
  induction m with
  | zero => exact h
  | succ m ih => exact au_mu ih .inl

theorem evU_pw (g : Nat) (h : 1 ≤ g) : evU (pwS g) = pwE g := by
  induction g with
  | zero => omega
  | succ g ih =>
    rcases Nat.eq_zero_or_pos g with rfl | h0
    · rfl
    · rw [pwS_succ h0, evU_snoc, ih h0]
      unfold evUS
      simp only
      unfold pwE
      rw [List.range_succ, List.map_append, List.map_singleton]
      congr 2
      have h1 : ∀ y, y < g → ((List.range g).map fun i : Nat => ((i + 1 : Nat) : Int)).getD y 0 = ((y + 1 : Nat) : Int) := fun y hy => by simp [hy]
      rw [show ((0 : Int)).toNat = 0 from rfl, h1 0 h0, show (((g - 1 : Nat) : Int)).toNat = g - 1 by omega, h1 (g - 1) (by omega)]
      omega
theorem pwE_len (g : Nat) : (pwE g).length = g := by simp [pwE]
theorem pwE_at {g y : Nat} (h : y < g) : (pwE g).getD y 0 = ((y + 1 : Nat) : Int) := by simp [pwE, h]

structure DgOk (n g k L : Nat) (d v : Nat → Nat) : Prop where
  g1 : 1 ≤ g
  gn : g ≤ n
  L1 : 1 ≤ L
  d0 : 1 ≤ d 0
  dg : ∀ j, j < L → d j ≤ g
  v0 : v 0 = d 0
  vs : ∀ j, j + 1 < L → v (j + 1) = v j * 2 ^ k + d (j + 1)
  vn : ∀ j, j < L → v j ≤ n
  top : ∃ j, j < L ∧ d j = g
theorem wdX_inv {n g k L : Nat} {d v : Nat → Nat} (h : DgOk n g k L d v) : ∀ j, j < L → SInv n (pwE g) (wdX g k d j) (v j) ∧ AU g (∃ i, i ≤ j ∧ d i = g) (wdX g k d j) := by
  intro j
  induction j with
  | zero =>
    intro hj
    have hd := h.dg 0 hj
    have hd0 := h.d0
    have hev := evU_pw g h.g1
    refine ⟨⟨?_, ?_, ⟨[], by show evU (pwS g) = _; rw [hev]; simp⟩, ?_, ?_⟩, ?_, ?_⟩
    · intro i hi
      have hi' : i < (pwS g).length := hi
      show 0 ≤ ((pwS g)[i]).1 ∧ ((pwS g)[i]).1 ≤ ((pwS g)[i]).2 ∧ ((pwS g)[i]).2 < ((1 : Nat) : Int) + i
      have e : (pwS g)[i] = (0, (i : Int)) := by simp [pwS]
      rw [e]
      simp only
      omega
    · show 0 ≤ (d 0 : Int) - 1 ∧ (d 0 : Int) - 1 ≤ ((pwS g).length : Int)
      rw [pwS_len]
      omega
    · show (evU (pwS g)).getD ((d 0 : Int) - 1).toNat 0 = _
      rw [hev, show ((d 0 : Int) - 1).toNat = d 0 - 1 by omega, pwE_at (by omega), h.v0]
      omega
    · show ∀ e ∈ evU (pwS g), _
      rw [hev]
      intro e he
      unfold pwE at he
      obtain ⟨i, hi, rfl⟩ := List.mem_map.1 he
      have hi := List.mem_range.1 hi
      have := h.gn
      omega
    · show g - 1 ≤ (pwS g).length
      rw [pwS_len]
      omega
    · intro i hi
      have hi' : i < g - 1 := by rw [← pwS_len]; exact hi
      by_cases hlast : i + 2 = g
      · by_cases hq : ∃ i, i ≤ 0 ∧ d i = g
        · obtain ⟨y, hy, hyg⟩ := hq
          obtain rfl : y = 0 := by omega
          refine .inl (.inl ?_)
          show (d 0 : Int) - 1 = _
          omega
        · exact .inr ⟨hlast, hq⟩
      · refine .inl (.inr ⟨i + 1, by show i + 1 < (pwS g).length; rw [pwS_len]; omega, by omega, .inr ?_⟩)
        show ((pwS g)[i + 1]'(by rw [pwS_len]; omega)).2 = _
        simp [pwS]
        omega
  | succ j ih =>
    intro hj
    obtain ⟨hs, ha⟩ := ih (by omega)
    have hv := h.vs j hj
    have hvn := h.vn (j + 1) hj
    have hdj := h.dg (j + 1) hj
    have hsq := si_sq hs (by omega) k (by
      have : ((v j * 2 ^ k : Nat) : Int) ≤ n := by omega
      rw [Int.natCast_mul, Int.natCast_pow] at this
      exact this)
    have hA := au_sq ha k
    have ev : ((v j * 2 ^ k : Nat) : Int) = (v j : Int) * 2 ^ k := by rw [Int.natCast_mul, Int.natCast_pow]; rfl
    unfold wdX
    by_cases h0 : d (j + 1) = 0
    · rw [if_pos h0]
      rw [hv, h0, Nat.add_zero, ev]
      refine ⟨hsq, hA.1, fun i hi => ?_⟩
      rcases hA.2 i hi with h1 | ⟨h1, h2⟩
      · exact .inl h1
      · refine .inr ⟨h1, ?_⟩
        rintro ⟨y, hy, hyg⟩
        rcases Nat.lt_or_ge y (j + 1) with hl | hl
        · exact h2 ⟨y, by omega, hyg⟩
        · obtain rfl : y = j + 1 := by omega
          have := h.g1
          omega
    · rw [if_neg h0]
      have hfl := evU_full (sqN 1 (wdX g k d j) k).1
      obtain ⟨t, ht⟩ := hsq.pre
      have hb : (evU (sqN 1 (wdX g k d j) k).1).getD ((d (j + 1) : Int) - 1).toNat 0 = (d (j + 1) : Int) := by
        have hpl := pwE_len g
        rw [ht, show ((d (j + 1) : Int) - 1).toNat = d (j + 1) - 1 by omega, List.getD_eq_getElem?_getD, List.getElem?_append_left (by omega), ← List.getD_eq_getElem?_getD, pwE_at (by omega)]
        omega
      have hlen : g ≤ (sqN 1 (wdX g k d j) k).1.length + 1 := by
        have := congrArg List.length ht
        rw [List.length_append, pwE_len, hfl] at this
        omega
      have hm := si_mu hsq (b := (d (j + 1) : Int) - 1) (by omega) hb (by omega)
      rw [hv, Int.natCast_add, ev]
      refine ⟨hm, au_mu hA ?_⟩
      rintro ⟨y, hy, hyg⟩
      rcases Nat.lt_or_ge y (j + 1) with hl | hl
      · exact .inl ⟨y, by omega, hyg⟩
      · obtain rfl : y = j + 1 := by omega
        exact .inr (by omega)

/-- All steps are used. -/
def AllUs (x : List (Int × Int) × Int) : Prop := ∀ i, i < x.1.length → Us x i
theorem all_need {x : List (Int × Int) × Int} (h : AllUs x) : ∀ m i, i < x.1.length → x.1.length - 1 - i = m → hasI (needI 1 x.1 [x.2] m) (1 + (i : Int)) = true := by
  intro m
  induction m using Nat.strongRecOn with
  | ind m ih =>
    intro i hi hm
    rcases h i hi with h1 | ⟨i', h', hlt, h2⟩
    · have h0 : hasI (needI 1 x.1 [x.2] 0) (1 + (i : Int)) = true := by
        show hasI [x.2] _ = true
        rw [h1]
        simp [hasI]
      have := need_mono m h0
      rwa [Nat.zero_add] at this
    · have hI := ih (x.1.length - 1 - i') (by omega) i' h' rfl
      have hh := need_hit (N := 1) (o := [x.2]) (j := x.1.length - 1 - i') h' (by omega) hI
      have h3 : hasI (needI 1 x.1 [x.2] (x.1.length - 1 - i' + 1)) (1 + (i : Int)) = true := by
        rw [hh, hasI_two]
        rcases h2 with h2 | h2 <;> rw [h2] <;> simp
      have := need_mono (m - (x.1.length - 1 - i' + 1)) h3
      rwa [show x.1.length - 1 - i' + 1 + (m - (x.1.length - 1 - i' + 1)) = m by omega] at this
theorem all_usd {x : List (Int × Int) × Int} (h : AllUs x) : usd 1 x.1 [x.2] = (List.range x.1.length).map fun i : Nat => (i : Int) := by
  unfold usd usT
  rw [Nat.sub_self, List.range_eq_range']
  congr 1
  rw [List.filter_eq_self]
  intro i hi
  rw [List.mem_range'_1] at hi
  exact fin_of_has (j := x.1.length - 1 - i) (by omega) (all_need h _ i (by omega) rfl) rfl
theorem all_keep {x : List (Int × Int) × Int} (ok : OkS 1 x.1) (rng : 0 ≤ x.2 ∧ x.2 ≤ x.1.length) :
    keepS ⟨1, x.1, [x.2]⟩ 1 ((List.range x.1.length).map fun i : Nat => (i : Int)) ((List.range x.1.length).map fun i : Nat => (i : Int)).length = x.1 ∧
    keepO ⟨1, x.1, [x.2]⟩ 1 ((List.range x.1.length).map fun i : Nat => (i : Int)) 1 = [x.2] := by
  constructor
  · unfold keepS
    rw [List.take_of_length_le (Nat.le_refl _)]
    apply List.ext_getElem
    · simp
    · intro i h1 h2
      obtain ⟨a0, a1, a2⟩ := ok i h2
      simp only [List.getElem_map, List.getElem_range, Int.toNat_natCast]
      have e : x.1.getD i (0, 0) = x.1[i] := by simp [h2]
      rw [e, numI_range (by omega) (by omega), numI_range (by omega) (by omega), stI_min]
      have : min (x.1[i]).1 (x.1[i]).2 = (x.1[i]).1 := by omega
      have : max (x.1[i]).1 (x.1[i]).2 = (x.1[i]).2 := by omega
      rw [‹min _ _ = _›, ‹max _ _ = _›]
  · unfold keepO
    show [numI 1 _ x.2] = _
    rw [numI_range (by omega) (by omega)]
theorem si_good {n : Int} {P : List Int} {x : List (Int × Int) × Int} {v : Int} (h : SInv n P x v) (hn : n ≤ 1000000) : good ⟨1, x.1, [x.2]⟩ = decide (x.1.length ≤ 40) := by
  have h1 : okPre 1 x.1 x.1.length = true := okPre_ofS (n := 1) h.ok _ (Nat.le_refl _)
  have h2 : expsB (exps 1 x.1) = true := by
    rw [evU_exps h.ok (fun e he => by have := h.bnd e he; omega)]
    unfold expsB
    rw [List.all_eq_true]
    intro y hy
    obtain ⟨e, he, rfl⟩ := List.mem_map.1 hy
    have := h.bnd e he
    simp [allB, inB]
    omega
  have h3 : allB [x.2] 0 (1 + (x.1.length : Int) - 1) = true := by
    have := h.rng
    simp [allB, inB]
    omega
  unfold good
  simp only [show ((1 : Int)).toNat = 1 from rfl]
  rw [h1, h2, h3]
  simp [inB]
theorem si_trim {n : Int} {P : List Int} {x : List (Int × Int) × Int} {v : Int} (h : SInv n P x v) (hu : AllUs x) : trimR ⟨1, x.1, [x.2]⟩ = mkR ⟨1, x.1, [x.2]⟩ := by
  obtain ⟨gd, hg⟩ : ∃ b, good ⟨1, x.1, [x.2]⟩ = b := ⟨_, rfl⟩
  cases gd with
  | false => rw [mkR_false hg]; unfold trimR; rw [if_neg (by rw [hg]; decide)]
  | true =>
    obtain ⟨hS, hO⟩ := all_keep h.ok h.rng
    rw [mkR_true hg, trimR_good (N := 1) hg rfl]
    simp only [all_usd hu]
    rw [hS]
    show (⟨1, x.1, keepO ⟨1, x.1, [x.2]⟩ 1 _ 1⟩ : Pl) = _
    rw [hO]
end Go.Proofs.Ytodjnafalbbmjaa
/- Windows at places make the plan by digits, as data. -/
namespace Go.Proofs.Ytodjnafalbbmjaa
open Go.RowKit

def dgN (b n j : Nat) : Nat := n / b ^ (lenD b 20 n - 1 - j) % b
def vlN (b n j : Nat) : Nat := n / b ^ (lenD b 20 n - 1 - j)
def gN (b n : Nat) : Nat := (grA (dgs b n)).toNat
/-- The value numbers of the powers. -/
def pwL (g : Nat) : List Int := (List.range (g + 1)).map fun i => ((i - 1 : Nat) : Int)
theorem pwL_len (g : Nat) : (pwL g).length = g + 1 := by simp [pwL]
theorem pwL_at {g y : Nat} (h1 : 1 ≤ y) (h : y ≤ g) : (pwL g).getD y 0 = (y : Int) - 1 := by
  unfold pwL
  rw [List.getD_eq_getElem?_getD, List.getElem?_map, List.getElem?_range (by omega)]
  simp
  omega
def winP (k n : Nat) : Pl := ⟨1, (wdX (gN (2 ^ k) n) k (dgN (2 ^ k) n) (lenD (2 ^ k) 20 n - 1)).1, [(wdX (gN (2 ^ k) n) k (dgN (2 ^ k) n) (lenD (2 ^ k) 20 n - 1)).2]⟩

theorem two_le {k : Nat} (h1 : 1 ≤ k) : 2 ≤ 2 ^ k := by
  have := Nat.pow_le_pow_right (n := 2) (by omega) h1
  omega
theorem dgs_get {b n i : Nat} (h : i < lenD b 20 n) : ∃ h' : i < (dgs b n).length, (dgs b n)[i] = ((n / b ^ i % b : Nat) : Int) := by
  have hl : (dgs b n).length = lenD b 20 n := by unfold dgs; rw [digL_len]
  exact ⟨by omega, by simp [dgs, digL]⟩
theorem dg_ok {k n : Nat} (hk1 : 1 ≤ k) (hn1 : 1 ≤ n) (hn : n ≤ 1000000) : DgOk n (gN (2 ^ k) n) k (lenD (2 ^ k) 20 n) (dgN (2 ^ k) n) (vlN (2 ^ k) n) := by
  have hb := two_le hk1
  have hL1 : 1 ≤ lenD (2 ^ k) 20 n := dgs_more (k := 0) hb hn (by omega) (by rw [Nat.pow_zero, Nat.div_one]; omega)
  have hpos := lenD_pos (2 ^ k) 20 n (lenD (2 ^ k) 20 n - 1) (by omega)
  have hend := lenD_end hb 20 n (by omega)
  have hst := div_step (2 ^ k) n (lenD (2 ^ k) 20 n - 1)
  rw [show lenD (2 ^ k) 20 n - 1 + 1 = lenD (2 ^ k) 20 n by omega, hend] at hst
  obtain ⟨g1, g2, g3⟩ := grA_prop (dgs (2 ^ k) n)
  have hall : ∀ i, i < lenD (2 ^ k) 20 n → ((n / (2 ^ k) ^ i % 2 ^ k : Nat) : Int) ≤ grA (dgs (2 ^ k) n) := fun i hi => by
    obtain ⟨h', e⟩ := dgs_get hi
    rw [← e]
    exact g2 _ (List.getElem_mem _)
  obtain ⟨L, hL⟩ : ∃ L, lenD (2 ^ k) 20 n = L := ⟨_, rfl⟩
  have hlt : n / (2 ^ k) ^ (L - 1) < 2 ^ k := by
    rw [hL] at hst
    rcases Nat.lt_or_ge (n / (2 ^ k) ^ (L - 1)) (2 ^ k) with h | h
    · exact h
    · have := Nat.div_pos h (by omega : 0 < 2 ^ k)
      omega
  have h0 : dgN (2 ^ k) n 0 = n / (2 ^ k) ^ (L - 1) := by
    unfold dgN
    rw [hL, Nat.sub_zero, Nat.mod_eq_of_lt hlt]
  rw [hL] at hpos hL1 hall
  have hdg : ∀ j, j < L → dgN (2 ^ k) n j ≤ gN (2 ^ k) n := fun j hj => by
    have := hall (L - 1 - j) (by omega)
    unfold dgN gN
    rw [hL]
    omega
  have h10 : 1 ≤ dgN (2 ^ k) n 0 := by rw [h0]; exact hpos
  have hG1 := hdg 0 (by omega)
  have htop : ∃ j, j < L ∧ dgN (2 ^ k) n j = gN (2 ^ k) n := by
    rcases g3 with h | h
    · unfold gN at hG1
      omega
    · obtain ⟨i, hi, e⟩ := List.mem_iff_getElem.1 h
      have hl : (dgs (2 ^ k) n).length = L := by unfold dgs; rw [digL_len, hL]
      obtain ⟨h', e'⟩ := dgs_get (b := 2 ^ k) (n := n) (i := i) (by omega)
      refine ⟨L - 1 - i, by omega, ?_⟩
      unfold dgN gN
      rw [hL, ← e, e', show L - 1 - (L - 1 - i) = i by omega]
      omega
  rw [hL]
  refine ⟨by omega, ?_, hL1, h10, hdg, ?_, ?_, ?_, htop⟩
  · obtain ⟨j, _, e⟩ := htop
    rw [← e]
    unfold dgN
    exact Nat.le_trans (Nat.mod_le _ _) (Nat.div_le_self _ _)
  · rw [h0]; unfold vlN; rw [hL, Nat.sub_zero]
  · intro j hj
    unfold vlN dgN
    rw [hL]
    have h1 := div_step (2 ^ k) n (L - 1 - (j + 1))
    rw [show L - 1 - (j + 1) + 1 = L - 1 - j by omega] at h1
    rw [← h1]
    have := Nat.div_add_mod (n / (2 ^ k) ^ (L - 1 - (j + 1))) (2 ^ k)
    rw [Nat.mul_comm] at this
    omega
  · intro j hj
    unfold vlN
    exact Nat.div_le_self _ _

theorem sqN_addN (x : List (Int × Int) × Int) (a b : Nat) : sqN 1 (sqN 1 x a) b = sqN 1 x (a + b) := by
  induction b with
  | zero => rfl
  | succ b ih =>
    show muS 1 (sqN 1 (sqN 1 x a) b) (sqN 1 (sqN 1 x a) b).2 = muS 1 (sqN 1 x (a + b)) (sqN 1 x (a + b)).2
    rw [ih]
theorem wdX_step (g k : Nat) (d : Nat → Nat) (j : Nat) : wdX g k d (j + 1) = if d (j + 1) = 0 then sqN 1 (wdX g k d j) k else muS 1 (sqN 1 (wdX g k d j) k) ((d (j + 1) : Int) - 1) := rfl
theorem wins_top {k n : Nat} (hk1 : 1 ≤ k) (hn1 : 1 ≤ n) (hn : n ≤ 1000000) : k * (lenD (2 ^ k) 20 n - 1) ≤ 19 := by
  have h := dg_ok hk1 hn1 hn
  have hpos := lenD_pos (2 ^ k) 20 n (lenD (2 ^ k) 20 n - 1) (by have := h.L1; omega)
  rw [← Nat.pow_mul] at hpos
  have h2 : 2 ^ (k * (lenD (2 ^ k) 20 n - 1)) ≤ n := by
    rcases Nat.lt_or_ge n (2 ^ (k * (lenD (2 ^ k) 20 n - 1))) with h' | h'
    · rw [Nat.div_eq_of_lt h'] at hpos
      omega
    · exact h'
  rcases Nat.lt_or_ge (k * (lenD (2 ^ k) 20 n - 1)) 20 with h' | h'
  · omega
  · have h3 := Nat.pow_le_pow_right (n := 2) (by omega) h'
    have h4 : (2 : Nat) ^ 20 = 1048576 := by decide
    omega
def wkk (k n m : Nat) : List (Int × Int) := wnF (k : Int) (bwZ (dgs (2 ^ k) n) m)
theorem wkk_succ {k n m : Nat} (hk1 : 1 ≤ k) (hn1 : 1 ≤ n) (hn : n ≤ 1000000) (hm : m < lenD (2 ^ k) 20 n) :
    wkk k n (m + 1) = if dgN (2 ^ k) n m = 0 then wkk k n m else wkk k n m ++ [(((k * (lenD (2 ^ k) 20 n - 1 - m) : Nat) : Int), (dgN (2 ^ k) n m : Int))] := by
  have hl : (dgs (2 ^ k) n).length = lenD (2 ^ k) 20 n := by unfold dgs; rw [digL_len]
  have ht := wins_top hk1 hn1 hn
  obtain ⟨h', e⟩ := dgs_get (b := 2 ^ k) (n := n) (i := lenD (2 ^ k) 20 n - 1 - m) (by omega)
  unfold wkk
  rw [show bwZ (dgs (2 ^ k) n) (m + 1) = bwZ (dgs (2 ^ k) n) m ++ [((dgs (2 ^ k) n).length - 1 - m, (dgs (2 ^ k) n)[(dgs (2 ^ k) n).length - 1 - m]?.getD 0)] from bwd_succ _ _ _, wnF_snoc, hl]
  rw [List.getElem?_eq_getElem h', e]
  unfold wnS
  simp only [Option.getD_some]
  by_cases h0 : dgN (2 ^ k) n m = 0
  · rw [if_pos h0, if_pos (by unfold dgN at h0; rw [h0]; rfl)]
  · rw [if_neg h0, if_neg (by unfold dgN at h0; omega)]
    have hle : k * (lenD (2 ^ k) 20 n - 1 - m) ≤ k * (lenD (2 ^ k) 20 n - 1) := Nat.mul_le_mul_left _ (by omega)
    have e2 : wrap64 (((lenD (2 ^ k) 20 n - 1 - m : Nat) : Int) * (k : Int)) = ((k * (lenD (2 ^ k) 20 n - 1 - m) : Nat) : Int) := by
      rw [← Int.natCast_mul, Nat.mul_comm]
      unfold wrap64
      omega
    rw [e2]
    rfl

structure WkkOk (g k L : Nat) (d : Nat → Nat) (pw : List Int) (m : Nat) (W : List (Int × Int)) : Prop where
  pos : 1 ≤ W.length
  few : W.length ≤ m
  rng : ∀ i (h : i < W.length), ((k * (L - m) : Nat) : Int) ≤ (W[i]).1 ∧ (W[i]).1 ≤ ((k * (L - 1) : Nat) : Int) ∧ 1 ≤ (W[i]).2 ∧ (W[i]).2 ≤ g
  dec : ∀ i (h : i + 1 < W.length), (W[i + 1]).1 ≤ (W[i]'(by omega)).1
  low : ((k * (L - m) : Nat) : Int) ≤ (thI pw (pwS g) W (W.length - 1)).2
  plan : wdX g k d (m - 1) = sqN 1 (thI pw (pwS g) W (W.length - 1)).1 ((thI pw (pwS g) W (W.length - 1)).2 - ((k * (L - m) : Nat) : Int)).toNat
  gr : ∀ j, j < m → (d j : Int) ≤ grW W W.length
theorem grW_app (W : List (Int × Int)) (w : Int × Int) : grW (W ++ [w]) (W ++ [w]).length = max (grW W W.length) w.2 := by
  unfold grW
  rw [List.take_of_length_le (Nat.le_refl _), List.take_of_length_le (Nat.le_refl _), List.foldl_append]
  rfl
theorem wkk_ok {k n : Nat} (hk1 : 1 ≤ k) (hn1 : 1 ≤ n) (hn : n ≤ 1000000) (pw : List Int) (hpw : ∀ y, 1 ≤ y → y ≤ gN (2 ^ k) n → pw.getD y 0 = (y : Int) - 1) :
    ∀ m, 1 ≤ m → m ≤ lenD (2 ^ k) 20 n → WkkOk (gN (2 ^ k) n) k (lenD (2 ^ k) 20 n) (dgN (2 ^ k) n) pw m (wkk k n m) := by
  have h := dg_ok hk1 hn1 hn
  obtain ⟨L, hL⟩ : ∃ L, lenD (2 ^ k) 20 n = L := ⟨_, rfl⟩
  obtain ⟨g, hg⟩ : ∃ g, gN (2 ^ k) n = g := ⟨_, rfl⟩
  obtain ⟨d, hd⟩ : ∃ d, dgN (2 ^ k) n = d := ⟨_, rfl⟩
  have hws := fun m => wkk_succ (m := m) hk1 hn1 hn
  rw [hL, hg, hd] at h
  rw [hL, hd] at hws
  rw [hg] at hpw
  rw [hL, hg, hd]
  have hL1 := h.L1
  intro m
  induction m with
  | zero => intro h; omega
  | succ m ih =>
    intro _ hm
    have hw := hws m (by omega)
    have hdm := h.dg m (by omega)
    rcases Nat.eq_zero_or_pos m with rfl | hm0
    · have h0 := h.d0
      have e : wkk k n 1 = [(((k * (L - 1) : Nat) : Int), (d 0 : Int))] := by
        rw [hw, if_neg (by omega), Nat.sub_zero]
        rfl
      rw [show 0 + 1 = 1 from rfl, e]
      refine ⟨Nat.le_refl _, Nat.le_refl _, fun i h => ?_, fun i h => absurd h (by simp), ?_, ?_, ?_⟩
      · have : i = 0 := by simpa using h
        subst this
        show ((k * (L - 1) : Nat) : Int) ≤ ((k * (L - 1) : Nat) : Int) ∧ ((k * (L - 1) : Nat) : Int) ≤ ((k * (L - 1) : Nat) : Int) ∧ 1 ≤ (d 0 : Int) ∧ (d 0 : Int) ≤ g
        omega
      · exact Int.le_refl _
      · show (pwS g, (d 0 : Int) - 1) = sqN 1 (pwS g, pw.getD ((d 0 : Int)).toNat 0) (((k * (L - 1) : Nat) : Int) - ((k * (L - 1) : Nat) : Int)).toNat
        rw [show (((k * (L - 1) : Nat) : Int) - ((k * (L - 1) : Nat) : Int)).toNat = 0 by omega, Int.toNat_natCast, hpw _ h0 (by omega)]
        rfl
      · intro j hj
        obtain rfl : j = 0 := by omega
        show (d 0 : Int) ≤ max 0 (d 0 : Int)
        omega
    · obtain ⟨p1, p2, p3, p4, p5, p6, p7⟩ := ih hm0 (by omega)
      have hstep := wdX_step g k d (m - 1)
      rw [show m - 1 + 1 = m by omega, p6] at hstep
      obtain ⟨s, hs⟩ : ∃ s, thI pw (pwS g) (wkk k n m) ((wkk k n m).length - 1) = s := ⟨_, rfl⟩
      rw [hs] at p5 hstep
      obtain ⟨q, hq⟩ : ∃ q, L - (m + 1) = q := ⟨_, rfl⟩
      have hkq : k * (L - m) = k * q + k := by rw [show L - m = q + 1 by omega, Nat.mul_succ]
      have hq2 : L - 1 - m = q := by omega
      rw [hkq] at p3 p5 hstep
      have hd : (s.2 - ((k * q + k : Nat) : Int)).toNat + k = (s.2 - ((k * q : Nat) : Int)).toNat := by omega
      rw [sqN_addN, hd] at hstep
      have hkL : k * q ≤ k * (L - 1) := Nat.mul_le_mul_left _ (by omega)
      rw [hq2] at hw
      by_cases h0 : d m = 0
      · rw [if_pos h0] at hw hstep
        rw [hw]
        refine ⟨p1, by omega, fun i h => ?_, p4, ?_, ?_, fun j hj => ?_⟩
        · rw [hq]
          have := p3 i h
          exact ⟨by omega, this.2.1, this.2.2⟩
        · rw [hs, hq]; omega
        · rw [hs, hq, Nat.add_sub_cancel]; exact hstep
        · rcases Nat.lt_or_ge j m with h | h
          · exact p7 j h
          · obtain rfl : j = m := by omega
            rw [h0]
            have := p7 0 hm0
            omega
      · rw [if_neg h0] at hw hstep
        rw [hw]
        have hsn := thI_snoc pw (pwS g) p1 (((k * q : Nat) : Int), (d m : Int))
        rw [hs] at hsn
        have hlen : (wkk k n m ++ [(((k * q : Nat) : Int), (d m : Int))]).length = (wkk k n m).length + 1 := by simp
        refine ⟨by omega, by omega, fun i h => ?_, fun i h => ?_, ?_, ?_, fun j hj => ?_⟩
        · rw [hq]
          rcases Nat.lt_or_ge i (wkk k n m).length with hl | hl
          · rw [List.getElem_append_left hl]
            have := p3 i hl
            exact ⟨by omega, this.2.1, this.2.2⟩
          · have e : i = (wkk k n m).length := by omega
            subst e
            rw [List.getElem_append_right (Nat.le_refl _)]
            simp only [Nat.sub_self, List.getElem_singleton]
            exact ⟨by omega, by omega, by omega, by omega⟩
        · rcases Nat.lt_or_ge (i + 1) (wkk k n m).length with hl | hl
          · rw [List.getElem_append_left hl, List.getElem_append_left (by omega)]
            exact p4 i hl
          · have e : i + 1 = (wkk k n m).length := by omega
            rw [List.getElem_append_right (by omega), List.getElem_append_left (by omega)]
            simp only [show i + 1 - (wkk k n m).length = 0 by omega, List.getElem_singleton]
            have := (p3 i (by omega)).1
            omega
        · rw [hlen, Nat.add_sub_cancel, hsn, hq]
          exact Int.le_refl _
        · rw [hlen, Nat.add_sub_cancel, Nat.add_sub_cancel, hsn, hstep, hq]
          show muS 1 (sqN 1 s.1 (s.2 - ((k * q : Nat) : Int)).toNat) ((d m : Int) - 1) = sqN 1 (muS 1 (sqN 1 s.1 (s.2 - ((k * q : Nat) : Int)).toNat) (pw.getD ((d m : Int)).toNat 0)) (((k * q : Nat) : Int) - ((k * q : Nat) : Int)).toNat
          rw [show (((k * q : Nat) : Int) - ((k * q : Nat) : Int)).toNat = 0 by omega, Int.toNat_natCast, hpw _ (by omega) hdm]
          rfl
        · rw [grW_app]
          rcases Nat.lt_or_ge j m with h | h
          · have := p7 j h
            omega
          · obtain rfl : j = m := by omega
            show (d j : Int) ≤ max _ (d j : Int)
            omega
theorem grW_le {W : List (Int × Int)} {g : Int} (h0 : 0 ≤ g) (h : ∀ i (h : i < W.length), (W[i]).2 ≤ g) : grW W W.length ≤ g := by
  have hall : ∀ k, k ≤ W.length → grW W k ≤ g := by
    intro k
    induction k with
    | zero => intro _; exact h0
    | succ k ih =>
      intro hk
      rw [grW_succ _ (by omega)]
      have := ih (by omega)
      have := h k (by omega)
      omega
  exact hall _ (Nat.le_refl _)
theorem wins_all {k n : Nat} (hk1 : 1 ≤ k) (hn1 : 1 ≤ n) (hn : n ≤ 1000000) : WinOk (pwL (gN (2 ^ k) n)).length (wins (k : Int) (2 ^ k) n) ∧ thP (pwL (gN (2 ^ k) n)) (pwS (gN (2 ^ k) n)) (wins (k : Int) (2 ^ k) n) = winP k n ∧ grW (wins (k : Int) (2 ^ k) n) (wins (k : Int) (2 ^ k) n).length = (gN (2 ^ k) n : Int) := by
  have hd := dg_ok hk1 hn1 hn
  have ht := wins_top hk1 hn1 hn
  have h := wkk_ok hk1 hn1 hn (pwL (gN (2 ^ k) n)) (fun y h1 h2 => pwL_at h1 h2) (lenD (2 ^ k) 20 n) hd.L1 (Nat.le_refl _)
  have hl : (dgs (2 ^ k) n).length = lenD (2 ^ k) 20 n := by unfold dgs; rw [digL_len]
  have hle := lenD_le (2 ^ k) 20 n
  have ew : wins (k : Int) (2 ^ k) n = wkk k n (lenD (2 ^ k) 20 n) := by unfold wins wkk; rw [hl]
  rw [ew]
  have hz := h.plan
  rw [Nat.sub_self, Nat.mul_zero] at hz
  refine ⟨⟨h.pos, by have := h.few; omega, fun i hi => ?_, h.dec⟩, ?_, ?_⟩
  · obtain ⟨a, b, c, e⟩ := h.rng i hi
    rw [pwL_len]
    exact ⟨by omega, by omega, by omega, by omega⟩
  · unfold thP thE winP
    rw [hz]
    simp
  · have h1 : grW (wkk k n (lenD (2 ^ k) 20 n)) (wkk k n (lenD (2 ^ k) 20 n)).length ≤ (gN (2 ^ k) n : Int) := grW_le (by omega) fun i hi => (h.rng i hi).2.2.2
    obtain ⟨j, hj, e⟩ := hd.top
    have h2 := h.gr j hj
    omega
theorem winP_facts {k n : Nat} (hk1 : 1 ≤ k) (hn1 : 1 ≤ n) (hn : n ≤ 1000000) : OkS 1 (winP k n).s ∧ usd 1 (winP k n).s (winP k n).o = ((List.range (winP k n).s.length).map fun i : Nat => (i : Int)) ∧
    keepS (winP k n) 1 ((List.range (winP k n).s.length).map fun i : Nat => (i : Int)) ((List.range (winP k n).s.length).map fun i : Nat => (i : Int)).length = (winP k n).s ∧
    keepO (winP k n) 1 ((List.range (winP k n).s.length).map fun i : Nat => (i : Int)) 1 = (winP k n).o ∧ trimR (winP k n) = mkR (winP k n) ∧ (∀ x ∈ (winP k n).o, 0 ≤ x ∧ x ≤ ((winP k n).s.length : Int)) := by
  have hd := dg_ok hk1 hn1 hn
  obtain ⟨h1, h2, h3⟩ := wdX_inv hd (lenD (2 ^ k) 20 n - 1) (by have := hd.L1; omega)
  have hu : AllUs (wdX (gN (2 ^ k) n) k (dgN (2 ^ k) n) (lenD (2 ^ k) 20 n - 1)) := fun i hi => by
    rcases h3 i hi with h | ⟨_, h⟩
    · exact h
    · obtain ⟨j, hj, e⟩ := hd.top
      exact absurd ⟨j, by omega, e⟩ h
  obtain ⟨k1, k2⟩ := all_keep h1.ok h1.rng
  refine ⟨h1.ok, all_usd hu, k1, k2, si_trim h1 hu, ?_⟩
  intro x hx
  have e : x = (wdX (gN (2 ^ k) n) k (dgN (2 ^ k) n) (lenD (2 ^ k) 20 n - 1)).2 := by simpa [winP] using hx
  rw [e]
  exact h1.rng
theorem gN_lt {k n : Nat} (hk1 : 1 ≤ k) (hn1 : 1 ≤ n) (hn : n ≤ 1000000) : 1 ≤ gN (2 ^ k) n ∧ gN (2 ^ k) n < 2 ^ k := by
  have hd := dg_ok hk1 hn1 hn
  obtain ⟨j, _, e⟩ := hd.top
  have h2 := two_le hk1
  refine ⟨hd.g1, ?_⟩
  rw [← e]
  exact Nat.mod_lt _ (by omega)
theorem winP_len {k n : Nat} (hk1 : 1 ≤ k) (hk5 : k ≤ 5) (hn1 : 1 ≤ n) (hn : n ≤ 1000000) : (winP k n).s.length ≤ 200 ∧ (winP k n).o.length = 1 := by
  have h := wdX_len (gN (2 ^ k) n) k (dgN (2 ^ k) n) (lenD (2 ^ k) 20 n - 1)
  have hg := (gN_lt hk1 hn1 hn).2
  have hle := lenD_le (2 ^ k) 20 n
  have h2 : 2 ^ k ≤ 2 ^ 5 := Nat.pow_le_pow_right (by omega) hk5
  have h3 : (k + 1) * (lenD (2 ^ k) 20 n - 1) ≤ 6 * 19 := Nat.mul_le_mul (by omega) (by omega)
  have h4 : (2 : Nat) ^ 5 = 32 := by decide
  refine ⟨?_, rfl⟩
  show (wdX _ _ _ _).1.length ≤ 200
  omega
end Go.Proofs.Ytodjnafalbbmjaa
/- The windows of a number at places, by the program, at any number of digits. -/
namespace Go.Proofs.Ytodjnafalbbmjaa
open Go.RowKit Go.Shelf

attribute [local go_sem] Oper.semAt_some

set_option maxRecDepth 100000 in
set_option maxHeartbeats 4000000 in
theorem windowsK_any (k n : Nat) (w : World) (hk1 : 1 ≤ k) (hk5 : k ≤ 5) (hn1 : 1 ≤ n) (hn : n ≤ 1000000) :
    Calls Try.prog 101 #[.int .i64 (n : Int), .int .i64 (k : Int)] w fun e w' =>
      ∃ A c, e = .returned (.slice A (wins (k : Int) (2 ^ k) n).length c) ∧ OwW w' w.heap.size (.slice A (wins (k : Int) (2 ^ k) n).length c) (wins (k : Int) (2 ^ k) n) ∧ Below w.heap.size w w' := by
  obtain ⟨b, hb⟩ : ∃ b : Nat, 2 ^ k = b := ⟨_, rfl⟩
  have hb2 : 2 ≤ b := by rw [← hb]; have := Nat.pow_le_pow_right (n := 2) (by omega) hk1; omega
  have hb32 : b ≤ 32 := by rw [← hb]; have := Nat.pow_le_pow_right (n := 2) (by omega) hk5; omega
  have hpw : (2 : Int) ^ k = (b : Int) := by rw [← hb, Int.natCast_pow]; rfl
  have hD := fun W => implDigits_any (n : Int) (b : Int) W
  have hB : dgB (n : Int) (b : Int) = true := by
    unfold dgB isNum inB
    rw [decide_eq_true (show (1 : Int) ≤ (n : Int) by omega), decide_eq_true (show (n : Int) ≤ 1000000 by omega), decide_eq_true (show (2 : Int) ≤ (b : Int) by omega), decide_eq_true (show (b : Int) ≤ 64 by omega)]
    rfl
  have hR := dgR_true hB
  rw [Int.toNat_natCast, Int.toNat_natCast] at hR
  rw [hR, hB] at hD
  have hdl := dgs_len b n
  rw [hb]
  clear hb
  obtain ⟨D, hDD⟩ : ∃ D, dgs b n = D := ⟨_, rfl⟩
  have EW := Lib.hid (show wins (k : Int) b n = wnF (k : Int) (bwZ D D.length) by unfold wins; rw [hDD])
  rw [hDD] at hD hdl
  have HDG := Lib.hid hD
  clear hD hB hR hDD
  refine (callsIn_wide (n := 3)).1 ?_
  refine callsIn_of_wp_marks Try.func101 rfl trivial ?_ rfl
  simp only [Try.ntmps101, List.size_toArray, List.length_cons, List.length_nil, Nat.reduceAdd, Nat.reduceSub, Array.replicate_succ, Array.replicate_zero, List.push_toArray, List.append_toArray, List.nil_append, List.cons_append]
  gi_wp2_with fail
  refine ⟨trivial, ?_⟩
  gi_at_call 14
  generalize hw1 : World.alloc w _ = w1
  have q0 : w1.heap[w.heap.size]? = some (.cells #[.int .i64 (k : Int)] 3 (0, 0)) := by subst hw1; exact heap_alloc_new w _
  have xs : w1.heap.size = w.heap.size + 1 := by subst hw1; simp
  have xb : Below w.heap.size w w1 := by subst hw1; exact (Below.refl _ _).alloc (Nat.le_refl _) _
  clear hw1
  refine (callsIn_wide.2 (HDG.out w1)).mono ?_
  rintro e w2 ⟨A, c, rfl, ho2, hb2⟩
  have z0 := (hb2.block w.heap.size (by omega)).trans q0
  have hs2 := hb2.size
  have XB := Lib.hid (xb.trans (hb2.mono (by omega)))
  have HO2 := Lib.hid (ho2.rd)
  clear q0 xb hb2 ho2
  gi_wp2_with fail
  refine ⟨trivial, ?_⟩
  gi_at_call 105
  refine (backward_in Fence.wide _ trivial rfl _ _ _ _).mono ?_
  rintro e w' ⟨rfl, hww⟩
  subst hww
  gi_wp2_with fail
  obtain ⟨w3, hw3⟩ : ∃ w3, (w2.alloc (.cells #[.slice none 0 0] 110)).alloc (.cells #[.slice A D.length c] 22) = w3 := ⟨_, rfl⟩
  rw [hw3]
  have hb3 : Below w2.heap.size w2 w3 := by subst hw3; exact ((Below.refl _ _).alloc (Nat.le_refl _) _).alloc (by simp) _
  have z7 : Boxed w3 w2.heap.size 110 (.slice none 0 0) := by
    subst hw3
    exact (Boxed.new w2 _ _).alloc _
  have z4 : w3.heap[w2.heap.size + 1]? = some (.cells #[.slice A D.length c] 22 (0, 0)) := by
    subst hw3
    have := heap_alloc_new (w2.alloc (.cells #[.slice none 0 0] 110)) (.cells #[.slice A D.length c] 22)
    rw [World.size_alloc] at this
    exact this
  have s3 : w3.heap.size = w2.heap.size + 2 := by subst hw3; simp
  have HB3 := Lib.hid hb3
  have HR := Lib.hid (show ∀ W', Below w2.heap.size w3 W' → Rd W' w2.heap.size 1 A D.length (D.map I) from fun W' h => (HO2.out.below' (hb3.trans h) (Nat.le_refl _)))
  have Z0 := Lib.hid z0
  have hlt2 : w.heap.size < w2.heap.size := by omega
  obtain ⟨i0, hi, hz0, hz1, hz2⟩ := info_parts info_window
  have HI := Lib.hid hi
  have HI0 := Lib.hid hz0
  have HI1 := Lib.hid hz1
  have HI2 := Lib.hid hz2
  clear hw3 hb3 z0 xs hi hz0 hz1 hz2
  refine wpIn_rangeFunc_ownG (w0 := w3) rfl (by omega) (gf := 109) (lb := #[.pointer (some ⟨w2.heap.size + 1, 0, none⟩)]) rfl trivial (enters_of Try.func109 (by kernel_rfl) rfl)
    (backward_stops Fence.wide _ trivial rfl (by omega) (w2.heap.size + 1) w2.heap.size A c D (by omega) w3 (by omega) z4 HR.out) kpB_t (kpB_b (by omega) (by omega)) (Below.refl _ _) (fun _ => rfl)
    (fun pre W => (∃ v, Boxed W w2.heap.size 110 v ∧ W.ownsRow w2.heap.size 119 2 v (wnF (k : Int) pre).length (fl (wnF (k : Int) pre)) ∧ True) ∧ (Boxed W (w2.heap.size + 1) 22 (.slice A D.length c) ∧ Below w2.heap.size w2 W))
    (fun _ _ _ => False)
    (OwnFrom.and (Own.from (holdsRow_own w2.heap.size w2.heap.size 110 119 2 (fun pre => (wnF (k : Int) pre).length) (fun pre => fl (wnF (k : Int) pre)) (fun _ _ => True)) _) (OwnFrom.and (Own.from (fun s A B row hs hg hr => blk_own hs hg hr) _) (ownFrom_below (Nat.le_refl _) (by omega))))
    (fun _ _ _ _ _ hs _ _ => hs)
    ⟨⟨_, z7, World.ownsRow_nil _ _ _ _, trivial⟩, z4, HB3.out⟩
    (fun x => { tmps := #[.int .i64 (n : Int), .int .i64 (k : Int), undef, .pointer (some ⟨w.heap.size, 0, none⟩), .slice none 0 0, .slice A D.length c, .bool true, .pointer (some ⟨w2.heap.size, 0, none⟩), .int .i64 (x.1 : Int), .int .i64 x.2, .tuple #[.slice A D.length c, .bool true], .int .i64 (n : Int), .int .i64 (k : Int), .int .i64 (b : Int), .tuple #[.slice A D.length c, .bool true], .slice A D.length c, .bool true, .slice A D.length c, .func (.func 109) #[] #[.pointer (some ⟨w2.heap.size + 1, 0, none⟩)], .int .i64 (x.1 : Int), .int .i64 x.2, undef, undef, undef, undef, undef, undef, undef, undef, undef, undef, undef], defers := [] }) ?assign ?body ?done ?stop
  case assign =>
    intro l x W K hK
    gi_wp2
    exact hK
  case body =>
    rintro lr pre ⟨i, d⟩ W ⟨⟨v, hbx, hrow, _⟩, hbs, hbel⟩ hlen
    have BS := Lib.hid hbs
    have hwl := wnF_len (k : Int) pre
    have EF := Lib.hid (wnF_snoc (k : Int) pre (i, d))
    have BEL := Lib.hid hbel
    have BX := Lib.hid hbx
    obtain ⟨z, hz⟩ : ∃ z, wnF (k : Int) pre = z := ⟨_, rfl⟩
    rw [hz] at hrow EF hwl
    have ROW := Lib.hid hrow
    have EL := Lib.hid (show z.length ≤ 20 by omega)
    have hs := hbel.size
    have xb := hbx.cell
    obtain ⟨x0, f0⟩ := one_cell ((hbel.block w.heap.size (by omega)).trans Z0.out)
    clear hbx hbel hrow hz hbs
    dsimp only
    by_cases h0 : d = 0
    · have i0' : (d != 0) = false := by simpa using h0
      have EN := Lib.hid (show wnF (k : Int) (pre ++ [(i, d)]) = z by rw [EF.out]; unfold wnS; rw [if_pos h0])
      clear h0
      gi_wp2
      exact ⟨(KeepsOthers.refl _).from _, KpB.refl _ _ _, ⟨_, BX.out, by rw [EN.out]; exact ROW.out, trivial⟩, BS.out, BEL.out⟩
    · have i0' : (d != 0) = true := by simpa using h0
      have EN := Lib.hid (show wnF (k : Int) (pre ++ [(i, d)]) = z ++ [(wrap64 ((i : Int) * (k : Int)), d)] by rw [EF.out]; unfold wnS; rw [if_neg h0])
      clear h0
      gi_wp2_with (gi_at_builtin; refine wpListIn_append_own _ rfl _ _ 110 rfl w2.heap.size 119 i0 (.agg #[I 0, I 0]) 2 16 Try.underlying110 HI.out HI0.out HI1.out HI2.out rfl (by decide) _ _ _ rfl (ROW.out.alloc _) ⟨W.heap.size, 0, none⟩ 1 1 [.int .i64 (wrap64 ((i : Int) * (k : Int))), .int .i64 d] rfl rfl (cell_two_at _ _ _ _) (by simp [Value.oneCell']) (by unfold maxLen; have := EL.out; omega) (by have := EL.out; omega) (by simp; omega) ?_; intro v' w1 hown' hgrow _; obtain ⟨g', cap', rfl⟩ := ownsRow_succ hown'; obtain ⟨hv1, hv2, hr2, hk2, hb2⟩ := BX.out.appended (by decide) ROW.out hs (Nat.le_refl _) hown' hgrow; have hc1 := hv1.cell; have hf1 := hv1.frozen)
      have hb1 : Boxed w1 (w2.heap.size + 1) 22 (.slice A D.length c) := (Boxed.alloc BS.out _).kept hgrow (Boxed.not_row BS.out (by decide) ROW.out)
      have hb4 : Boxed (w1.setCell ⟨w2.heap.size, 0, none⟩ (.slice (some ⟨g', 0, none⟩) (z.length + 1) cap')) (w2.heap.size + 1) 22 (.slice A D.length c) := (set_other (by omega)).trans hb1
      exact ⟨hk2.from _, ⟨hb2, fun _ => Eq.trans hb4 (Eq.symm BS.out)⟩, ⟨_, hv2, by rw [EN.out, fl_snoc, List.length_append, List.length_singleton]; exact hr2, trivial⟩, hb4, BEL.out.trans hb2⟩
  case done =>
    rintro D' ys W hD' rfl ⟨⟨v, hbx, hrow, _⟩, _, hbel⟩ hK
    rw [← EW.out] at hrow
    obtain ⟨A', c', rfl⟩ := row_form hrow
    have xb := hbx.cell
    have BEL := Lib.hid hbel
    have ROW := Lib.hid hrow
    clear hbel hrow hbx
    gi_wp2
    refine ⟨by simp, .inl ⟨_, _, rfl, run_takeDeferred hK, ?_⟩⟩
    exact ⟨_, results_tmp rfl _ _ _, A', c', rfl, ownsRow_putObj (own_base ROW.out (by omega)) _ hK rfl, XB.out.trans ((BEL.out.mono (by omega)).trans (belowK_b (w := w) (Nat.le_refl _) W D' _ _ (by omega) hK rfl rfl))⟩
  case stop =>
    rintro D' c' pre W _ _ h _
    exact h.elim
end Go.Proofs.Ytodjnafalbbmjaa
/- All powers up to a number, by the program. -/
namespace Go.Proofs.Ytodjnafalbbmjaa
open Go.RowKit

def pwLi (G i : Nat) : List Int := (List.range (G + 1)).map fun j => if j < i then ((j - 1 : Nat) : Int) else 0
theorem pwLi_len (G i : Nat) : (pwLi G i).length = G + 1 := by simp [pwLi]
theorem pwLi_zero (G : Nat) : pwLi G 2 = List.replicate (G + 1) (0 : Int) := by
  apply List.ext_getElem
  · simp [pwLi]
  · intro i h1 h2
    simp only [pwLi, List.getElem_map, List.getElem_range, List.getElem_replicate]
    split <;> omega
theorem pwLi_set {G i : Nat} : (pwLi G (i + 1)).set (i + 1) (i : Int) = pwLi G (i + 2) := by
  apply List.ext_getElem
  · simp [pwLi]
  · intro j h1 h2
    rw [List.getElem_set]
    simp only [pwLi, List.getElem_map, List.getElem_range]
    split
    · subst_vars
      rw [if_pos (by omega)]
      omega
    · split <;> split <;> omega
theorem pwLi_end {G i : Nat} (h : G < i) : pwLi G i = pwL G := by
  unfold pwLi pwL
  apply List.map_congr_left
  intro j hj
  have := List.mem_range.1 hj
  rw [if_pos (by omega)]
theorem pw_store {w : World} {B g G m : Nat} (h : OwI w B (.slice (some ⟨g, 0, none⟩) (G + 1) (G + 1)) (pwLi G (m + 1))) (hm : m + 1 ≤ G) :
    w.frozen? ⟨g, m + 1, none⟩ = false ∧ (∃ u, w.cell? ⟨g, m + 1, none⟩ = some (.int .i64 u)) ∧ OwI (w.setCell ⟨g, m + 1, none⟩ (.int .i64 (m : Int))) B (.slice (some ⟨g, 0, none⟩) (G + 1) (G + 1)) (pwLi G (m + 2)) := by
  have hl := pwLi_len G (m + 1)
  have h' : w.ownsRow B 3 1 (.slice (some ⟨g, 0, none⟩) (G + 1) (G + 1)) (G + 1) ((pwLi G (m + 1)).map I) := by unfold OwI at h; rw [hl] at h; exact h
  refine ⟨h'.frozenAt _, ?_, ?_⟩
  · rw [h'.cellAt _ (by omega), List.getElem?_map, List.getElem?_eq_getElem (by omega)]
    exact ⟨_, rfl⟩
  · have h1 := (h'.stored (m + 1) (.int .i64 (m : Int))).1
    unfold OwI
    rw [pwLi_len, ← pwLi_set, List.map_set]
    exact h1
theorem mk_store {w : World} {B B' g g' n c o : Nat} {N : Int} {s : List (Int × Int)} {xs : List Value} (h : MkS w B g N s) (h' : w.ownsRow B' 3 1 (.slice (some ⟨g', 0, none⟩) n c) n xs) (hne : g ≠ g') (u : Value) : MkS (w.setCell ⟨g', o, none⟩ u) B g N s := by
  obtain ⟨A, d, h1, h2⟩ := h
  exact ⟨A, d, (Below.heap_setCell w ⟨g', o, none⟩ u g (fun e => hne e)).trans h1, own_store_other h2 h' (by decide) u⟩

set_option maxRecDepth 100000 in
set_option maxHeartbeats 2000000 in
theorem allPowers_any (B g G : Nat) (w : World) (hB : B ≤ g) (hG1 : 1 ≤ G) (hG : G ≤ 31) (hm : MkS w B g 1 []) :
    Calls Try.prog 103 #[.pointer (some ⟨g, 0, none⟩), .int .i64 (G : Int)] w fun e w' =>
      ∃ A c, e = .returned (.slice A (G + 1) c) ∧ OwI w' w.heap.size (.slice A (G + 1) c) (pwL G) ∧ MkS w' B g 1 (pwS G) ∧ Below B w w' ∧ (∀ (B1 : Nat) (v : Value) (l : List (Int × Int)), OwW w B1 v l → OwW w' B1 v l) := by
  have hmk : ∀ W : World, (Instr.makeSlice 22 (.int .i64 ((G : Int) + 1)) (.int .i64 ((G : Int) + 1))).run Try.prog W = .ok (.slice (some ⟨W.heap.size, 0, none⟩) (G + 1) (G + 1)) (W.alloc (.cells (madeCells #[.int .i64 0] (G + 1)) 3)) := run_make_row' (P := Try.prog) 22 3 (.int .i64 0) 8 Try.underlying22 info_int rfl .i64 .i64 (G + 1) (by omega) (by omega)
  have hgl := hm.lt
  have hz := zeros2_own (w := w) (B := w.heap.size) (G + 1) (by omega) (Nat.le_refl _)
  rw [← pwLi_zero] at hz
  have HZ := Lib.hid hz
  have HM := Lib.hid hm
  clear hz hm
  go_enter Try.func103, Try.ntmps103
  go_wp2
  clear hmk
  generalize hw1 : World.alloc w _ = w1
  have h1 : OwI w1 w.heap.size (.slice (some ⟨w.heap.size, 0, none⟩) (G + 1) (G + 1)) (pwLi G 2) := by rw [← hw1]; exact HZ.out
  have hb : Below B w w1 := by rw [← hw1]; exact (Below.refl _ _).alloc (by omega) _
  have h2 : MkS w1 B g 1 (pwS 1) := by rw [← hw1]; exact HM.out.same fun k hk => Below.heap_alloc w _ k hk
  have h3 : ∀ (B1 : Nat) (v : Value) (l : List (Int × Int)), OwW w B1 v l → OwW w1 B1 v l := fun B1 v l h => by rw [← hw1]; exact World.ownsRow.alloc h _
  have H1 := Lib.hid h1
  have H2 := Lib.hid h2
  have H3 := Lib.hid h3
  have HB := Lib.hid hb
  clear hw1 h1 hb h2 h3 HM HZ
  go_loopw [6] (fun i wr => ∃ m : Nat, 1 ≤ m ∧ m ≤ G ∧ i = .int .i64 ((m : Int) + 1) ∧ OwI wr w.heap.size (.slice (some ⟨w.heap.size, 0, none⟩) (G + 1) (G + 1)) (pwLi G (m + 1)) ∧ MkS wr B g 1 (pwS m) ∧ Below B w wr ∧ (∀ (B1 : Nat) (v : Value) (l : List (Int × Int)), OwW w B1 v l → OwW wr B1 v l)) (fun i _ => G + 2 - (intOf i).toNat)
  case atStart => exact ⟨1, by omega, by omega, rfl, H1.out, H2.out, HB.out, H3.out⟩
  case round =>
    obtain ⟨m, hm1, hmG, rfl, hown, hmk, hbel, hkp⟩ := hrel
    have OWN := Lib.hid hown
    have MK := Lib.hid hmk
    have BEL := Lib.hid hbel
    have KP := Lib.hid hkp
    have hl := pwLi_len G (m + 1)
    have hsz := hbel.size
    clear hmk hbel hkp
    by_cases hlt : m < G
    · have im : ((m : Int) + 1) ≤ (G : Int) := by omega
      have hp := pwS_len m
      have hM := makerMul_any B g 1 (pwS m) ((m : Int) - 1) 0 wr hB MK.out (by omega) (by omega) (by omega)
      rw [show stI ((m : Int) - 1) 0 = (0, ((m - 1 : Nat) : Int)) by rw [stI_min]; congr 1 <;> omega, ← pwS_succ hm1, show (1 : Int) + ((pwS m).length : Int) = (m : Int) by omega] at hM
      have HMM := Lib.hid hM
      have hc : wr.cell? ⟨w.heap.size, m, none⟩ = some (.int .i64 ((m : Int) - 1)) := by
        have h' : wr.ownsRow w.heap.size 3 1 (.slice (some ⟨w.heap.size, 0, none⟩) (G + 1) (G + 1)) (G + 1) ((pwLi G (m + 1)).map I) := by unfold OwI at hown; rw [hl] at hown; exact hown
        rw [h'.cellAt _ (by omega), List.getElem?_map, List.getElem?_eq_getElem (by omega)]
        simp only [pwLi, List.getElem_map, List.getElem_range, Option.map_some]
        rw [if_pos (by omega)]
        show some (Value.int .i64 _) = _
        congr 2
        omega
      clear hown hM hp
      go_wp2_with (go_at_call 107; refine HMM.out.mono ?_; rintro e w2 ⟨rfl, hm2, hb2, hk2⟩; obtain ⟨f1, ⟨u, c1⟩, st⟩ := pw_store (hk2.ints OWN.out) (by omega))
      go_roundw
      case rel =>
        have h2' : w2.ownsRow w.heap.size 3 1 (.slice (some ⟨w.heap.size, 0, none⟩) (G + 1) (G + 1)) (G + 1) ((pwLi G (m + 1)).map I) := by have := hk2.ints OWN.out; unfold OwI at this; rw [hl] at this; exact this
        refine ⟨m + 1, by omega, by omega, by go_num, st, ?_, ?_, ?_⟩
        · exact mk_store hm2 h2' (by omega) _
        · exact (BEL.out.trans hb2).setCell (show B ≤ w.heap.size by omega) _
        · exact fun B1 v l h => own_store_other (hk2.win (KP.out B1 v l h)) h2' (by decide) _
      case measure => simp [intOf]; omega
    · have e : m = G := by omega
      subst e
      rw [pwLi_end (by omega)] at hown
      have OWN := Lib.hid hown
      clear hown
      go_wp2
      go_ret
      exact ⟨_, _, rfl, OWN.out, MK.out, BEL.out, KP.out⟩
end Go.Proofs.Ytodjnafalbbmjaa
/- Trimming a plan all of whose steps are used, and the plan by digits to a base, by the model. -/
namespace Go.Proofs.Ytodjnafalbbmjaa
open Go.RowKit

set_option maxRecDepth 100000 in
set_option maxHeartbeats 1000000 in
theorem meTrim_any (B : Nat) (A1 A2 : Option Addr) (c1 c2 n1 : Nat) (s : List (Int × Int)) (o : List Int) (w : World) (hB : B ≤ w.heap.size) (hn : s.length = n1) (hls : n1 ≤ 200) (hlo : o.length = 1) (hok : OkS 1 s) (hout : ∀ x ∈ o, 0 ≤ x ∧ x ≤ (s.length : Int))
    (hu : usd 1 s o = ((List.range s.length).map fun i : Nat => (i : Int))) (hk : keepS ⟨1, s, o⟩ 1 ((List.range s.length).map fun i : Nat => (i : Int)) ((List.range s.length).map fun i : Nat => (i : Int)).length = s)
    (hko : keepO ⟨1, s, o⟩ 1 ((List.range s.length).map fun i : Nat => (i : Int)) 1 = o) (hr : RdP w B A1 A2 ⟨1, s, o⟩) :
    Calls Try.prog 67 #[.agg #[.int .i64 1, .slice A1 n1 c1, .slice A2 1 c2]] w fun e w' =>
      ∃ B1 B2 d1 d2, e = .returned (.agg #[.int .i64 1, .slice B1 n1 d1, .slice B2 1 d2]) ∧ OwS w' w.heap.size (.slice B1 n1 d1) s ∧ OwI w' w.heap.size (.slice B2 1 d2) o ∧ Below w.heap.size w w' := by
  subst hn
  have H := Lib.hid hr
  have hul : ((List.range s.length).map fun i : Nat => (i : Int)).length = s.length := by simp
  have hpu := fun W hBW hrW => plUsed_any w.heap.size 1 A1 A2 c1 c2 ⟨1, s, o⟩ W rfl (by omega) (show s.length ≤ 1000 by omega) (show o.length ≤ 1000 by omega) hBW hok hrW
  have hpk := fun W A c hBW hrW hlW => plKeep_any W.heap.size 1 A1 A2 A c1 c2 c ⟨1, s, o⟩ ((List.range s.length).map fun i : Nat => (i : Int)) W rfl (by omega) (by omega) (show s.length ≤ 1000 by omega) (show o.length ≤ 1000 by omega) hBW (by intro x hx; obtain ⟨i, hi, rfl⟩ := List.mem_map.1 hx; have := List.mem_range.1 hi; show 0 ≤ (i : Int) ∧ (i : Int) < (s.length : Int); omega) hok (fun x hx => by have := hout x hx; show 0 ≤ x ∧ x < ((1 : Nat) : Int) + (s.length : Int); omega) hrW hlW
  simp only [hu, hlo, hul] at hpu
  rw [hul] at hk
  simp only [hul, hk, hlo, hko] at hpk
  have HPU := Lib.hid hpu
  have HPK := Lib.hid hpk
  clear hr hpu hpk hok hout hu hk hko hul hlo
  go_enter Try.func67, Try.ntmps67
  go_wp2
  generalize hw1 : World.alloc (World.alloc w _) _ = w1
  obtain ⟨q0, q1, xs, xb⟩ := boxes2 hw1
  clear hw1
  obtain ⟨y0, y1, y2, _, _, _⟩ := cells3 q0
  have HB2 := Lib.hid xb
  have R1 := Lib.hid q1
  have hs2 : w.heap.size + 2 ≤ w1.heap.size := by omega
  have FS := Lib.hid (show ∀ x, Below w1.heap.size w1 x → x.cell? ⟨w.heap.size, 0, none⟩ = some (.int .i64 1) ∧ x.cell? ⟨w.heap.size, 1, none⟩ = some (.slice A1 s.length c1) ∧ x.cell? ⟨w.heap.size, 2, none⟩ = some (.slice A2 1 c2) from fun x hx =>
    ⟨(hx.cell (p := ⟨w.heap.size, 0, none⟩) (by simp only []; omega)).trans y0, (hx.cell (p := ⟨w.heap.size, 1, none⟩) (by simp only []; omega)).trans y1, (hx.cell (p := ⟨w.heap.size, 2, none⟩) (by simp only []; omega)).trans y2⟩)
  have S0 := Lib.hid (show Below w1.heap.size w1 w1.drew from (Below.refl _ _).drew)
  clear y0 y1 y2 q0 q1 xs xb
  refine wp_region_T (fun x : World => Below w1.heap.size w1 x) [0, 1] [0, 1] (.ls 0 (.ls 1 (.hv 2 (.hv 3 (.hv 4 (.done)))))) (by kernel_rfl) (by kernel_rfl) ?_
  refine T_ls1 (v := .agg #[.int .i64 1, .slice A1 s.length c1, .slice A2 1 c2]) rfl rfl S0.out (fun x hx => (by obtain ⟨h0, h1, h2⟩ := FS.out x hx; go_simp)) (fun K hK => ?_)
  (go_simp; refine hK _ ?_; clear hK K)
  refine T_ls1 (v := .agg #[.int .i64 1, .slice A1 s.length c1, .slice A2 1 c2]) rfl rfl S0.out (fun x hx => (by obtain ⟨h0, h1, h2⟩ := FS.out x hx; go_simp)) (fun K hK => ?_)
  (go_simp; refine hK _ ?_; clear hK K)
  generalize World.drew w1 = wd at S0 ⊢
  refine T_hvS rfl (fun K hK => ?_)
  go_simp
  go_at_call 77
  refine (HPU.out wd (by have := S0.out.size; omega) (((H.out.below' (HB2.out.trans (S0.out.mono (by omega))) hB).more hB))).mono ?_
  rintro e w3 ⟨A3, c3, rfl, hown3, hb3⟩
  have hb23 : Below w1.heap.size w1 w3 := S0.out.trans (hb3.mono S0.out.size)
  have HO3 := Lib.hid hown3
  have HB23 := Lib.hid hb23
  clear hown3 hb3
  go_simp
  refine hK _ _ hb23 ?_
  clear hK K hb23
  refine T_hv rfl (by kernel_rfl) (fun K hK => ?_)
  go_simp
  go_at_call 76
  have hbw3 : Below w.heap.size w w3 := HB2.out.trans (HB23.out.mono (by omega))
  refine (HPK.out w3 A3 c3 (Nat.le_refl _) ((H.out.below' hbw3 hB).more (by have := hbw3.size; omega)) (Rd.of_own (show w3.ownsRow wd.heap.size 3 1 (.slice A3 s.length c3) s.length (((List.range s.length).map fun i : Nat => (i : Int)).map I) from by have h := HO3.out; unfold OwI at h; rw [List.length_map, List.length_range] at h; exact h))).mono ?_
  rintro e w4 ⟨B1, B2, d1, d2, rfl, hs4, ho4, hb4⟩
  have hb24 : Below w1.heap.size w1 w4 := HB23.out.trans (hb4.mono HB23.out.size)
  have r4 := (hb24.block (w.heap.size + 1) (by omega)).trans R1.out
  obtain ⟨t0, t1, t2, g0, g1, g2⟩ := cells3 r4
  have R4 := Lib.hid r4
  have HS4 := Lib.hid (show OwS w4 w.heap.size (.slice B1 s.length d1) s from own_base hs4 (show w.heap.size ≤ w3.heap.size from hbw3.size))
  have HO4 := Lib.hid (show OwI w4 w.heap.size (.slice B2 1 d2) o from own_base ho4 (show w.heap.size ≤ w3.heap.size from hbw3.size))
  have HB4 := Lib.hid (HB2.out.trans (hb24.mono (by omega)))
  clear r4 hs4 ho4 hb4 hb24 hbw3
  (go_simp; refine hK _ _ ?_; clear hK K)
  (refine T_hv rfl (by kernel_rfl) (fun K hK => ?_); go_simp; refine hK _ _ ?_; clear hK K)
  (repeat (refine T_lp rfl (fun K hK => ?_); go_simp; refine hK _ ?_; clear hK K))
  refine T_done ?_
  go_wp2
  refine bodyPost_ret (v := .agg #[.int .i64 1, .slice B1 s.length d1, .slice B2 1 d2]) (by simp [results, Try.results67, go_sem, t0, t1, t2]) rfl ⟨B1, B2, d1, d2, rfl, ?_, ?_, ?_⟩
  · exact own_set3 HS4.out R4.out (by decide) _ _ _
  · exact own_set3 HO4.out R4.out (by decide) _ _ _
  · exact ((HB4.out.setCell (by simp) _).setCell (by simp) _).setCell (by simp) _
end Go.Proofs.Ytodjnafalbbmjaa
/- The plan by digits to a base, by the model. -/
namespace Go.Proofs.Ytodjnafalbbmjaa
open Go.RowKit

set_option maxRecDepth 100000 in
set_option maxHeartbeats 4000000 in
theorem meWindow_any (k n : Nat) (w : World) (hk1 : 1 ≤ k) (hk5 : k ≤ 5) (hn1 : 1 ≤ n) (hn : n ≤ 1000000) :
    Calls Try.prog 54 #[.int .i64 (n : Int), .int .i64 (k : Int)] w fun e w' =>
      ∃ A1 A2 c1 c2, e = .returned (.agg #[.int .i64 (winP k n).n, .slice A1 (winP k n).s.length c1, .slice A2 (winP k n).o.length c2]) ∧ OwP w' w.heap.size A1 A2 c1 c2 (winP k n) ∧ Below w.heap.size w w' := by
  have hdk := dg_ok hk1 hn1 hn
  obtain ⟨f1, f2, f3, f4, f5, f6⟩ := winP_facts hk1 hn1 hn
  obtain ⟨hl200, ho1⟩ := winP_len hk1 hk5 hn1 hn
  have hxl := fun j => wdX_len (gN (2 ^ k) n) k (dgN (2 ^ k) n) j
  obtain ⟨hg1, hg2⟩ := gN_lt hk1 hn1 hn
  obtain ⟨b, hb⟩ : ∃ b : Nat, 2 ^ k = b := ⟨_, rfl⟩
  have hb2 : 2 ≤ b := by rw [← hb]; exact two_le hk1
  have hb32 : b ≤ 32 := by rw [← hb]; have := Nat.pow_le_pow_right (n := 2) (by omega) hk5; omega
  have hpw : (2 : Int) ^ k = (b : Int) := by rw [← hb, Int.natCast_pow]; rfl
  have hle := lenD_le b 20 n
  have hD := fun W => meDigits_any b n W hb2 (by omega) hn
  have hGR := fun (A : Option Addr) (c : Nat) (W : World) => meGreatest_any W.heap.size A c (dgs b n) W (by have := dgs_len b n; omega)
  have hGI : grA (dgs b n) = (gN b n : Int) := by unfold gN; have := (grA_prop (dgs b n)).1; omega
  have HATd := Lib.hid (fun (i : Nat) (h : i < lenD b 20 n) => dgs_get (b := b) (n := n) (i := i) h)
  have EP := Lib.hid (show winP k n = ⟨1, (wdX (gN b n) k (dgN b n) (lenD b 20 n - 1)).1, [(wdX (gN b n) k (dgN b n) (lenD b 20 n - 1)).2]⟩ by unfold winP; rw [hb])
  have hdd : ∀ j, dgN b n j = n / b ^ (lenD b 20 n - 1 - j) % b := fun j => rfl
  have hdl : (dgs b n).length = lenD b 20 n := by unfold dgs; rw [digL_len]
  rw [hb] at hdk hxl hg1 hg2
  obtain ⟨L, hL⟩ : ∃ L, lenD b 20 n = L := ⟨_, rfl⟩
  obtain ⟨g, hg⟩ : ∃ g, gN b n = g := ⟨_, rfl⟩
  obtain ⟨d, hd⟩ : ∃ d, dgN b n = d := ⟨_, rfl⟩
  obtain ⟨D, hDD⟩ : ∃ D, dgs b n = D := ⟨_, rfl⟩
  rw [hg] at hdk hxl hg1 hg2 EP hGI
  rw [hd] at hdk hxl EP hdd
  rw [hL] at hdk EP hdd hdl hle
  have HATd := HATd.out
  rw [hL, hDD] at HATd
  rw [hDD] at hD hGR hGI hdl
  rw [hGI] at hGR
  have HDIG := Lib.hid (show ∀ j, j < L → ∀ i, i = L - 1 - j → ∃ h : i < D.length, D[i] = (d j : Int) from fun j hj i hi => by
    subst hi
    obtain ⟨h, e⟩ := HATd (L - 1 - j) (by omega)
    exact ⟨h, by rw [e, hdd j]⟩)
  have hL1 := hdk.L1
  have hd0 := hdk.d0
  have HDB := Lib.hid hdk.dg
  have HDG := Lib.hid hD
  have HGR := Lib.hid hGR
  have HTR := Lib.hid (show ∀ (A1 A2 : Option Addr) (c1 c2 : Nat) (W : World), RdP W W.heap.size A1 A2 (winP k n) → Calls Try.prog 67 #[.agg #[.int .i64 1, .slice A1 (winP k n).s.length c1, .slice A2 1 c2]] W fun e w' =>
      ∃ B1 B2 d1 d2, e = .returned (.agg #[.int .i64 1, .slice B1 (winP k n).s.length d1, .slice B2 1 d2]) ∧ OwS w' W.heap.size (.slice B1 (winP k n).s.length d1) (winP k n).s ∧ OwI w' W.heap.size (.slice B2 1 d2) (winP k n).o ∧ Below W.heap.size W w' from
    fun A1 A2 c1 c2 W hr => meTrim_any W.heap.size A1 A2 c1 c2 (winP k n).s.length (winP k n).s (winP k n).o W (Nat.le_refl _) rfl hl200 ho1 f1 f6 f2 f3 f4 hr)
  have HDL := Lib.hid hdl
  obtain ⟨x, hx⟩ : ∃ x, wdX g k d = x := ⟨_, rfl⟩
  have EX0 := Lib.hid (show x 0 = (pwS g, (d 0 : Int) - 1) by rw [← hx]; rfl)
  have EXS := Lib.hid (show ∀ j, x (j + 1) = if d (j + 1) = 0 then sqN 1 (x j) k else muS 1 (sqN 1 (x j) k) ((d (j + 1) : Int) - 1) by intro j; rw [← hx]; rfl)
  rw [hx] at hxl EP
  have HXL := Lib.hid (show ∀ j, j < L → (x j).1.length ≤ 150 from fun j hj => by
    have := hxl j
    have h2 : (k + 1) * j ≤ 6 * 19 := Nat.mul_le_mul (by omega) (by omega)
    omega)
  have HLEN := Lib.hid (show (winP k n).s.length = (x (L - 1)).1.length by rw [EP.out])
  have HPO := Lib.hid ho1
  clear hx hxl hL hg hd hDD hD hGR hGI hdd hdl HATd hb f1 f2 f3 f4 f5 f6 hl200 ho1 hdk
  go_enter Try.func54, Try.ntmps54
  go_wp2_with fail
  go_at_call 41
  generalize hw1 : World.alloc w _ = w1
  obtain ⟨q0, xs, xb⟩ := zero_box hw1
  clear hw1
  have Q0 := Lib.hid q0
  have XB := Lib.hid xb
  have XS := Lib.hid xs
  clear q0 xs xb
  refine (HDG.out w1).mono ?_
  rintro e w2 ⟨AD, cD, rfl, hod, hbd⟩
  have OWd := Lib.hid hod
  have HBD := Lib.hid hbd
  have hzD := HBD.out.size
  clear hod hbd
  go_wp2_with fail
  generalize hw3 : World.alloc w2 _ = w3
  obtain ⟨mk3, b3⟩ := pk_new (B := w2.heap.size) hw3
  clear hw3
  have MK := Lib.hid mk3
  have B3 := Lib.hid b3
  clear mk3 b3
  go_loopw [7, 8] (fun vv ev wr => ∃ m : Nat, 1 ≤ m ∧ m ≤ g ∧ ev = .int .i64 ((m : Int) + 1) ∧ vv = .int .i64 ((m : Int) - 1) ∧ PkS wr w2.heap.size w2.heap.size 1 (pwS m) ∧ Below w2.heap.size w2 wr) (fun _ ev _ => (g + 2 - (intOf ev).toNat))
  case atStart => exact ⟨1, by omega, by omega, rfl, rfl, MK.out, B3.out⟩
  case round =>
    obtain ⟨m, hm1, hmg, rfl, rfl, hmk, hbel⟩ := hrel
    have MKR := Lib.hid hmk
    have BEL := Lib.hid hbel
    clear hmk hbel
    have hpl := pwS_len m
    have hG := HGR.out AD cD wr (show OwI wr w1.heap.size (.slice AD D.length cD) D from own_below OWd.out BEL.out).rd
    have HG := Lib.hid hG
    clear hG
    by_cases hlt : m < g
    case pos =>
      have im : (m : Int) + 1 ≤ (g : Int) := by omega
      obtain ⟨A4, c4, hblk, hos⟩ := MKR.out
      obtain ⟨y0, y1, y2, _, _, _⟩ := cells3 hblk
      have BLK := Lib.hid hblk
      have hT := meTimes_any wr.heap.size A4 none c4 0 0 1 (pwS m) ((m : Int) - 1) 0 wr (Nat.le_refl _) (by omega) (by omega) (by omega) (Rd.of_own hos)
      rw [show stI ((m : Int) - 1) 0 = (0, ((m - 1 : Nat) : Int)) by rw [stI_min]; congr 1 <;> omega, ← pwS_succ hm1] at hT
      rw [show (1 : Int) + ((pwS m).length : Int) = (m : Int) by omega] at hT
      have HT := Lib.hid hT
      have HPL := Lib.hid (show (pwS (m + 1)).length = (pwS m).length + 1 by rw [pwS_len, pwS_len]; omega)
      clear hblk hos hT hpl
      go_wp2_with (first | (go_at_call 66; refine HG.out.mono ?_; rintro e' w' ⟨rfl, rfl⟩) | (go_at_call 62; refine HT.out.mono ?_; rintro e' w3 ⟨A5, c5, rfl, ho3, hb3⟩; have h3 := (hb3.block _ (Array.getElem?_eq_some_iff.1 BLK.out).1).trans BLK.out; obtain ⟨t0, t1, t2, g0, g1, g2⟩ := cells3 h3))
      obtain ⟨w4, hw4⟩ : ∃ w4, ((World.setCell w3 ⟨w2.heap.size, 0, none⟩ (.int .i64 1)).setCell ⟨w2.heap.size, 1, none⟩ (.slice A5 ((pwS m).length + 1) c5)).setCell ⟨w2.heap.size, 2, none⟩ (.slice none 0 0) = w4 := ⟨_, rfl⟩
      rw [hw4]
      have MN := Lib.hid (pk_set (cs := #[_, _, _]) HPL.out h3 (own_base ho3 BEL.out.size) hw4)
      have BN := Lib.hid (show Below w2.heap.size w2 w4 from by subst hw4; exact (((BEL.out.trans (hb3.mono BEL.out.size)).setCell (Nat.le_refl _) _).setCell (Nat.le_refl _) _).setCell (Nat.le_refl _) _)
      clear hw4 h3 ho3 hb3 y0 y1 y2 t0 t1 t2 g0 g1 g2
      go_roundw
      case rel => exact ⟨m + 1, by omega, by omega, by go_num, by go_num, MN.out, BN.out⟩
      case measure => simp [intOf]; omega
    case neg =>
      have e : m = g := by omega
      subst e
      have im : ¬ (m : Int) + 1 ≤ (m : Int) := by omega
      obtain ⟨hD0, hv0⟩ := HDIG.out 0 (by omega) (L - 1) (by omega)
      have hdl := HDL.out
      obtain ⟨b0, off0, rfl, hbb, hcell⟩ := (show OwI wr w1.heap.size (.slice AD D.length cD) D from own_below OWd.out BEL.out).rd.int (k := L - 1) hD0
      rw [hv0] at hcell
      have iD : (D.length : Int) = (L : Int) := by omega
      have iL0 : (0 : Int) ≤ (L : Int) - 1 := by omega
      have eL : (L : Int) - 1 = ((L - 1 : Nat) : Int) := by omega
      have iLL : ((L - 1 : Nat) : Int) < (D.length : Int) := by omega
      have hd0g := HDB.out 0 (by omega)
      clear hv0 hdl
      go_wp2_with (go_at_call 66; refine HG.out.mono ?_; rintro e' w' ⟨rfl, rfl⟩)
      clear hcell iD iL0 eL iLL im
      go_loopw [7, 9] (fun vv iv wr => ∃ j : Nat, j + 1 ≤ L ∧ iv = .int .i64 ((L : Int) - 2 - j) ∧ vv = .int .i64 (x j).2 ∧ PkS wr w2.heap.size w2.heap.size 1 (x j).1 ∧ Below w2.heap.size w2 wr) (fun _ iv _ => (intOf iv + 1).toNat)
      case atStart => exact ⟨0, by omega, by go_num, by rw [EX0.out], by rw [EX0.out]; exact MKR.out, BEL.out⟩
      case round =>
        obtain ⟨j, hj, rfl, rfl, hmk, hbel⟩ := hrel
        have MKR := Lib.hid hmk
        have BEL := Lib.hid hbel
        clear hmk hbel
        have hxlj := HXL.out j (by omega)
        by_cases hlt2 : j + 1 < L
        case neg =>
          have ip : ¬ (0 : Int) ≤ (L : Int) - 2 - (j : Int) := by omega
          have EPJ := EP.out
          rw [show L - 1 = j by omega] at EPJ
          obtain ⟨y, hy⟩ : ∃ y, x j = y := ⟨_, rfl⟩
          rw [hy] at MKR EPJ hxlj
          rw [hy]
          have HTR2 := Lib.hid (show ∀ (A1 A2 : Option Addr) (c1 c2 : Nat) (W : World), RdP W W.heap.size A1 A2 ⟨1, y.1, [y.2]⟩ → Calls Try.prog 67 #[.agg #[.int .i64 1, .slice A1 y.1.length c1, .slice A2 1 c2]] W fun e w' =>
            ∃ B1 B2 d1 d2, e = .returned (.agg #[.int .i64 1, .slice B1 y.1.length d1, .slice B2 1 d2]) ∧ OwS w' W.heap.size (.slice B1 y.1.length d1) y.1 ∧ OwI w' W.heap.size (.slice B2 1 d2) [y.2] ∧ Below W.heap.size W w' from by
              have h := HTR.out
              rw [EPJ] at h
              exact h)
          have EPH := Lib.hid EPJ
          clear hy EPJ
          obtain ⟨A4, c4, hblk, hown⟩ := MKR.out
          obtain ⟨y0, y1, y2, _, _, _⟩ := cells3 hblk
          have OWN := Lib.hid hown
          clear hblk hown
          go_wp2_with fail
          go_at_call 63
          refine (meEnd_any w2.heap.size A4 none c4 0 0 1 y.2 y.1 wr BEL.out.size OWN.out).mono ?_
          rintro e w3 ⟨A5, rfl, hs3, ho3, hb3⟩
          have RD3 := Lib.hid (show RdP w3 w3.heap.size A4 A5 ⟨1, y.1, [y.2]⟩ from ⟨Rd.of_own hs3, Rd.of_own ho3⟩)
          have B3' := Lib.hid (BEL.out.trans (hb3.mono BEL.out.size))
          clear hs3 ho3 hb3 y0 y1 y2
          go_wp2_with fail
          go_at_call 67
          refine (HTR2.out A4 A5 c4 1 w3 RD3.out).mono ?_
          rintro e w5 ⟨B1, B2, d1, d2, rfl, hs5, ho5, hb5⟩
          have hb25 : Below w2.heap.size w2 w5 := B3'.out.trans (hb5.mono B3'.out.size)
          have hb15 : Below w1.heap.size w1 w5 := HBD.out.trans (hb25.mono HBD.out.size)
          have q5 := (hb15.block w.heap.size (by have := XS.out; omega)).trans Q0.out
          obtain ⟨t0, t1, t2, g0, g1, g2⟩ := cells3 q5
          have z1 := HBD.out.size
          have z2 := B3'.out.size
          have OS := Lib.hid hs5
          have OO := Lib.hid ho5
          have Q5 := Lib.hid q5
          have B15 := Lib.hid (XB.out.trans (hb15.mono (by have := XS.out; omega)))
          clear hs5 ho5 hb5 hb25 hb15 q5
          go_wp2
          refine bodyPost_ret (v := .agg #[.int .i64 1, .slice B1 y.1.length d1, .slice B2 1 d2]) (by simp [results, Try.results54, go_sem, t0, t1, t2]) rfl ⟨B1, B2, d1, d2, by rw [EPH.out]; rfl, ?_, ?_⟩
          · rw [EPH.out]
            exact owP_of3 (own_base OS.out (by have := XS.out; omega)) (own_base OO.out (by have := XS.out; omega)) Q5.out (by decide) (by decide) rfl rfl _ _ _
          · exact ((B15.out.setCell (by simp) _).setCell (by simp) _).setCell (by simp) _
        case pos =>
        obtain ⟨p, hp⟩ : ∃ p : Nat, L - 2 - j = p := ⟨_, rfl⟩
        have ep : (L : Int) - 2 - (j : Int) = (p : Int) := by omega
        have ip : (0 : Int) ≤ (p : Int) := by omega
        have ipD : (p : Int) < (D.length : Int) := by have := HDL.out; omega
        obtain ⟨y, hy⟩ : ∃ y, x j = y := ⟨_, rfl⟩
        have ES := Lib.hid (show x (j + 1) = if d (j + 1) = 0 then sqN 1 y k else muS 1 (sqN 1 y k) ((d (j + 1) : Int) - 1) by rw [EXS.out, hy])
        rw [hy] at MKR hxlj
        rw [hy, ep]
        clear hy
        go_wp2
        go_loopw [7, 10] (fun vv qv wr => ∃ q : Nat, q ≤ k ∧ qv = .int .i64 q ∧ vv = .int .i64 (sqN 1 y q).2 ∧ PkS wr w2.heap.size w2.heap.size 1 (sqN 1 y q).1 ∧ Below w2.heap.size w2 wr) (fun _ qv _ => k - (intOf qv).toNat)
        case atStart => exact ⟨0, by omega, rfl, rfl, MKR.out, BEL.out⟩
        case round =>
          obtain ⟨q, hq, rfl, rfl, hmk, hbel⟩ := hrel
          have MI := Lib.hid hmk
          have BI := Lib.hid hbel
          clear hmk hbel
          have hsl := sqN_len 1 y q
          obtain ⟨z, hz⟩ : ∃ z, sqN 1 y q = z := ⟨_, rfl⟩
          by_cases hqk : q < k
          · have iq : (q : Int) < (k : Int) := by omega
            have EZ := Lib.hid (show sqN 1 y (q + 1) = muS 1 z z.2 by rw [← hz]; rfl)
            rw [hz] at MI hsl
            rw [hz]
            clear hz
            obtain ⟨A4, c4, hblk, hos⟩ := MI.out
            obtain ⟨y0, y1, y2, _, _, _⟩ := cells3 hblk
            have BLK := Lib.hid hblk
            have hT := meTimes_any wr.heap.size A4 none c4 0 0 1 z.1 z.2 z.2 wr (Nat.le_refl _) (by omega) (by omega) (by omega) (Rd.of_own hos)
            have HT := Lib.hid hT
            clear hblk hos hT hsl
            go_wp2_with (go_at_call 62; refine HT.out.mono ?_; rintro e' w3 ⟨A5, c5, rfl, ho3, hb3⟩; have h3 := (hb3.block _ (Array.getElem?_eq_some_iff.1 BLK.out).1).trans BLK.out; obtain ⟨t0, t1, t2, g0, g1, g2⟩ := cells3 h3)
            obtain ⟨w4, hw4⟩ : ∃ w4, ((World.setCell w3 ⟨w2.heap.size, 0, none⟩ (.int .i64 1)).setCell ⟨w2.heap.size, 1, none⟩ (.slice A5 (z.1.length + 1) c5)).setCell ⟨w2.heap.size, 2, none⟩ (.slice none 0 0) = w4 := ⟨_, rfl⟩
            rw [hw4]
            have MN := Lib.hid (pk_set (cs := #[_, _, _]) (by simp) h3 (own_base ho3 BI.out.size) hw4)
            have BN := Lib.hid (show Below w2.heap.size w2 w4 from by subst hw4; exact (((BI.out.trans (hb3.mono BI.out.size)).setCell (Nat.le_refl _) _).setCell (Nat.le_refl _) _).setCell (Nat.le_refl _) _)
            clear hw4 h3 ho3 hb3 y0 y1 y2 t0 t1 t2 g0 g1 g2
            go_roundw
            case rel => exact ⟨q + 1, by omega, by go_num, by rw [EZ.out]; rfl, by rw [EZ.out]; exact MN.out, BN.out⟩
            case measure => simp [intOf]; omega
          · have e : q = k := by omega
            subst e
            rw [hz] at MI hsl ES
            rw [hz]
            clear hz
            obtain ⟨hkD, hval⟩ := HDIG.out (j + 1) (by omega) p (by omega)
            obtain ⟨b2, off2, hAD2, hb2', hcell⟩ := (show OwI wr w1.heap.size (.slice (some ⟨b0, off0, none⟩) D.length cD) D from own_below OWd.out BI.out).rd.int hkD
            rw [hval] at hcell
            injection hAD2 with hAD2
            injection hAD2 with e1 e2
            subst e1
            subst e2
            have hdb := HDB.out (j + 1) (by omega)
            obtain ⟨dd, hdd⟩ : ∃ dd, d (j + 1) = dd := ⟨_, rfl⟩
            rw [hdd] at ES hcell hdb
            clear hdd hval
            by_cases hz0 : dd = 0
            · have i0 : ¬ (0 : Int) < (dd : Int) := by omega
              rw [if_pos hz0] at ES
              clear hz0
              go_wp2
              go_roundw
              case rel => exact ⟨j + 1, by omega, by rw [← ep]; go_num, by rw [ES.out], by rw [ES.out]; exact MI.out, BI.out⟩
              case measure => simp [intOf]
            · have i0 : (0 : Int) < (dd : Int) := by omega
              rw [if_neg hz0] at ES
              clear hz0
              obtain ⟨A4, c4, hblk, hos⟩ := MI.out
              obtain ⟨y0, y1, y2, _, _, _⟩ := cells3 hblk
              have BLK := Lib.hid hblk
              have HOS := Lib.hid hos
              have hbb2 := BI.out.size
              have FS := Lib.hid (show ∀ X, Below wr.heap.size wr X → X.cell? ⟨w2.heap.size, 0, none⟩ = some (.int .i64 1) ∧ X.cell? ⟨w2.heap.size, 1, none⟩ = some (.slice A4 z.1.length c4) ∧ X.cell? ⟨w2.heap.size, 2, none⟩ = some (.slice none 0 0) ∧ X.cell? ⟨b0, off0 + p, none⟩ = some (.int .i64 (dd : Int)) from fun X hX =>
                ⟨(hX.cell (p := ⟨w2.heap.size, 0, none⟩) (Array.getElem?_eq_some_iff.1 BLK.out).1).trans y0, (hX.cell (p := ⟨w2.heap.size, 1, none⟩) (Array.getElem?_eq_some_iff.1 BLK.out).1).trans y1, (hX.cell (p := ⟨w2.heap.size, 2, none⟩) (Array.getElem?_eq_some_iff.1 BLK.out).1).trans y2, (hX.cell (p := ⟨b0, off0 + p, none⟩) hb2').trans hcell⟩)
              have HC := Lib.hid (show Below wr.heap.size wr wr.drew from (Below.refl _ _).drew)
              have hsl2 : z.1.length ≤ 170 := by omega
              have hT := fun W h => meTimes_any W.heap.size A4 none c4 0 0 1 z.1 z.2 ((dd : Int) - 1) W (Nat.le_refl _) (by omega) (by omega) (by omega) h
              have HT := Lib.hid hT
              have HWR := Lib.hid (show IntKind.i64.wrap ((dd : Int) - 1) = (dd : Int) - 1 from IntWalk.i64_in _ (by omega))
              clear hblk hos y0 y1 y2 hsl hT
              go_wp2
              clear hcell
              refine wp_region_T (fun X : World => Below wr.heap.size wr X) [0, 1, 2, 3, 4, 5, 6, 8, 9, 10, 12] [0, 5] (.lp 1 (.lp 2 (.lp 3 (.lp 4 (.ls 0 (.ls 5 (.lp 6 (.hv 7 (.lp 8 (.lp 9 (.lp 10 (.hv 11 (.lp 12 (.done)))))))))))))) (by kernel_rfl) (by kernel_rfl) ?_
              (repeat (refine T_lp rfl (fun K hK => ?_); go_simp; refine hK _ ?_; clear hK K))
              refine T_ls1 (v := .agg #[.int .i64 1, .slice A4 z.1.length c4, .slice none 0 0]) rfl rfl HC.out (fun X hX => (by obtain ⟨h0, h1, h2, h3⟩ := FS.out X hX; go_simp)) (fun K hK => ?_)
              (go_simp; refine hK _ ?_; clear hK K)
              refine T_ls1 (v := .int .i64 (dd : Int)) rfl rfl HC.out (fun X hX => (by obtain ⟨h0, h1, h2, h3⟩ := FS.out X hX; go_simp)) (fun K hK => ?_)
              (go_simp; refine hK _ ?_; clear hK K)
              generalize World.drew wr = wd at HC ⊢
              (repeat (refine T_lp rfl (fun K hK => ?_); go_simp; refine hK _ ?_; clear hK K))
              refine T_hvS rfl (fun K hK => ?_)
              go_simp
              rw [HWR.out]
              go_at_call 62
              refine (HT.out wd (Rd.of_own (own_below HOS.out HC.out))).mono ?_
              rintro e' x1 ⟨A5, c5, rfl, ho3, hb3⟩
              go_simp
              refine hK _ _ (HC.out.trans (hb3.mono HC.out.size)) ?_
              clear hK K
              have hszw := HC.out.size
              have HC := Lib.hid (HC.out.trans (hb3.mono HC.out.size))
              have O3 := Lib.hid (show OwS x1 w2.heap.size (.slice A5 (z.1.length + 1) c5) (z.1 ++ [stI z.2 ((dd : Int) - 1)]) from own_base ho3 (by omega))
              have h3 := (HC.out.block _ (Array.getElem?_eq_some_iff.1 BLK.out).1).trans BLK.out
              have H3 := Lib.hid h3
              obtain ⟨t0, t1, t2, g0, g1, g2⟩ := cells3 h3
              clear ho3 hb3 h3
              (repeat (refine T_lp rfl (fun K hK => ?_); go_simp; refine hK _ ?_; clear hK K))
              refine T_hv rfl (by kernel_rfl) (fun K hK => ?_)
              go_simp
              obtain ⟨x7, hw4⟩ : ∃ X, ((World.setCell x1 ⟨w2.heap.size, 0, none⟩ (.int .i64 1)).setCell ⟨w2.heap.size, 1, none⟩ (.slice A5 (z.1.length + 1) c5)).setCell ⟨w2.heap.size, 2, none⟩ (.slice none 0 0) = X := ⟨_, rfl⟩
              rw [hw4]
              have MN := Lib.hid (pk_set (cs := #[_, _, _]) (by simp) H3.out O3.out hw4)
              have BN := Lib.hid (show Below w2.heap.size w2 x7 from by subst hw4; exact ((((BI.out.trans (HC.out.mono BI.out.size))).setCell (Nat.le_refl _) _).setCell (Nat.le_refl _) _).setCell (Nat.le_refl _) _)
              refine hK _ _ ?_
              clear hK K hw4 t0 t1 t2 g0 g1 g2
              (repeat (refine T_lp rfl (fun K hK => ?_); go_simp; refine hK _ ?_; clear hK K))
              refine T_done ?_
              go_wp2
              go_roundw
              case rel => exact ⟨j + 1, by omega, by rw [← ep]; go_num, by rw [ES.out]; rfl, by rw [ES.out]; exact MN.out, BN.out⟩
              case measure => simp [intOf]
end Go.Proofs.Ytodjnafalbbmjaa
/- The method by windows, by the program. -/
namespace Go.Proofs.Ytodjnafalbbmjaa
open Go.RowKit

set_option maxRecDepth 100000 in
set_option maxHeartbeats 2000000 in
theorem winFor_any (k n : Nat) (w : World) (hk1 : 1 ≤ k) (hk5 : k ≤ 5) (hn1 : 1 ≤ n) (hn : n ≤ 1000000) :
    Calls Try.prog 100 #[.agg #[.int .i64 (k : Int)], .int .i64 (n : Int)] w fun e w' =>
      ∃ R1 R2 v1 v2, e = .returned (.tuple #[.agg #[.int .i64 (mkR (winP k n)).n, .slice R1 (mkR (winP k n)).s.length v1, .slice R2 (mkR (winP k n)).o.length v2], .bool (good (winP k n))]) ∧ OwP w' w.heap.size R1 R2 v1 v2 (mkR (winP k n)) ∧ Below w.heap.size w w' := by
  obtain ⟨_, _, _, _, ht, _⟩ := winP_facts hk1 hn1 hn
  obtain ⟨hW, hP, hG⟩ := wins_all hk1 hn1 hn
  obtain ⟨hg1, hg2⟩ := gN_lt hk1 hn1 hn
  have hg31 : gN (2 ^ k) n ≤ 31 := by have := Nat.pow_le_pow_right (n := 2) (by omega) hk5; omega
  have hWA := fun W => windowsK_any k n W hk1 hk5 hn1 hn
  obtain ⟨W, hWW⟩ : ∃ W, wins (k : Int) (2 ^ k) n = W := ⟨_, rfl⟩
  obtain ⟨G, hGG⟩ : ∃ G, gN (2 ^ k) n = G := ⟨_, rfl⟩
  rw [hGG] at hW hP hG hg1 hg31
  obtain ⟨gd, hgd⟩ : ∃ gd, good (winP k n) = gd := ⟨_, rfl⟩
  have hpl := pwL_len G
  have hps := pwS_len G
  rw [hpl] at hW
  rw [hWW] at hW hP hG hWA
  have hlW := hW.few
  have HPL := Lib.hid hpl
  have EG := Lib.hid hgd
  have ET := Lib.hid ht
  have EP := Lib.hid hP
  have EGR := Lib.hid hG
  have HW := Lib.hid hW
  have HWA := Lib.hid hWA
  obtain ⟨Q, hQ⟩ : ∃ Q, mkR (winP k n) = Q := ⟨_, rfl⟩
  rw [hQ] at ET
  rw [hQ, hgd]
  clear hgd ht hW hP hG hWA hWW hGG hQ hg2 hpl
  go_enter Try.func100, Try.ntmps100
  go_wp2_with fail
  go_at_call 101
  generalize hw1 : World.alloc (World.alloc w _) _ = w1
  obtain ⟨q0, xs, xb⟩ := me_box hw1
  clear hw1
  generalize hw2 : World.alloc w1 _ = w2
  obtain ⟨mk2, b2⟩ := mk_new (B := w1.heap.size) hw2
  rw [xs] at mk2 b2
  clear hw2
  have Q0 := Lib.hid q0
  have XB := Lib.hid xb
  have XS := Lib.hid xs
  have MK := Lib.hid mk2
  have B2 := Lib.hid b2
  have hs2 := b2.size
  clear q0 xs xb mk2 b2
  refine (HWA.out w2).mono ?_
  rintro e w3 ⟨A, c, rfl, ho3, hb3⟩
  have hs3 := hb3.size
  have M3 := Lib.hid (MK.out.below hb3)
  have B3 := Lib.hid (B2.out.trans (hb3.mono (show w.heap.size + 1 + 1 ≤ w2.heap.size by have := XS.out; omega)))
  have O3 := Lib.hid ho3
  clear ho3 hb3
  go_wp2_with fail
  go_at_call 104
  refine (greatestOf_any w3.heap.size A c W w3 (Nat.le_refl _) (by omega) (Rd.of_own O3.out)).mono ?_
  rw [EGR.out]
  rintro e w4 ⟨rfl, hb4⟩
  have hs4 := hb4.size
  have M4 := Lib.hid (M3.out.below hb4)
  have B4 := Lib.hid (B3.out.trans (hb4.mono (show w.heap.size + 1 + 1 ≤ w3.heap.size by have := XS.out; omega)))
  have O4 := Lib.hid (O3.out.below hb4)
  clear hb4
  go_wp2_with fail
  go_at_call 103
  refine (allPowers_any (w.heap.size + 1 + 1) (w.heap.size + 1 + 1) G w4 (Nat.le_refl _) hg1 hg31 M4.out).mono ?_
  rintro e w5 ⟨AP, cp, rfl, hop, hm5, hb5, hk5'⟩
  have M5 := Lib.hid hm5
  have B5 := Lib.hid (B4.out.trans hb5)
  have O5 := Lib.hid (hk5' _ _ _ O4.out)
  have P5 := Lib.hid hop
  have hT := through_any (w.heap.size + 1 + 1) (w.heap.size + 1 + 1) A AP c cp _ _ W (pwL G) (pwS G) w5 (Nat.le_refl _) M5.out (by rw [HPL.out]; exact HW.out) (by omega) (by rw [HPL.out]; omega) O5.out (by rw [HPL.out]; exact P5.out)
  rw [HPL.out, EP.out, ET.out, EG.out] at hT
  have HTT := Lib.hid hT
  clear hop hb5 hm5 hk5' hT hps
  go_wp2_with fail
  go_at_call 102
  refine HTT.out.mono ?_
  rintro e w6 ⟨R1, R2, v1, v2, rfl, ho6, hb6⟩
  have hb16 : Below (w.heap.size + 1 + 1) w1 w6 := B5.out.trans hb6
  have q6 := (hb16.block (w.heap.size + 1) (by omega)).trans Q0.out
  obtain ⟨t0, t1, t2, g0, g1, g2⟩ := cells3 q6
  have B6 := Lib.hid (XB.out.trans (hb16.mono (by omega)))
  have O6 := Lib.hid ho6
  have Q6 := Lib.hid q6
  clear hb16 ho6 hb6 q6
  go_wp2
  refine bodyPost_ret (v := .tuple #[.agg #[.int .i64 Q.n, .slice R1 Q.s.length v1, .slice R2 Q.o.length v2], .bool gd]) (by simp [results, Try.results100, go_sem, t0, t1, t2]) rfl ⟨R1, R2, v1, v2, rfl, ?_, ?_⟩
  · refine owP_of3 (own_base O6.out.1 (by have := XS.out; have := B5.out.size; omega)) (own_base O6.out.2 (by have := XS.out; have := B5.out.size; omega)) Q6.out (by decide) (by decide) rfl rfl _ _ _
  · exact ((B6.out.setCell (by simp) _).setCell (by simp) _).setCell (by simp) _
end Go.Proofs.Ytodjnafalbbmjaa
/- WindowPlan: the wrappers of both sides. -/
namespace Go.Proofs.Ytodjnafalbbmjaa
open Go.RowKit

def isWid (y : Int) : Bool := inB y 1 5
def winR (x y : Int) : Pl := if isNum x && isWid y then mkR (winP y.toNat x.toNat) else zeroP
def winG (x y : Int) : Bool := (isNum x && isWid y) && good (winP y.toNat x.toNat)
theorem winR_false {x y : Int} (h : (isNum x && isWid y) = false) : winR x y = zeroP ∧ winG x y = false := ⟨by unfold winR; rw [if_neg (by rw [h]; decide)], by unfold winG; rw [h]; rfl⟩
theorem winR_true {n k : Nat} (h : isNum (n : Int) = true) (h2 : isWid (k : Int) = true) : winR (n : Int) (k : Int) = mkR (winP k n) ∧ winG (n : Int) (k : Int) = good (winP k n) := ⟨by unfold winR; rw [if_pos (by rw [h, h2]; rfl)]; rfl, by unfold winG; rw [h, h2]; rfl⟩
theorem isWid_rng {y : Int} (h : isWid y = true) : 1 ≤ y ∧ y ≤ 5 := by simpa [isWid, inB] using h
theorem winR_len (x y : Int) : (winR x y).s.length ≤ 1000 ∧ (winR x y).o.length ≤ 1000 := by
  unfold winR
  split
  · rename_i h
    rw [Bool.and_eq_true] at h
    have ⟨r1, r2⟩ := isNum_rng h.1
    have ⟨r3, r4⟩ := isWid_rng h.2
    obtain ⟨l1, l2⟩ := winP_len (k := y.toNat) (n := x.toNat) (by omega) (by omega) (by omega) (by omega)
    exact mkR_len _ (by omega) (by omega)
  · exact ⟨by simp [zeroP], by simp [zeroP]⟩

set_option maxHeartbeats 400000 in
theorem meWide_any (y : Int) (w : World) : Calls Try.prog 53 #[.int .i64 y] w fun e w' => e = .returned (.bool (isWid y)) ∧ w = w' := by
  go_enter Try.func53, Try.ntmps53
  go_wp2_with (go_at_call 40; refine (l1In_any _ _ _ _).mono ?_; rintro e w' ⟨rfl, rfl⟩)
  go_ret
  exact ⟨rfl, rfl⟩
set_option maxHeartbeats 400000 in
theorem isWidth_any (y : Int) (w : World) : Calls Try.prog 55 #[.int .i64 y] w fun e w' => e = .returned (.bool (isWid y)) ∧ w = w' := by
  by_cases h1 : 1 ≤ y <;> by_cases h2 : y ≤ 5
  all_goals
    go_enter Try.func55, Try.ntmps55
    go_wp2
    go_ret
    exact ⟨ret_bool (by simp [isWid, inB, h1, h2]), rfl⟩

set_option maxRecDepth 100000 in
set_option maxHeartbeats 1000000 in
theorem specWindowPlan_any (x y : Int) (w : World) : Calls Try.prog 29 #[.int .i64 x, .int .i64 y] w fun e w' => ∃ R1 R2 v1 v2, e = .returned (.tuple #[.agg #[.int .i64 (winR x y).n, .slice R1 (winR x y).s.length v1, .slice R2 (winR x y).o.length v2], .bool (winG x y)]) ∧ OwP w' w.heap.size R1 R2 v1 v2 (winR x y) ∧ Below w.heap.size w w' := by
  cases hgn : isNum x with
  | false =>
    have HN := Lib.hid hgn
    obtain ⟨E1, E2⟩ := winR_false (y := y) (show (isNum x && isWid y) = false by rw [hgn]; rfl)
    have e1 := Lib.hid E1
    have e2 := Lib.hid E2
    clear E1 E2 hgn
    go_enter Try.func29, Try.ntmps29
    go_wp2_with fail
    go_at_call 39
    generalize hw1 : World.alloc w _ = w1
    obtain ⟨q0, xs, xb⟩ := zero_box hw1
    clear hw1
    refine (chNumber_any x w1).mono ?_
    rw [HN.out]
    rintro e w' ⟨rfl, hww⟩
    subst w'
    obtain ⟨t0, t1, t2, g0, g1, g2⟩ := cells3 q0
    go_wp2
    refine bodyPost_ret (v := (.tuple #[.agg #[.int .i64 0, .slice none 0 0, .slice none 0 0], .bool false])) (by simp [results, Try.results29, go_sem, t0, t1, t2]) rfl ⟨none, none, 0, 0, by rw [e1.out, e2.out]; rfl, by rw [e1.out]; exact OwP.zero _ _, ?_⟩
    exact ((xb.setCell (Nat.le_refl _) _).setCell (Nat.le_refl _) _).setCell (Nat.le_refl _) _
  | true =>
    have HN := Lib.hid hgn
    cases hgk : isWid y with
    | false =>
      have HK := Lib.hid hgk
      obtain ⟨E1, E2⟩ := winR_false (x := x) (y := y) (show (isNum x && isWid y) = false by rw [hgn, hgk]; rfl)
      have e1 := Lib.hid E1
      have e2 := Lib.hid E2
      clear E1 E2 hgn hgk
      go_enter Try.func29, Try.ntmps29
      go_wp2_with fail
      go_at_call 39
      generalize hw1 : World.alloc w _ = w1
      obtain ⟨q0, xs, xb⟩ := zero_box hw1
      clear hw1
      refine (chNumber_any x w1).mono ?_
      rw [HN.out]
      rintro e w' ⟨rfl, hww⟩
      subst w'
      obtain ⟨t0, t1, t2, g0, g1, g2⟩ := cells3 q0
      go_wp2_with (go_at_call 53; refine (meWide_any _ _).mono ?_; rw [HK.out]; rintro e w' ⟨rfl, hww⟩; subst w')
      refine bodyPost_ret (v := (.tuple #[.agg #[.int .i64 0, .slice none 0 0, .slice none 0 0], .bool false])) (by simp [results, Try.results29, go_sem, t0, t1, t2]) rfl ⟨none, none, 0, 0, by rw [e1.out, e2.out]; rfl, by rw [e1.out]; exact OwP.zero _ _, ?_⟩
      exact ((xb.setCell (Nat.le_refl _) _).setCell (Nat.le_refl _) _).setCell (Nat.le_refl _) _
    | true =>
    have HK := Lib.hid hgk
    have ⟨r1, r2⟩ := isNum_rng hgn
    have ⟨r3, r4⟩ := isWid_rng hgk
    obtain ⟨n, rfl⟩ : ∃ n : Nat, x = n := ⟨x.toNat, by omega⟩
    obtain ⟨k, rfl⟩ : ∃ k : Nat, y = k := ⟨y.toNat, by omega⟩
    obtain ⟨E1, E2⟩ := winR_true hgn hgk
    obtain ⟨l1, l2⟩ := winP_len (k := k) (n := n) (by omega) (by omega) (by omega) (by omega)
    have hME := fun W => meWindow_any k n W (by omega) (by omega) (by omega) (by omega)
    obtain ⟨P, hP⟩ : ∃ P, winP k n = P := ⟨_, rfl⟩
    rw [hP] at hME E1 E2 l1 l2
    have L2 := Lib.hid l2
    have HME := Lib.hid hME
    have e1 := Lib.hid E1
    have e2 := Lib.hid E2
    clear hME E1 E2 hP hgn hgk l2
    go_enter Try.func29, Try.ntmps29
    go_wp2_with fail
    go_at_call 39
    generalize hw1 : World.alloc w _ = w1
    obtain ⟨q0, xs, xb⟩ := zero_box hw1
    clear hw1
    have Q0 := Lib.hid q0
    have XB := Lib.hid xb
    have XS := Lib.hid xs
    clear q0 xs xb
    refine (chNumber_any n w1).mono ?_
    rw [HN.out]
    rintro e w' ⟨rfl, hww⟩
    subst w'
    go_wp2_with (go_at_call 53; refine (meWide_any _ _).mono ?_; rw [HK.out]; rintro e w' ⟨rfl, hww⟩; subst w')
    go_at_call 54
    refine (HME.out w1).mono ?_
    rintro e w3 ⟨A4, A5, c4, c5, rfl, ho3, hb3⟩
    have RD := Lib.hid ho3.rd
    have OWP := Lib.hid ho3
    have B3 := Lib.hid hb3
    clear ho3 hb3
    go_wp2_with fail
    go_at_call 45
    refine (plIf_any w3.heap.size A4 A5 c4 c5 P w3 (Nat.le_refl _) (by omega) (by have := L2.out; omega) RD.out).mono ?_
    rintro e w5 ⟨rfl, hb5⟩
    have B5 := Lib.hid (B3.out.trans (hb5.mono B3.out.size))
    have Q5 := Lib.hid ((B5.out.block w.heap.size (by have := XS.out; omega)).trans Q0.out)
    have O5 := Lib.hid (OWP.out.below hb5)
    obtain ⟨R1, R2, v1, v2, hsel, hres, hbel⟩ := selV_mk (w0 := w) (B := w.heap.size) (g := w.heap.size) rfl O5.out (by have := XS.out; omega) ⟨_, Q5.out⟩ (XB.out.trans (B5.out.mono (by have := XS.out; omega))) (Nat.le_refl _)
    rw [hsel]
    rw [← e1.out] at hres hbel ⊢
    rw [← e2.out]
    obtain ⟨t0, t1, t2, g0, g1, g2⟩ := cells3 Q5.out
    have RES := Lib.hid hres
    have BRES := Lib.hid hbel
    clear hb5 hsel hres hbel
    go_wp2
    refine bodyPost_ret (v := .tuple #[.agg #[.int .i64 (winR n k).n, .slice R1 (winR n k).s.length v1, .slice R2 (winR n k).o.length v2], .bool (winG n k)]) (by simp [results, Try.results29, go_sem, t0, t1, t2]) rfl ⟨R1, R2, v1, v2, rfl, RES.out, BRES.out⟩

set_option maxRecDepth 100000 in
set_option maxHeartbeats 1000000 in
theorem planByWindow_any (x y : Int) (hy : isWid y = true) (w : World) : Calls Try.prog 56 #[.iface 52 (.agg #[.int .i64 y]), .int .i64 x] w fun e w' => ∃ R1 R2 v1 v2, e = .returned (.tuple #[.agg #[.int .i64 (winR x y).n, .slice R1 (winR x y).s.length v1, .slice R2 (winR x y).o.length v2], .bool (winG x y)]) ∧ OwP w' w.heap.size R1 R2 v1 v2 (winR x y) ∧ Below w.heap.size w w' := by
  cases hgn : isNum x with
  | false =>
    have HN := Lib.hid hgn
    obtain ⟨E1, E2⟩ := winR_false (y := y) (show (isNum x && isWid y) = false by rw [hgn]; rfl)
    have e1 := Lib.hid E1
    have e2 := Lib.hid E2
    clear E1 E2 hgn
    go_enter Try.func56, Try.ntmps56
    go_wp2_with fail
    go_at_call 42
    generalize hw1 : World.alloc w _ = w1
    obtain ⟨q0, xs, xb⟩ := zero_box hw1
    clear hw1
    refine (isExponent_any x w1).mono ?_
    rw [HN.out]
    rintro e w' ⟨rfl, hww⟩
    subst w'
    obtain ⟨t0, t1, t2, g0, g1, g2⟩ := cells3 q0
    go_wp2
    refine bodyPost_ret (v := (.tuple #[.agg #[.int .i64 0, .slice none 0 0, .slice none 0 0], .bool false])) (by simp [results, Try.results56, go_sem, t0, t1, t2]) rfl ⟨none, none, 0, 0, by rw [e1.out, e2.out]; rfl, by rw [e1.out]; exact OwP.zero _ _, ?_⟩
    exact ((xb.setCell (Nat.le_refl _) _).setCell (Nat.le_refl _) _).setCell (Nat.le_refl _) _
  | true =>
    have HN := Lib.hid hgn
    have ⟨r1, r2⟩ := isNum_rng hgn
    have ⟨r3, r4⟩ := isWid_rng hy
    obtain ⟨n, rfl⟩ : ∃ n : Nat, x = n := ⟨x.toNat, by omega⟩
    obtain ⟨k, rfl⟩ : ∃ k : Nat, y = k := ⟨y.toNat, by omega⟩
    obtain ⟨E1, E2⟩ := winR_true hgn hy
    have hME := fun W => winFor_any k n W (by omega) (by omega) (by omega) (by omega)
    rw [← E1, ← E2] at hME
    obtain ⟨Q, hQ⟩ : ∃ Q, winR (n : Int) (k : Int) = Q := ⟨_, rfl⟩
    obtain ⟨gd, hgd⟩ : ∃ Q, winG (n : Int) (k : Int) = Q := ⟨_, rfl⟩
    rw [hQ, hgd] at hME
    rw [hQ, hgd]
    have HME := Lib.hid hME
    clear hME E1 E2 hQ hgd hgn hy
    go_enter Try.func56, Try.ntmps56
    go_wp2_with fail
    go_at_call 42
    generalize hw1 : World.alloc w _ = w1
    obtain ⟨q0, xs, xb⟩ := zero_box hw1
    clear hw1
    have Q0 := Lib.hid q0
    have XB := Lib.hid xb
    have XS := Lib.hid xs
    clear q0 xs xb
    refine (isExponent_any n w1).mono ?_
    rw [HN.out]
    rintro e w' ⟨rfl, hww⟩
    subst w'
    go_wp2_with fail
    go_at_call 100
    refine (HME.out w1).mono ?_
    rintro e w5 ⟨R1, R2, v1, v2, rfl, ho5, hb5⟩
    have q5 := (hb5.block w.heap.size (by have := XS.out; omega)).trans Q0.out
    obtain ⟨t0, t1, t2, g0, g1, g2⟩ := cells3 q5
    have B5 := Lib.hid (XB.out.trans (hb5.mono (by have := XS.out; omega)))
    have O5 := Lib.hid ho5
    have Q5 := Lib.hid q5
    clear hb5 ho5 q5
    go_wp2
    refine bodyPost_ret (v := .tuple #[.agg #[.int .i64 Q.n, .slice R1 Q.s.length v1, .slice R2 Q.o.length v2], .bool gd]) (by simp [results, Try.results56, go_sem, t0, t1, t2]) rfl ⟨R1, R2, v1, v2, rfl, ?_, ?_⟩
    · refine owP_of3 (own_base O5.out.1 (by have := XS.out; omega)) (own_base O5.out.2 (by have := XS.out; omega)) Q5.out (by decide) (by decide) rfl rfl _ _ _
    · exact ((B5.out.setCell (Nat.le_refl _) _).setCell (Nat.le_refl _) _).setCell (Nat.le_refl _) _

set_option maxRecDepth 100000 in
set_option maxHeartbeats 1000000 in
theorem implWindowPlan_any (x y : Int) (w : World) : Calls Try.prog 30 #[.int .i64 x, .int .i64 y] w fun e w' => ∃ R1 R2 v1 v2, e = .returned (.tuple #[.agg #[.int .i64 (winR x y).n, .slice R1 (winR x y).s.length v1, .slice R2 (winR x y).o.length v2], .bool (winG x y)]) ∧ OwP w' w.heap.size R1 R2 v1 v2 (winR x y) ∧ Below w.heap.size w w' := by
  cases hgk : isWid y with
  | false =>
    have HK := Lib.hid hgk
    obtain ⟨E1, E2⟩ := winR_false (x := x) (y := y) (show (isNum x && isWid y) = false by rw [hgk, Bool.and_false])
    have e1 := Lib.hid E1
    have e2 := Lib.hid E2
    clear E1 E2 hgk
    go_enter Try.func30, Try.ntmps30
    go_wp2_with fail
    go_at_call 55
    generalize hw1 : World.alloc w _ = w1
    obtain ⟨q0, xs, xb⟩ := zero_box hw1
    clear hw1
    refine (isWidth_any y w1).mono ?_
    rw [HK.out]
    rintro e w' ⟨rfl, hww⟩
    subst w'
    obtain ⟨t0, t1, t2, g0, g1, g2⟩ := cells3 q0
    go_wp2
    refine bodyPost_ret (v := (.tuple #[.agg #[.int .i64 0, .slice none 0 0, .slice none 0 0], .bool false])) (by simp [results, Try.results30, go_sem, t0, t1, t2]) rfl ⟨none, none, 0, 0, by rw [e1.out, e2.out]; rfl, by rw [e1.out]; exact OwP.zero _ _, ?_⟩
    exact ((xb.setCell (Nat.le_refl _) _).setCell (Nat.le_refl _) _).setCell (Nat.le_refl _) _
  | true =>
    have HK := Lib.hid hgk
    have hME := fun W => planByWindow_any x y hgk W
    obtain ⟨Q, hQ⟩ : ∃ Q, winR x y = Q := ⟨_, rfl⟩
    obtain ⟨gd, hgd⟩ : ∃ Q, winG x y = Q := ⟨_, rfl⟩
    rw [hQ, hgd] at hME
    rw [hQ, hgd]
    have HME := Lib.hid hME
    clear hME hQ hgd hgk
    go_enter Try.func30, Try.ntmps30
    go_wp2_with fail
    go_at_call 55
    generalize hw1 : World.alloc w _ = w1
    obtain ⟨q0, xs, xb⟩ := zero_box hw1
    clear hw1
    have Q0 := Lib.hid q0
    have XB := Lib.hid xb
    have XS := Lib.hid xs
    clear q0 xs xb
    refine (isWidth_any y w1).mono ?_
    rw [HK.out]
    rintro e w' ⟨rfl, hww⟩
    subst w'
    go_wp2_with fail
    go_at_call 56
    refine (HME.out w1).mono ?_
    rintro e w5 ⟨R1, R2, v1, v2, rfl, ho5, hb5⟩
    have q5 := (hb5.block w.heap.size (by have := XS.out; omega)).trans Q0.out
    obtain ⟨t0, t1, t2, g0, g1, g2⟩ := cells3 q5
    have B5 := Lib.hid (XB.out.trans (hb5.mono (by have := XS.out; omega)))
    have O5 := Lib.hid ho5
    have Q5 := Lib.hid q5
    clear hb5 ho5 q5
    go_wp2
    refine bodyPost_ret (v := .tuple #[.agg #[.int .i64 Q.n, .slice R1 Q.s.length v1, .slice R2 Q.o.length v2], .bool gd]) (by simp [results, Try.results30, go_sem, t0, t1, t2]) rfl ⟨R1, R2, v1, v2, rfl, ?_, ?_⟩
    · refine owP_of3 (own_base O5.out.1 (by have := XS.out; omega)) (own_base O5.out.2 (by have := XS.out; omega)) Q5.out (by decide) (by decide) rfl rfl _ _ _
    · exact ((B5.out.setCell (Nat.le_refl _) _).setCell (Nat.le_refl _) _).setCell (Nat.le_refl _) _
end Go.Proofs.Ytodjnafalbbmjaa
