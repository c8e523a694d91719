/- SamePowers, of the model. -/
import Derived.Test.YtppfpdobdoaoiaaPt
namespace Go.Proofs.Ytppfpdobdoaoiaa
open Go.RowKit

def spV (p q : Pl) : Bool := (good p && good q) && (decide (p.n = q.n) && sameB p.o.length q.o.length (pw p p.n.toNat) (pw q q.n.toNat))
theorem boxes2c {w w2 : World} {a b c a' b' c' : Value} {t t' : TypeId} (h : (w.alloc (.cells #[a, b, c] t)).alloc (.cells #[a', b', c'] t') = w2) :
    (w2.cell? ⟨w.heap.size, 0, none⟩ = some a ∧ w2.cell? ⟨w.heap.size, 1, none⟩ = some b ∧ w2.cell? ⟨w.heap.size, 2, none⟩ = some c) ∧ (w2.cell? ⟨w.heap.size + 1, 0, none⟩ = some a' ∧ w2.cell? ⟨w.heap.size + 1, 1, none⟩ = some b' ∧ w2.cell? ⟨w.heap.size + 1, 2, none⟩ = some c') ∧ w2.heap.size = w.heap.size + 2 ∧ Below w.heap.size w w2 := by
  subst h
  refine ⟨⟨?_, ?_, ?_⟩, ⟨?_, ?_, ?_⟩, by simp, ((Below.refl _ _).alloc (Nat.le_refl _) _).alloc (by simp) _⟩
  all_goals first
    | (rw [World.cell?_alloc_lt _ _ _ (by simp), World.cell?_alloc_at _ _ _ _ rfl]; rfl)
    | (rw [World.cell?_alloc_at _ _ _ _ (by simp)]; rfl)

set_option maxRecDepth 100000 in
set_option maxHeartbeats 4000000 in
theorem specSame_any (B : Nat) (A1 A2 A3 A4 : Option Addr) (c1 c2 c3 c4 : Nat) (p q : Pl) (w : World) (hB : B ≤ w.heap.size) (hls : p.s.length ≤ 2000000) (hlo : p.o.length ≤ 2000000) (hls' : q.s.length ≤ 2000000) (hlo' : q.o.length ≤ 2000000) (hr : RdP w B A1 A2 p) (hr' : RdP w B A3 A4 q) :
    Calls Try.prog 36 #[.agg #[.int .i64 p.n, .slice A1 p.s.length c1, .slice A2 p.o.length c2], .agg #[.int .i64 q.n, .slice A3 q.s.length c3, .slice A4 q.o.length c4]] w fun e w' => e = .returned (.tuple #[.bool (spV p q), .bool (good p && good q)]) ∧ Below w.heap.size w w' := by
  have H := Lib.hid hr
  have H' := Lib.hid hr'
  clear hr hr'
  obtain ⟨gp, hgp⟩ : ∃ x, good p = x := ⟨_, rfl⟩
  obtain ⟨gq, hgq⟩ : ∃ x, good q = x := ⟨_, rfl⟩
  have HGP := Lib.hid hgp
  have HGQ := Lib.hid hgq
  go_enter Try.func36, Try.ntmps36
  go_wp2_with fail
  go_at_call 59
  generalize hw1 : World.alloc (World.alloc w _) _ = w1
  obtain ⟨⟨x0, x1, x2⟩, ⟨x3, x4, x5⟩, xs, xb⟩ := boxes2c hw1
  clear hw1
  have hC := plGood_any w.heap.size A1 A2 c1 c2 p w1 (by omega) hls hlo ((H.out.below' xb hB).more hB)
  rw [hgp] at hC
  refine hC.mono ?_
  rintro e w2 ⟨rfl, hb2⟩
  have y0 := (hb2.cell (p := ⟨w.heap.size, 0, none⟩) (by simp only []; omega)).trans x0
  have y1 := (hb2.cell (p := ⟨w.heap.size, 1, none⟩) (by simp only []; omega)).trans x1
  have y2 := (hb2.cell (p := ⟨w.heap.size, 2, none⟩) (by simp only []; omega)).trans x2
  have y3 := (hb2.cell (p := ⟨w.heap.size + 1, 0, none⟩) (by simp only []; omega)).trans x3
  have y4 := (hb2.cell (p := ⟨w.heap.size + 1, 1, none⟩) (by simp only []; omega)).trans x4
  have y5 := (hb2.cell (p := ⟨w.heap.size + 1, 2, none⟩) (by simp only []; omega)).trans x5
  have HB2 := Lib.hid (xb.trans (hb2.mono (show w.heap.size ≤ w1.heap.size by omega)))
  have hs2 : w.heap.size + 2 ≤ w2.heap.size := by have := hb2.size; omega
  have hC2 := fun W hBW hrW => plGood_any w.heap.size A3 A4 c3 c4 q W hBW hls' hlo' hrW
  rw [hgq] at hC2
  have HC2 := Lib.hid hC2
  clear hC hgp hgq x0 x1 x2 x3 x4 x5 xs xb hb2 hC2
  cases gp with
  | false =>
    have ea : spV p q = false := by simp [spV, HGP.out]
    have EA := Lib.hid ea
    clear ea
    go_wp2
    go_ret2
    exact ⟨by rw [EA.out, HGP.out]; rfl, HB2.out⟩
  | true =>
    go_wp2_with fail
    go_at_call 59
    refine (HC2.out w2 (by omega) ((H'.out.below' HB2.out hB).more hB)).mono ?_
    rintro e w3 ⟨rfl, hb3⟩
    have z0 := (hb3.cell (p := ⟨w.heap.size, 0, none⟩) (by simp only []; omega)).trans y0
    have z1 := (hb3.cell (p := ⟨w.heap.size, 1, none⟩) (by simp only []; omega)).trans y1
    have z2 := (hb3.cell (p := ⟨w.heap.size, 2, none⟩) (by simp only []; omega)).trans y2
    have z3 := (hb3.cell (p := ⟨w.heap.size + 1, 0, none⟩) (by simp only []; omega)).trans y3
    have z4 := (hb3.cell (p := ⟨w.heap.size + 1, 1, none⟩) (by simp only []; omega)).trans y4
    have z5 := (hb3.cell (p := ⟨w.heap.size + 1, 2, none⟩) (by simp only []; omega)).trans y5
    have HB3 := Lib.hid (HB2.out.trans (hb3.mono (by omega)))
    have hs3 : w.heap.size + 2 ≤ w3.heap.size := by have := hb3.size; omega
    clear y0 y1 y2 y3 y4 y5 hb3
    cases gq with
    | false =>
      have ea : spV p q = false := by simp [spV, HGQ.out]
      have EA := Lib.hid ea
      clear ea z0 z1 z2 z3 z4 z5
      go_wp2
      go_ret2
      exact ⟨by rw [EA.out, HGP.out, HGQ.out]; rfl, HB3.out⟩
    | true =>
      have FS := Lib.hid (show ∀ x, Below w3.heap.size w3 x → (x.cell? ⟨w.heap.size, 0, none⟩ = some (.int .i64 p.n) ∧ x.cell? ⟨w.heap.size, 1, none⟩ = some (.slice A1 p.s.length c1) ∧ x.cell? ⟨w.heap.size, 2, none⟩ = some (.slice A2 p.o.length c2)) ∧ (x.cell? ⟨w.heap.size + 1, 0, none⟩ = some (.int .i64 q.n) ∧ x.cell? ⟨w.heap.size + 1, 1, none⟩ = some (.slice A3 q.s.length c3) ∧ x.cell? ⟨w.heap.size + 1, 2, none⟩ = some (.slice A4 q.o.length c4)) from fun x hx =>
        ⟨⟨(hx.cell (p := ⟨w.heap.size, 0, none⟩) (by simp only []; omega)).trans z0, (hx.cell (p := ⟨w.heap.size, 1, none⟩) (by simp only []; omega)).trans z1, (hx.cell (p := ⟨w.heap.size, 2, none⟩) (by simp only []; omega)).trans z2⟩,
          ⟨(hx.cell (p := ⟨w.heap.size + 1, 0, none⟩) (by simp only []; omega)).trans z3, (hx.cell (p := ⟨w.heap.size + 1, 1, none⟩) (by simp only []; omega)).trans z4, (hx.cell (p := ⟨w.heap.size + 1, 2, none⟩) (by simp only []; omega)).trans z5⟩⟩)
      have S0 := Lib.hid (show Below w3.heap.size w3 w3.drew from (Below.refl _ _).drew)
      clear z0 z1 z2 z3 z4 z5
      by_cases hpq : p.n = q.n
      · obtain ⟨N, hN, n1, n6, hs40, ho6, hok, hout, _⟩ := good_facts HGP.out
        obtain ⟨N', hN', _, _, hs40', ho6', hok', hout', _⟩ := good_facts HGQ.out
        obtain rfl : N' = N := by omega
        have h1 := fun W hBW hrW => plPowers_any w.heap.size N' A1 A2 c1 c2 p W hN n1 n6 hs40 ho6 hBW hok hout hrW
        have h2 := fun W hBW hrW => plPowers_any w.heap.size N' A3 A4 c3 c4 q W hN' n1 n6 hs40' ho6' hBW hok' hout' hrW
        have ea : spV p q = sameB p.o.length q.o.length (pw p N') (pw q N') := by
          have e1 : p.n.toNat = N' := by omega
          have e2 : q.n.toNat = N' := by omega
          unfold spV
          rw [HGP.out, HGQ.out, e1, e2, decide_eq_true hpq]
          rfl
        have hpe : (p.n == q.n) = true := by simpa using hpq
        have HP1 := Lib.hid h1
        have HP2 := Lib.hid h2
        have EA := Lib.hid ea
        clear h1 h2 ea hok hout hok' hout' hN hN' hpq
        go_wp2
        refine wp_region_T (fun x : World => Below w3.heap.size w3 x) [0, 1, 2, 3, 4, 5, 6, 8, 11, 12, 13] [1, 3, 6, 8] (.lp 0 (.lp 2 (.ls 1 (.ls 3 (.lp 4 (.lp 5 (.ls 6 (.ls 8 (.hv 7 (.hv 9 (.hv 10 (.lp 11 (.lp 12 (.lp 13 (.done))))))))))))))) (by kernel_rfl) (by kernel_rfl) ?_
        (repeat (refine T_lp rfl (fun K hK => ?_); go_simp; refine hK _ ?_; clear hK K))
        refine T_ls1 (v := .int .i64 p.n) rfl rfl S0.out (fun x hx => (by obtain ⟨⟨h0, h1, h2⟩, ⟨h3, h4, h5⟩⟩ := FS.out x hx; go_simp)) (fun K hK => ?_)
        (go_simp; refine hK _ ?_; clear hK K)
        refine T_ls1 (v := .int .i64 q.n) rfl rfl S0.out (fun x hx => (by obtain ⟨⟨h0, h1, h2⟩, ⟨h3, h4, h5⟩⟩ := FS.out x hx; go_simp)) (fun K hK => ?_)
        (go_simp; refine hK _ ?_; clear hK K)
        (repeat (refine T_lp rfl (fun K hK => ?_); go_simp; refine hK _ ?_; clear hK K))
        refine T_ls rfl S0.out (fun K hK => ?_)
        go_simp
        refine ⟨.agg #[.int .i64 p.n, .slice A1 p.s.length c1, .slice A2 p.o.length c2], fun x hx => (by obtain ⟨⟨h0, h1, h2⟩, ⟨h3, h4, h5⟩⟩ := FS.out x hx; go_simp), ?_⟩
        refine hK _ ?_
        clear hK K
        refine T_ls rfl S0.out (fun K hK => ?_)
        go_simp
        refine ⟨.agg #[.int .i64 q.n, .slice A3 q.s.length c3, .slice A4 q.o.length c4], fun x hx => (by obtain ⟨⟨h0, h1, h2⟩, ⟨h3, h4, h5⟩⟩ := FS.out x hx; go_simp), ?_⟩
        refine hK _ ?_
        clear hK K
        refine T_hvS rfl (fun K hK => ?_)
        go_simp
        go_at_call 76
        refine (HP1.out w3.drew (by simp; omega) (((H.out.below' HB3.out hB).more hB).drew)).mono ?_
        rintro e w4 ⟨Ap, cp, fp, rfl, hown4, hb4⟩
        have hb34 : Below w3.heap.size w3 w4 := (Below.refl _ _).drew.trans (hb4.mono (by simp))
        have OW4 := Lib.hid hown4
        have HB34 := Lib.hid hb34
        have hs4 : w3.heap.size ≤ w4.heap.size := hb34.size
        clear hown4 hb4
        go_simp
        refine hK _ _ hb34 ?_
        clear hK K hb34
        refine T_hvS rfl (fun K hK => ?_)
        go_simp
        go_at_call 76
        have hbw4 : Below w.heap.size w w4 := HB3.out.trans (HB34.out.mono (by omega))
        refine (HP2.out w4 (by omega) ((H'.out.below' hbw4 hB).more hB)).mono ?_
        rintro e w5 ⟨Aq, cq, fq, rfl, hown5, hb5⟩
        have hb35 : Below w3.heap.size w3 w5 := HB34.out.trans (hb5.mono hs4)
        have OW5 := Lib.hid hown5
        have OW45 := Lib.hid (OW4.out.below hb5)
        have HB35 := Lib.hid hb35
        clear hown5 hb5 hbw4
        go_simp
        refine hK _ _ hb35 ?_
        clear hK K hb35
        refine T_hvS rfl (fun K hK => ?_)
        go_simp
        go_at_call 77
        refine (plSame_any _ _ Ap Aq cp cq N' p.o.length q.o.length fp fq (pw p N') (pw q N') w5 (by omega) (by omega) OW45.out OW5.out).mono ?_
        rintro e w6 ⟨rfl, ⟨nd, rfl⟩⟩
        go_simp
        refine hK _ _ (bDrewN HB35.out _) ?_
        clear hK K
        (repeat (refine T_lp rfl (fun K hK => ?_); go_simp; refine hK _ ?_; clear hK K))
        refine T_done ?_
        go_wp2
        go_ret2
        exact ⟨by rw [EA.out, HGP.out, HGQ.out]; rfl, bDrewN (HB3.out.trans (HB35.out.mono (by omega))) _⟩
      · have hpe : (p.n == q.n) = false := by simpa using hpq
        have ea : spV p q = false := by
          unfold spV
          rw [decide_eq_false hpq]
          simp
        have EA := Lib.hid ea
        clear ea hpq
        go_wp2
        refine wp_region_T (fun x : World => Below w3.heap.size w3 x) [0, 1, 2, 3, 4, 5, 6, 8, 11, 12, 13] [1, 3, 6, 8] (.lp 0 (.lp 2 (.ls 1 (.ls 3 (.lp 4 (.lp 5 (.ls 6 (.ls 8 (.hv 7 (.hv 9 (.hv 10 (.lp 11 (.lp 12 (.lp 13 (.done))))))))))))))) (by kernel_rfl) (by kernel_rfl) ?_
        (repeat (refine T_lp rfl (fun K hK => ?_); go_simp; refine hK _ ?_; clear hK K))
        refine T_ls1 (v := .int .i64 p.n) rfl rfl S0.out (fun x hx => (by obtain ⟨⟨h0, h1, h2⟩, ⟨h3, h4, h5⟩⟩ := FS.out x hx; go_simp)) (fun K hK => ?_)
        (go_simp; refine hK _ ?_; clear hK K)
        refine T_ls1 (v := .int .i64 q.n) rfl rfl S0.out (fun x hx => (by obtain ⟨⟨h0, h1, h2⟩, ⟨h3, h4, h5⟩⟩ := FS.out x hx; go_simp)) (fun K hK => ?_)
        (go_simp; refine hK _ ?_; clear hK K)
        (repeat (refine T_lp rfl (fun K hK => ?_); go_simp; refine hK _ ?_; clear hK K))
        refine T_ls rfl S0.out (fun K hK => ?_)
        (go_simp; refine hK _ ?_; clear hK K)
        refine T_ls rfl S0.out (fun K hK => ?_)
        (go_simp; refine hK _ ?_; clear hK K)
        refine T_hvS rfl (fun K hK => ?_)
        go_simp
        refine hK _ _ S0.out ?_
        clear hK K
        refine T_hvS rfl (fun K hK => ?_)
        go_simp
        refine hK _ _ S0.out ?_
        clear hK K
        refine T_hvS rfl (fun K hK => ?_)
        go_simp
        refine hK _ _ S0.out ?_
        clear hK K
        (repeat (refine T_lp rfl (fun K hK => ?_); go_simp; refine hK _ ?_; clear hK K))
        refine T_done ?_
        go_wp2
        go_ret2
        exact ⟨by rw [EA.out, HGP.out, HGQ.out]; rfl, HB3.out.drew⟩
end Go.Proofs.Ytppfpdobdoaoiaa
