/- SamePowers, of the program. -/
import Derived.Test.YtppfpdobdoaoiaaPu
namespace Go.Proofs.Ytppfpdobdoaoiaa
open Go.RowKit

set_option maxRecDepth 100000 in
set_option maxHeartbeats 4000000 in
theorem implSame_any (B : Nat) (A1 A2 A3 A4 : Option Addr) (c1 c2 c3 c4 : Nat) (p q : Pl) (w : World) (hB : B ≤ w.heap.size) (hls : p.s.length ≤ 2000000) (hlo : p.o.length ≤ 2000000) (hls' : q.s.length ≤ 2000000) (hlo' : q.o.length ≤ 2000000) (hr : RdP w B A1 A2 p) (hr' : RdP w B A3 A4 q) :
    Calls Try.prog 37 #[.agg #[.int .i64 p.n, .slice A1 p.s.length c1, .slice A2 p.o.length c2], .agg #[.int .i64 q.n, .slice A3 q.s.length c3, .slice A4 q.o.length c4]] w fun e w' => e = .returned (.tuple #[.bool (spV p q), .bool (good p && good q)]) ∧ Below w.heap.size w w' := by
  have H := Lib.hid hr
  have H' := Lib.hid hr'
  clear hr hr'
  go_enter Try.func37, Try.ntmps37
  go_wp2_with fail
  go_at_call 64
  generalize hw1 : World.alloc (World.alloc w _) _ = w1
  obtain ⟨⟨x0, x1, x2⟩, ⟨x3, x4, x5⟩, xs, xb⟩ := boxes2c hw1
  clear hw1
  refine (withValues_any B A1 A2 c1 c2 p w1 (by omega) hls hlo (H.out.below' xb hB)).mono ?_
  rintro e w2 ⟨hb2, hpost⟩
  have y0 := (hb2.cell (p := ⟨w.heap.size, 0, none⟩) (by simp only []; omega)).trans x0
  have y3 := (hb2.cell (p := ⟨w.heap.size + 1, 0, none⟩) (by simp only []; omega)).trans x3
  have y4 := (hb2.cell (p := ⟨w.heap.size + 1, 1, none⟩) (by simp only []; omega)).trans x4
  have y5 := (hb2.cell (p := ⟨w.heap.size + 1, 2, none⟩) (by simp only []; omega)).trans x5
  have yk3 := cell_kept y3
  have yk4 := cell_kept y4
  have yk5 := cell_kept y5
  have HB2 := Lib.hid (xb.trans (hb2.mono (show w.heap.size ≤ w1.heap.size by omega)))
  have hs2 : w.heap.size + 2 ≤ w2.heap.size := by have := hb2.size; omega
  have hs12 : w1.heap.size ≤ w2.heap.size := hb2.size
  clear x0 x1 x2 x3 x4 x5 xs xb hb2
  rw [valsI_eq] at hpost
  by_cases hg : good p = true
  · rw [if_pos hg] at hpost
    simp only at hpost
    obtain ⟨A, c, rfl, hown⟩ := hpost
    have HOWN := Lib.hid hown
    have HG := Lib.hid hg
    clear hown hg
    go_wp2_with fail
    go_at_call 64
    generalize hw3 : World.alloc w2 _ = w3
    obtain ⟨v0, v1, v2, v3, vs, vb⟩ := box4b hw3
    clear hw3 yk3 yk4 yk5
    have hbw3 : Below w.heap.size w w3 := HB2.out.trans (vb.mono (by omega))
    refine (withValues_any B A3 A4 c3 c4 q w3 (by omega) hls' hlo' (H'.out.below' hbw3 hB)).mono ?_
    rintro e w4 ⟨hb4, hpost⟩
    have hb24 : Below w2.heap.size w2 w4 := vb.trans (hb4.mono (by omega))
    have z0 := (hb24.cell (p := ⟨w.heap.size, 0, none⟩) (by simp only []; omega)).trans y0
    have z3 := (hb24.cell (p := ⟨w.heap.size + 1, 0, none⟩) (by simp only []; omega)).trans y3
    have u0 := (hb4.cell (p := ⟨w2.heap.size, 0, none⟩) (by simp only []; omega)).trans v0
    have u1 := (hb4.cell (p := ⟨w2.heap.size, 1, none⟩) (by simp only []; omega)).trans v1
    have u2 := (hb4.cell (p := ⟨w2.heap.size, 2, none⟩) (by simp only []; omega)).trans v2
    have u3 := (hb4.cell (p := ⟨w2.heap.size, 3, none⟩) (by simp only []; omega)).trans v3
    have hs4 : w3.heap.size ≤ w4.heap.size := hb4.size
    have HB4 := Lib.hid (hbw3.trans (hb4.mono (by have := hbw3.size; omega)))
    have HB24 := Lib.hid hb24
    clear y0 y3 y4 y5 v0 v1 v2 v3 vb hb4 hb24
    rw [valsI_eq] at hpost
    by_cases hgq : good q = true
    · rw [if_pos hgq] at hpost
      simp only at hpost
      obtain ⟨A', c', rfl, hown'⟩ := hpost
      obtain ⟨N, hN, n1, n6, hs40, ho6, hok, hout, _⟩ := good_facts HG.out
      obtain ⟨N', hN', n1', n6', hs40', ho6', hok', hout', _⟩ := good_facts hgq
      have e1 : p.n.toNat = N := by omega
      have e2 : q.n.toNat = N' := by omega
      have hown := HOWN.out
      simp only [e1, List.length_map] at hown u3
      simp only [e2, List.length_map] at hown' ⊢
      have h1 := fun W B hBW hrW hre => rows_any B N A1 A2 A c1 c2 c p W n1 n6 ho6 hBW hok hout hrW hre
      have h2 := fun W B hBW hrW hre => rows_any B N' A3 A4 A' c3 c4 c' q W n1' n6' ho6' hBW hok' hout' hrW hre
      have hel := exps_length N p.s
      have hel' := exps_length N' q.s
      obtain ⟨L, hL⟩ : ∃ L, (exps N p.s).length = L := ⟨_, rfl⟩
      obtain ⟨L', hL'⟩ : ∃ L, (exps N' q.s).length = L := ⟨_, rfl⟩
      rw [hL] at hown u3
      rw [hL'] at hown' ⊢
      simp only [hL] at h1
      simp only [hL'] at h2
      have HR1 := Lib.hid (Rd.of_own hown)
      have HR2 := Lib.hid (Rd.of_own hown')
      have H1 := Lib.hid h1
      have H2 := Lib.hid h2
      have HGQ := Lib.hid hgq
      have hspV : spV p q = (decide (p.n = q.n) && sameB p.o.length q.o.length (pw p N) (pw q N')) := by
        unfold spV
        rw [HG.out, hgq, e1, e2]
        rfl
      have HSP := Lib.hid hspV
      have HNN := Lib.hid hN
      have HNN' := Lib.hid hN'
      clear h1 h2 hok hout hok' hout' hown hown' hel hel' hL hL' hspV hgq e1 e2 hN hN'
      go_wp2
      generalize hw5 : World.alloc w4 _ = w5
      obtain ⟨t0, t1, t2, t3, ts, tb⟩ := box4b hw5
      clear hw5
      have HB5 := Lib.hid (HB4.out.trans (tb.mono (by have := HB4.out.size; omega)))
      have HB25 := Lib.hid (HB24.out.trans (tb.mono (by omega)))
      have TB := Lib.hid tb
      have FS := Lib.hid (show ∀ x, Below w5.heap.size w5 x → (x.cell? ⟨w.heap.size, 0, none⟩ = some (.int .i64 p.n) ∧ x.cell? ⟨w.heap.size + 1, 0, none⟩ = some (.int .i64 q.n)) ∧ (x.cell? ⟨w2.heap.size, 0, none⟩ = some (.int .i64 p.n) ∧ x.cell? ⟨w2.heap.size, 1, none⟩ = some (.slice A1 p.s.length c1) ∧ x.cell? ⟨w2.heap.size, 2, none⟩ = some (.slice A2 p.o.length c2) ∧ x.cell? ⟨w2.heap.size, 3, none⟩ = some (.slice A L c)) ∧
          (x.cell? ⟨w4.heap.size, 0, none⟩ = some (.int .i64 q.n) ∧ x.cell? ⟨w4.heap.size, 1, none⟩ = some (.slice A3 q.s.length c3) ∧ x.cell? ⟨w4.heap.size, 2, none⟩ = some (.slice A4 q.o.length c4) ∧ x.cell? ⟨w4.heap.size, 3, none⟩ = some (.slice A' L' c')) from fun x hx => by
        have hx4 : Below w4.heap.size w4 x := tb.trans (hx.mono (by omega))
        exact ⟨⟨(hx4.cell (p := ⟨w.heap.size, 0, none⟩) (by simp only []; omega)).trans z0, (hx4.cell (p := ⟨w.heap.size + 1, 0, none⟩) (by simp only []; omega)).trans z3⟩,
          ⟨(hx4.cell (p := ⟨w2.heap.size, 0, none⟩) (by simp only []; omega)).trans u0, (hx4.cell (p := ⟨w2.heap.size, 1, none⟩) (by simp only []; omega)).trans u1, (hx4.cell (p := ⟨w2.heap.size, 2, none⟩) (by simp only []; omega)).trans u2, (hx4.cell (p := ⟨w2.heap.size, 3, none⟩) (by simp only []; omega)).trans u3⟩,
          ⟨(hx.cell (p := ⟨w4.heap.size, 0, none⟩) (by simp only []; omega)).trans t0, (hx.cell (p := ⟨w4.heap.size, 1, none⟩) (by simp only []; omega)).trans t1, (hx.cell (p := ⟨w4.heap.size, 2, none⟩) (by simp only []; omega)).trans t2, (hx.cell (p := ⟨w4.heap.size, 3, none⟩) (by simp only []; omega)).trans t3⟩⟩)
      have S0 := Lib.hid (show Below w5.heap.size w5 w5.drew from (Below.refl _ _).drew)
      have TS := Lib.hid ts
      clear z0 z3 u0 u1 u2 u3 t0 t1 t2 t3 tb hbw3 ts
      by_cases hpq : p.n = q.n
      · have hpe : (p.n == q.n) = true := by simpa using hpq
        obtain rfl : N = N' := by have := HNN.out; have := HNN'.out; omega
        have EA := Lib.hid (HSP.out.trans (by rw [decide_eq_true hpq, Bool.true_and]))
        have h1 := H1.out
        have h2 := H2.out
        rw [← HNN.out] at h1
        rw [← HNN'.out] at h2
        have H1b := Lib.hid h1
        have H2b := Lib.hid h2
        clear hpq h1 h2
        refine wp_region_T (fun x : World => Below w5.heap.size w5 x) [0, 1, 2, 3, 4, 5, 6, 8, 11, 12, 13] [1, 3, 6, 8] (.lp 0 (.lp 2 (.ls 1 (.ls 3 (.lp 4 (.lp 5 (.ls 6 (.ls 8 (.hv 7 (.hv 9 (.hv 10 (.lp 11 (.lp 12 (.lp 13 (.done))))))))))))))) (by kernel_rfl) (by kernel_rfl) ?_
        (repeat (refine T_lp rfl (fun K hK => ?_); go_simp; refine hK _ ?_; clear hK K))
        refine T_ls1 (v := .int .i64 p.n) rfl rfl S0.out (fun x hx => (by obtain ⟨⟨h0, h1⟩, _⟩ := FS.out x hx; go_simp)) (fun K hK => ?_)
        (go_simp; refine hK _ ?_; clear hK K)
        refine T_ls1 (v := .int .i64 q.n) rfl rfl S0.out (fun x hx => (by obtain ⟨⟨h0, h1⟩, _⟩ := FS.out x hx; go_simp)) (fun K hK => ?_)
        (go_simp; refine hK _ ?_; clear hK K)
        (repeat (refine T_lp rfl (fun K hK => ?_); go_simp; refine hK _ ?_; clear hK K))
        refine T_ls rfl S0.out (fun K hK => ?_)
        go_simp
        refine ⟨.agg #[.int .i64 p.n, .slice A1 p.s.length c1, .slice A2 p.o.length c2, .slice A L c], fun x hx => (by obtain ⟨_, ⟨h0, h1, h2, h3⟩, _⟩ := FS.out x hx; go_simp), ?_⟩
        refine hK _ ?_
        clear hK K
        refine T_ls rfl S0.out (fun K hK => ?_)
        go_simp
        refine ⟨.agg #[.int .i64 q.n, .slice A3 q.s.length c3, .slice A4 q.o.length c4, .slice A' L' c'], fun x hx => (by obtain ⟨_, _, ⟨h0, h1, h2, h3⟩⟩ := FS.out x hx; go_simp), ?_⟩
        refine hK _ ?_
        clear hK K
        refine T_hvS rfl (fun K hK => ?_)
        go_simp
        go_at_call 65
        refine (H1b.out w5.drew w5.heap.size (by simp) (((H.out.below' HB5.out hB).more (by have := HB5.out.size; omega)).drew) (((HR1.out.below HB25.out).more (by have := TS.out; omega)).drew)).mono ?_
        rintro e w6 ⟨Ap, cp, fp, rfl, hown6, _, hb6⟩
        have hb56 : Below w5.heap.size w5 w6 := (Below.refl _ _).drew.trans (hb6.mono (by simp))
        have OW6 := Lib.hid hown6
        have HB56 := Lib.hid hb56
        have hs6 : w5.heap.size ≤ w6.heap.size := hb56.size
        clear hown6 hb6
        go_simp
        refine hK _ _ hb56 ?_
        clear hK K hb56
        refine T_hvS rfl (fun K hK => ?_)
        go_simp
        go_at_call 65
        have hbw6 : Below w.heap.size w w6 := HB5.out.trans (HB56.out.mono (by have := HB5.out.size; omega))
        refine (H2b.out w6 w6.heap.size (Nat.le_refl _) ((H'.out.below' hbw6 hB).more (by have := hbw6.size; omega)) ((HR2.out.below (TB.out.trans (HB56.out.mono (by have := TS.out; omega)))).more (by have := TS.out; omega))).mono ?_
        rintro e w7 ⟨Aq, cq, fq, rfl, hown7, _, hb7⟩
        have hb57 : Below w5.heap.size w5 w7 := HB56.out.trans (hb7.mono hs6)
        have OW7 := Lib.hid hown7
        have OW67 := Lib.hid (OW6.out.below hb7)
        have HB57 := Lib.hid hb57
        clear hown7 hb7 hbw6
        go_simp
        refine hK _ _ hb57 ?_
        clear hK K hb57
        refine T_hvS rfl (fun K hK => ?_)
        go_simp
        go_at_call 78
        refine (equalFunc_any _ _ Ap Aq cp cq N p.o.length q.o.length fp fq (pw p N) (pw q N) w7 (by have := TS.out; omega) (by have := TS.out; omega) OW67.out OW7.out).mono ?_
        rintro e w8 ⟨rfl, ⟨nd, rfl⟩⟩
        go_simp
        refine hK _ _ (bDrewN HB57.out _) ?_
        clear hK K
        (repeat (refine T_lp rfl (fun K hK => ?_); go_simp; refine hK _ ?_; clear hK K))
        refine T_done ?_
        go_wp2
        go_ret2
        exact ⟨by rw [EA.out, HG.out, HGQ.out]; rfl, bDrewN (HB5.out.trans (HB57.out.mono (by have := HB5.out.size; omega))) _⟩
      · have hpe : (p.n == q.n) = false := by simpa using hpq
        have EA := Lib.hid (HSP.out.trans (by rw [decide_eq_false hpq, Bool.false_and]))
        clear hpq
        refine wp_region_T (fun x : World => Below w5.heap.size w5 x) [0, 1, 2, 3, 4, 5, 6, 8, 11, 12, 13] [1, 3, 6, 8] (.lp 0 (.lp 2 (.ls 1 (.ls 3 (.lp 4 (.lp 5 (.ls 6 (.ls 8 (.hv 7 (.hv 9 (.hv 10 (.lp 11 (.lp 12 (.lp 13 (.done))))))))))))))) (by kernel_rfl) (by kernel_rfl) ?_
        (repeat (refine T_lp rfl (fun K hK => ?_); go_simp; refine hK _ ?_; clear hK K))
        refine T_ls1 (v := .int .i64 p.n) rfl rfl S0.out (fun x hx => (by obtain ⟨⟨h0, h1⟩, _⟩ := FS.out x hx; go_simp)) (fun K hK => ?_)
        (go_simp; refine hK _ ?_; clear hK K)
        refine T_ls1 (v := .int .i64 q.n) rfl rfl S0.out (fun x hx => (by obtain ⟨⟨h0, h1⟩, _⟩ := FS.out x hx; go_simp)) (fun K hK => ?_)
        (go_simp; refine hK _ ?_; clear hK K)
        (repeat (refine T_lp rfl (fun K hK => ?_); go_simp; refine hK _ ?_; clear hK K))
        refine T_ls rfl S0.out (fun K hK => ?_)
        (go_simp; refine hK _ ?_; clear hK K)
        refine T_ls rfl S0.out (fun K hK => ?_)
        (go_simp; refine hK _ ?_; clear hK K)
        refine T_hvS rfl (fun K hK => ?_)
        go_simp
        refine hK _ _ S0.out ?_
        clear hK K
        refine T_hvS rfl (fun K hK => ?_)
        go_simp
        refine hK _ _ S0.out ?_
        clear hK K
        refine T_hvS rfl (fun K hK => ?_)
        go_simp
        refine hK _ _ S0.out ?_
        clear hK K
        (repeat (refine T_lp rfl (fun K hK => ?_); go_simp; refine hK _ ?_; clear hK K))
        refine T_done ?_
        go_wp2
        go_ret2
        exact ⟨by rw [EA.out, HG.out, HGQ.out]; rfl, HB5.out.drew⟩
    · rw [if_neg hgq] at hpost
      simp only at hpost
      subst hpost
      have hg' : good q = false := by simpa using hgq
      have EA := Lib.hid (show spV p q = false by simp [spV, hg'])
      have HGQ := Lib.hid hg'
      clear hgq hg'
      go_wp2
      go_ret2
      exact ⟨by rw [EA.out, HG.out, HGQ.out]; rfl, HB4.out.alloc HB4.out.size _⟩
  · rw [if_neg hg] at hpost
    simp only at hpost
    subst hpost
    have hg' : good p = false := by simpa using hg
    have EA := Lib.hid (show spV p q = false by simp [spV, hg'])
    have HG := Lib.hid hg'
    clear hg hg'
    go_wp2_with fail
    go_at_call 64
    generalize hw3 : World.alloc w2 _ = w3
    obtain ⟨v0, v1, v2, v3, vs, vb⟩ := box4b hw3
    clear hw3 yk3 yk4 yk5
    have hbw3 : Below w.heap.size w w3 := HB2.out.trans (vb.mono (by omega))
    refine (withValues_any B A3 A4 c3 c4 q w3 (by omega) hls' hlo' (H'.out.below' hbw3 hB)).mono ?_
    rintro e w4 ⟨hb4, hpost⟩
    have HB4 := Lib.hid (hbw3.trans (hb4.mono (by have := hbw3.size; omega)))
    clear y0 y3 y4 y5 v0 v1 v2 v3 vb hb4
    rw [valsI_eq] at hpost
    by_cases hgq : good q = true
    · rw [if_pos hgq] at hpost
      simp only at hpost
      obtain ⟨A', c', rfl, hown'⟩ := hpost
      clear hown' hgq
      go_wp2
      go_ret2
      exact ⟨by rw [EA.out, HG.out]; rfl, HB4.out.alloc HB4.out.size _⟩
    · rw [if_neg hgq] at hpost
      simp only at hpost
      subst hpost
      clear hgq
      go_wp2
      go_ret2
      exact ⟨by rw [EA.out, HG.out]; rfl, HB4.out.alloc HB4.out.size _⟩
end Go.Proofs.Ytppfpdobdoaoiaa
