/- Sums and products of polynomials by the model. -/
import Derived.Test.YtpopomcaknbhnaaH8p
namespace Go.Proofs.Ytpopomcaknbhnaa
open Go.RowKit

set_option maxRecDepth 100000 in
set_option maxHeartbeats 4000000 in
theorem poSum_any (B : Nat) (A A' : Option Addr) (c c' : Nat) (f g : List Int) (w : World) (hf : fitB f = true) (hg : fitB g = true) (hB : B ≤ w.heap.size) (hr : Rd w B 1 A f.length (f.map I)) (hr' : Rd w B 1 A' g.length (g.map I)) :
    Calls Try.prog 143 #[.slice A f.length c, .slice A' g.length c'] w fun e w' => ∃ A2 c2, e = .returned (.slice A2 (pSum f g).length c2) ∧ OwI w' w.heap.size (.slice A2 (pSum f g).length c2) (pSum f g) ∧ Below w.heap.size w w' := by
  have H := Lib.hid hr
  have H' := Lib.hid hr'
  have FA := Lib.hid (fit_at hf)
  have GA := Lib.hid (fit_at hg)
  have hfl := (fit_iff.1 hf).1
  have hgl := (fit_iff.1 hg).1
  clear hr hr' hf hg
  obtain ⟨n, hn⟩ : ∃ n, max f.length g.length = n := ⟨_, rfl⟩
  have hn1 : f.length ≤ n := by omega
  have hn2 : g.length ≤ n := by omega
  have E := Lib.hid (show pSum f g = pt (fun i => at0 f i + at0 g i) n by unfold pSum; rw [hn])
  have HM := Lib.hid (show ∀ W, Calls Try.prog 78 #[.int .i64 (f.length : Int), .int .i64 (g.length : Int)] W fun e w' => e = .returned (.int .i64 (n : Int)) ∧ W = w' from fun W => by have h := l1Most_any (f.length : Int) (g.length : Int) W; rw [most_max, hn] at h; exact h)
  have hn34 : n ≤ 34 := by omega
  clear hn
  have hmk : ∀ W : World, (Instr.makeSlice 36 (.int .i64 (n : Int)) (.int .i64 (n : Int))).run Try.prog W = .ok (.slice (some ⟨W.heap.size, 0, none⟩) n n) (W.alloc (.cells (madeCells #[.int .i64 0] n) 3)) := run_make_row' (P := Try.prog) 36 3 (.int .i64 0) 8 Try.underlying36 info_int rfl .i64 .i64 n (by omega) (by omega)
  go_enter Try.func143, Try.ntmps143
  go_wp2_with (go_at_call 78; refine (HM.out _).mono ?_; rintro e w' ⟨rfl, rfl⟩)
  clear hmk
  generalize hw1 : World.alloc w _ = w1
  have hmade : w1.ownsRow w.heap.size 3 1 (.slice (some ⟨w.heap.size, 0, none⟩) n n) n ((tb n (fun _ => 0)).map I) := by rw [← hw1]; exact zeros_own8 n (by omega) (Nat.le_refl _)
  have hb1 : Below w.heap.size w w1 := by rw [← hw1]; exact (Below.refl _ _).alloc (Nat.le_refl _) _
  obtain ⟨q, hq⟩ : ∃ q, w.heap.size = q := ⟨_, rfl⟩
  have hqB : B ≤ q := by omega
  have HQ := Lib.hid hq
  rw [hq] at hmade hb1
  rw [hq]
  clear hw1 hq
  have HM1 := Lib.hid hmade
  have HB1 := Lib.hid hb1
  clear hmade hb1
  go_loopw [18] (fun iv wr => ∃ k : Nat, k ≤ f.length ∧ iv = .int .i64 (k : Int) ∧ wr.ownsRow q 3 1 (.slice (some ⟨q, 0, none⟩) n n) n ((tb n (fun i => if i < k then at0 f i else 0)).map I) ∧ Below q w wr) (fun i _ => f.length - (intOf i).toNat)
  case atStart => exact ⟨0, by omega, rfl, by simpa using HM1.out, HB1.out⟩
  case round =>
    obtain ⟨k, hk, rfl, hown, hbel⟩ := hrel
    have OWN := Lib.hid hown
    have BEL := Lib.hid hbel
    by_cases hlt : k < f.length
    · obtain ⟨b, off, rfl, hb, hc⟩ := (H.out.below' hbel hqB).int hlt
      obtain ⟨x1, x2⟩ := FA.out k
      have X0 := Lib.hid (at0_lt hlt)
      rw [X0.out] at x1 x2
      obtain ⟨x, hx⟩ : ∃ x, f[k] = x := ⟨_, rfl⟩
      have X1 := Lib.hid (show at0 f k = x from X0.out.trans hx)
      rw [hx] at hc x1 x2
      have hkn : k < n := by omega
      have hd : wr.cell? ⟨q, k, none⟩ = some (.int .i64 0) := by rw [hown.cellAt k (by omega), tb_at _ hkn, if_neg (Nat.lt_irrefl k)]
      have hfz : wr.frozen? ⟨q, k, none⟩ = false := hown.frozenAt _
      have ik : (k : Int) < (f.length : Int) := by omega
      have ikn : (k : Int) < (n : Int) := by omega
      clear hx hown hbel
      go_wp2
      go_roundw
      case rel =>
        refine ⟨k + 1, by omega, by go_num, ?_, BEL.out.setCell (by simp) _⟩
        have h := (OWN.out.stored k (I x)).1
        rw [tb_low (F := at0 f) hkn X1.out] at h
        exact h
      case measure => simp [intOf]; omega
    · have hk' : k = f.length := by omega
      subst hk'
      have OWN1 := Lib.hid (show wr.ownsRow q 3 1 (.slice (some ⟨q, 0, none⟩) n n) n ((tb n (fun i => if i < 0 then at0 f i + at0 g i else at0 f i)).map I) by
        have h := hown
        rw [tb_congr (G := fun i => if i < 0 then at0 f i + at0 g i else at0 f i) (fun i _ => by
          rw [if_neg (show ¬ i < 0 by omega)]
          split
          · rfl
          · rw [at0_ge (by omega)])] at h
        exact h)
      have BEL1 := Lib.hid hbel
      clear hown hbel OWN BEL
      go_wp2
      go_loopw [33] (fun iv wr => ∃ k : Nat, k ≤ g.length ∧ iv = .int .i64 (k : Int) ∧ wr.ownsRow q 3 1 (.slice (some ⟨q, 0, none⟩) n n) n ((tb n (fun i => if i < k then at0 f i + at0 g i else at0 f i)).map I) ∧ Below q w wr) (fun i _ => g.length - (intOf i).toNat)
      case atStart => exact ⟨0, by omega, rfl, OWN1.out, BEL1.out⟩
      case round =>
        obtain ⟨k, hk, rfl, hown, hbel⟩ := hrel
        have OWN := Lib.hid hown
        have BEL := Lib.hid hbel
        by_cases hlt : k < g.length
        · obtain ⟨b, off, rfl, hb, hc⟩ := (H'.out.below' hbel hqB).int hlt
          obtain ⟨x1, x2⟩ := GA.out k
          have X0 := Lib.hid (at0_lt hlt)
          rw [X0.out] at x1 x2
          obtain ⟨x, hx⟩ : ∃ x, g[k] = x := ⟨_, rfl⟩
          have X1 := Lib.hid (show at0 g k = x from X0.out.trans hx)
          rw [hx] at hc x1 x2
          obtain ⟨y1, y2⟩ := FA.out k
          obtain ⟨y, hy⟩ : ∃ y, at0 f k = y := ⟨_, rfl⟩
          rw [hy] at y1 y2
          have Y1 := Lib.hid hy
          have hkn : k < n := by omega
          have hd : wr.cell? ⟨q, k, none⟩ = some (.int .i64 y) := by rw [hown.cellAt k (by omega), tb_at _ hkn, if_neg (Nat.lt_irrefl k), hy]
          have hfz : wr.frozen? ⟨q, k, none⟩ = false := hown.frozenAt _
          have ik : (k : Int) < (g.length : Int) := by omega
          have ikn : (k : Int) < (n : Int) := by omega
          clear hx hy hown hbel
          go_wp2
          go_roundw
          case rel =>
            refine ⟨k + 1, by omega, by go_num, ?_, BEL.out.setCell (by simp) _⟩
            have h := (OWN.out.stored k (I (y + x))).1
            rw [tb_add (F := at0 f) (G := at0 g) hkn Y1.out X1.out] at h
            exact h
          case measure => simp [intOf]; omega
        · have hk' : k = g.length := by omega
          subst hk'
          have OWN := Lib.hid (show wr.ownsRow q 3 1 (.slice (some ⟨q, 0, none⟩) n n) n ((tb n (fun i => at0 f i + at0 g i)).map I) by
            have h := hown
            rw [tb_congr (G := fun i => at0 f i + at0 g i) (fun i _ => by
              split
              · rfl
              · rw [at0_ge (l := g) (by omega)]; omega)] at h
            exact h)
          clear hown hbel
          have ht := poTrim_any wr.heap.size (some ⟨q, 0, none⟩) n (tb n (fun i => at0 f i + at0 g i)) wr (by rw [tb_len]; omega) (by rw [tb_len]; omega) (Nat.le_refl _) (own_tb OWN.out).rd
          rw [pt_tb, tb_len] at ht
          rw [← E.out] at ht
          have HT := Lib.hid ht
          clear ht
          have hqs : q ≤ wr.heap.size := by have := (own_block OWN.out q rfl); omega
          go_wp2_with (go_at_call 142; refine HT.out.mono ?_; rintro e w' ⟨A2, c2, rfl, ho2, hb2⟩)
          go_ret
          exact ⟨A2, c2, rfl, by rw [HQ.out]; exact ho2.base hqs, by rw [HQ.out]; exact BEL.out.trans (hb2.mono hqs)⟩

set_option maxRecDepth 100000 in
set_option maxHeartbeats 4000000 in
theorem poProduct_any (B : Nat) (A A' : Option Addr) (c c' : Nat) (f g : List Int) (w : World) (hf : fitB f = true) (hg : fitB g = true) (hB : B ≤ w.heap.size) (hr : Rd w B 1 A f.length (f.map I)) (hr' : Rd w B 1 A' g.length (g.map I)) :
    Calls Try.prog 144 #[.slice A f.length c, .slice A' g.length c'] w fun e w' => ∃ A2 c2, e = .returned (.slice A2 (pMul f g).length c2) ∧ OwI w' w.heap.size (.slice A2 (pMul f g).length c2) (pMul f g) ∧ Below w.heap.size w w' := by
  have H := Lib.hid hr
  have H' := Lib.hid hr'
  have FA := Lib.hid (fit_at hf)
  have GA := Lib.hid (fit_at hg)
  have hfl := (fit_iff.1 hf).1
  have hgl := (fit_iff.1 hg).1
  have CB := Lib.hid (fun i (hi : i < f.length) k p => cvC_bd hf hg k p hi)
  have MB := Lib.hid (fun i k => mul1_bd hf hg i k)
  clear hr hr' hf hg
  by_cases h0 : f.length = 0 ∨ g.length = 0
  · have E := Lib.hid (pMul_nil h0)
    by_cases h1 : f.length = 0
    · have q1 : ((f.length : Int) == 0) = true := by rw [beq_iff_eq]; omega
      clear h0
      go_enter Try.func144, Try.ntmps144
      go_wp2
      go_ret
      exact ⟨none, 0, by rw [E.out]; rfl, by rw [E.out]; exact OwI.nil _ _, Below.refl _ _⟩
    · have h2 : g.length = 0 := by omega
      have q1 : ((f.length : Int) == 0) = false := by rw [beq_eq_false_iff_ne]; omega
      have q2 : ((g.length : Int) == 0) = true := by rw [beq_iff_eq]; omega
      clear h0 h1 h2
      go_enter Try.func144, Try.ntmps144
      go_wp2
      go_ret
      exact ⟨none, 0, by rw [E.out]; rfl, by rw [E.out]; exact OwI.nil _ _, Below.refl _ _⟩
  have q1 : ((f.length : Int) == 0) = false := by rw [beq_eq_false_iff_ne]; omega
  have q2 : ((g.length : Int) == 0) = false := by rw [beq_eq_false_iff_ne]; omega
  obtain ⟨n, hn⟩ : ∃ n, f.length + g.length - 1 = n := ⟨_, rfl⟩
  have hn1 : (f.length : Int) + (g.length : Int) - 1 = (n : Int) := by omega
  have E := Lib.hid (show pMul f g = pt (fun p => cvR f g p f.length) n by rw [pMul_less, hn])
  have hnf : ∀ i j : Nat, i < f.length → j < g.length → i + j < n := fun i j _ _ => by omega
  have hn34 : n ≤ 34 := by omega
  have HNF := Lib.hid hnf
  clear hn hnf
  have hmk : ∀ W : World, (Instr.makeSlice 36 (.int .i64 (n : Int)) (.int .i64 (n : Int))).run Try.prog W = .ok (.slice (some ⟨W.heap.size, 0, none⟩) n n) (W.alloc (.cells (madeCells #[.int .i64 0] n) 3)) := run_make_row' (P := Try.prog) 36 3 (.int .i64 0) 8 Try.underlying36 info_int rfl .i64 .i64 n (by omega) (by omega)
  go_enter Try.func144, Try.ntmps144
  go_wp2
  clear hmk
  generalize hw1 : World.alloc w _ = w1
  have hmade : w1.ownsRow w.heap.size 3 1 (.slice (some ⟨w.heap.size, 0, none⟩) n n) n ((tb n (fun _ => 0)).map I) := by rw [← hw1]; exact zeros_own8 n (by omega) (Nat.le_refl _)
  have hb1 : Below w.heap.size w w1 := by rw [← hw1]; exact (Below.refl _ _).alloc (Nat.le_refl _) _
  obtain ⟨q, hq⟩ : ∃ q, w.heap.size = q := ⟨_, rfl⟩
  have hqB : B ≤ q := by omega
  have HQ := Lib.hid hq
  rw [hq] at hmade hb1
  rw [hq]
  clear hw1 hq
  have HM1 := Lib.hid hmade
  have HB1 := Lib.hid hb1
  clear hmade hb1
  go_loopw [27] (fun iv wr => ∃ k : Nat, k ≤ f.length ∧ iv = .int .i64 (k : Int) ∧ wr.ownsRow q 3 1 (.slice (some ⟨q, 0, none⟩) n n) n ((tb n (fun p => cvR f g p k)).map I) ∧ Below q w wr) (fun i _ => f.length - (intOf i).toNat)
  case atStart => exact ⟨0, by omega, rfl, HM1.out, HB1.out⟩
  case round =>
    obtain ⟨k, hk, rfl, hown, hbel⟩ := hrel
    have OWN := Lib.hid hown
    have BEL := Lib.hid hbel
    by_cases hlt : k < f.length
    · obtain ⟨b, off, rfl, hb, hc⟩ := (H.out.below' hbel hqB).int hlt
      obtain ⟨x1, x2⟩ := FA.out k
      have X0 := Lib.hid (at0_lt hlt)
      rw [X0.out] at x1 x2
      obtain ⟨x, hx⟩ : ∃ x, f[k] = x := ⟨_, rfl⟩
      have X1 := Lib.hid (show at0 f k = x from X0.out.trans hx)
      rw [hx] at hc x1 x2
      have ik : (k : Int) < (f.length : Int) := by omega
      have OWN0 := Lib.hid (show wr.ownsRow q 3 1 (.slice (some ⟨q, 0, none⟩) n n) n ((tb n (fun p => cvC f g k 0 p)).map I) from by
        have h := hown
        rw [tb_congr (G := fun p => cvC f g k 0 p) (fun p _ => (cvC_zero f g k p).symm)] at h
        exact h)
      clear hx hown hbel OWN
      go_wp2
      obtain ⟨wo, rfl⟩ : ∃ wo, wo = wr := ⟨wr, rfl⟩
      go_loopw [34] (fun iv wr => ∃ j : Nat, j ≤ g.length ∧ iv = .int .i64 (j : Int) ∧ wr.ownsRow q 3 1 (.slice (some ⟨q, 0, none⟩) n n) n ((tb n (fun p => cvC f g k j p)).map I) ∧ Below q w wr) (fun i _ => g.length - (intOf i).toNat)
      case atStart => exact ⟨0, by omega, rfl, OWN0.out, BEL.out⟩
      case round =>
        obtain ⟨j, hj, rfl, hown, hbel⟩ := hrel
        have OWN := Lib.hid hown
        have BEL := Lib.hid hbel
        by_cases hlt2 : j < g.length
        · obtain ⟨b', off', rfl, hb', hc'⟩ := (H'.out.below' hbel hqB).int hlt2
          obtain ⟨z1, z2⟩ := GA.out j
          have Z0 := Lib.hid (at0_lt hlt2)
          rw [Z0.out] at z1 z2
          obtain ⟨z, hz⟩ : ∃ z, g[j] = z := ⟨_, rfl⟩
          have Z1 := Lib.hid (show at0 g j = z from Z0.out.trans hz)
          rw [hz] at hc' z1 z2
          have hkj := HNF.out k j hlt hlt2
          obtain ⟨y1, y2⟩ := CB.out k hlt j (k + j)
          obtain ⟨y, hy⟩ : ∃ y, cvC f g k j (k + j) = y := ⟨_, rfl⟩
          have Y1 := Lib.hid hy
          have hd : wr.cell? ⟨q, k + j, none⟩ = some (.int .i64 y) := by rw [hown.cellAt (k + j) (by omega), tb_at _ hkj, hy]
          have hfz : wr.frozen? ⟨q, k + j, none⟩ = false := hown.frozenAt _
          obtain ⟨m1, m2⟩ := MB.out k j
          rw [X1.out, Z1.out] at m1 m2
          rw [hy] at y1 y2
          obtain ⟨m, hm⟩ : ∃ m, x * z = m := ⟨_, rfl⟩
          rw [hm] at m1 m2
          have M1 := Lib.hid hm
          have ij : (j : Int) < (g.length : Int) := by omega
          have ikj : (k : Int) + (j : Int) < (n : Int) := by omega
          have hmw : IntKind.i64.wrap (x * z) = m := by rw [hm]; exact IntWalk.i64_in _ (by omega)
          clear hz hy hm hown hbel
          go_wp2
          go_roundw
          case rel =>
            refine ⟨j + 1, by omega, by go_num, ?_, BEL.out.setCell (by simp) _⟩
            have h := (OWN.out.stored (k + j) (I (y + m))).1
            rw [tb_set (G := fun p => cvC f g k (j + 1) p) (by omega) (by rw [cvC_here, Y1.out, X1.out, Z1.out, M1.out]) (fun i _ hne => cvC_else hne)] at h
            exact h
          case measure => simp [intOf]; omega
        · have hj' : j = g.length := by omega
          subst hj'
          have OWN := Lib.hid (show wr.ownsRow q 3 1 (.slice (some ⟨q, 0, none⟩) n n) n ((tb n (fun p => cvR f g p (k + 1))).map I) from by
            have h := hown
            rw [tb_congr (G := fun p => cvR f g p (k + 1)) (fun p _ => cvC_end f g k p)] at h
            exact h)
          clear hown hbel
          go_wp2
          go_roundw
          case rel => exact ⟨k + 1, by omega, by go_num, OWN.out, BEL.out⟩
          case measure => simp [intOf]; omega
    · have hk' : k = f.length := by omega
      subst hk'
      clear hown hbel
      have ht := poTrim_any wr.heap.size (some ⟨q, 0, none⟩) n (tb n (fun p => cvR f g p f.length)) wr (by rw [tb_len]; omega) (by rw [tb_len]; omega) (Nat.le_refl _) (own_tb OWN.out).rd
      rw [pt_tb, tb_len] at ht
      rw [← E.out] at ht
      have HT := Lib.hid ht
      clear ht
      have hqs : q ≤ wr.heap.size := by have := (own_block OWN.out q rfl); omega
      go_wp2_with (go_at_call 142; refine HT.out.mono ?_; rintro e w' ⟨A2, c2, rfl, ho2, hb2⟩)
      go_ret
      exact ⟨A2, c2, rfl, by rw [HQ.out]; exact ho2.base hqs, by rw [HQ.out]; exact BEL.out.trans (hb2.mono hqs)⟩
end Go.Proofs.Ytpopomcaknbhnaa
