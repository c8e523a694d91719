/- CodeOfPlan of the model. -/
import Derived.Test.YtpopomcaknbhnaaH8s
namespace Go.Proofs.Ytpopomcaknbhnaa
open Go.RowKit

theorem new3s (w : World) (k a b : Int) {g : Nat} (hg : g = w.heap.size) : ∀ j, j < 3 → (w.alloc (.cells #[.int .i64 k, .int .i64 a, .int .i64 b] 80)).cell? ⟨g, j, none⟩ = [I k, I a, I b][j]? := by
  subst hg
  intro j hj
  rw [World.cell?_alloc_at _ _ _ _ rfl]
  match j, hj with
  | 0, _ => rfl
  | 1, _ => rfl
  | 2, _ => rfl
set_option maxRecDepth 100000 in
set_option maxHeartbeats 800000 in
theorem specCodeOfPlan_any (B : Nat) (A1 A2 : Option Addr) (c1 c2 : Nat) (p : Pl) (w : World) (hB : B ≤ w.heap.size) (hls : p.s.length ≤ 1048576) (hlo : p.o.length ≤ 1048576) (hr : RdP w B A1 A2 p) :
    Calls Try.prog 55 #[.agg #[.int .i64 p.n, .slice A1 p.s.length c1, .slice A2 p.o.length c2]] w fun e w' =>
      ∃ A' c', e = .returned (.tuple #[.agg #[.slice A' (cpR p).ops.length c', .int .i64 (cpR p).out], .bool (cpB p)]) ∧ OwD w' w.heap.size A' c' (cpR p) ∧ Below w.heap.size w w' := by
  have IP := Lib.hid (fun (W : World) (hb : Below w.heap.size w W) => plGood_any B A1 A2 c1 c2 p W (by have := hb.size; omega) (by omega) (by omega) (hr.below' hb hB))
  have H := Lib.hid hr
  clear hr
  have BAD := Lib.hid (show ∀ w', cpB p = false → Below w.heap.size w w' → ∃ A' c', (Ending.returned (.tuple #[zeroK, .bool false])) = .returned (.tuple #[.agg #[.slice A' (cpR p).ops.length c', .int .i64 (cpR p).out], .bool (cpB p)]) ∧ OwD w' w.heap.size A' c' (cpR p) ∧ Below w.heap.size w w' from
    fun w' h hb => ⟨none, 0, by rw [cpR_bad h, h]; rfl, by rw [cpR_bad h]; exact OwD.zero _ _, hb⟩)
  have EB := Lib.hid (show cpB p = (good p && (decide (p.n = 1) && (decide (p.o.length = 1) && cdB (cpC p)))) from rfl)
  have GF := Lib.hid (fun h => good_facts (p := p) h)
  cases hgd : good p with
  | false =>
    have E := Lib.hid (show cpB p = false by rw [EB.out, hgd]; rfl)
    rw [hgd] at IP
    clear hgd
    go_enter Try.func55, Try.ntmps55
    go_wp2_with fail
    go_at_call 99
    generalize hw1 : World.alloc (World.alloc w _) _ = w1
    obtain ⟨x0, x1, x2, r0, xs, xb⟩ := boxesPC hw1
    clear hw1
    refine (IP.out _ xb).mono ?_
    rintro e w2 ⟨rfl, hb2⟩
    have y0 := (hb2.cell (p := ⟨w.heap.size, 0, none⟩) (by simp only []; omega)).trans x0
    have y1 := (hb2.cell (p := ⟨w.heap.size, 1, none⟩) (by simp only []; omega)).trans x1
    have y2 := (hb2.cell (p := ⟨w.heap.size, 2, none⟩) (by simp only []; omega)).trans x2
    have r1 := (hb2.block (w.heap.size + 1) (by omega)).trans r0
    have HB2 := Lib.hid (xb.trans (hb2.mono (show w.heap.size ≤ w1.heap.size by omega)))
    have hs2 : w.heap.size + 2 ≤ w2.heap.size := by have := hb2.size; omega
    obtain ⟨t0, t1⟩ := cells2 r1
    obtain ⟨g0, g1⟩ := frz2 r1
    clear x0 x1 x2 r0 xs xb hb2 r1 hs2
    go_wp2
    refine bodyPost_ret (v := .tuple #[zeroK, .bool false]) (by simp [results, Try.results55, go_sem, t0, t1]) rfl (BAD.out _ E.out ?_)
    exact (HB2.out.setCell (by simp) _).setCell (by simp) _
  | true =>
    obtain ⟨N, e1, e2, e3, hs40, ho6, e4, e5, e6⟩ := GF.out hgd
    clear e1 e2 e3 e4 e5 e6 ho6
    rw [hgd] at IP
    by_cases hn : p.n = 1
    case neg =>
      have E := Lib.hid (show cpB p = false by rw [EB.out, decide_eq_false hn]; simp)
      have q1 : (p.n != 1) = true := by rw [bne_iff_ne]; exact hn
      clear hn hgd
      go_enter Try.func55, Try.ntmps55
      go_wp2_with fail
      go_at_call 99
      generalize hw1 : World.alloc (World.alloc w _) _ = w1
      obtain ⟨x0, x1, x2, r0, xs, xb⟩ := boxesPC hw1
      clear hw1
      refine (IP.out _ xb).mono ?_
      rintro e w2 ⟨rfl, hb2⟩
      have y0 := (hb2.cell (p := ⟨w.heap.size, 0, none⟩) (by simp only []; omega)).trans x0
      have y1 := (hb2.cell (p := ⟨w.heap.size, 1, none⟩) (by simp only []; omega)).trans x1
      have y2 := (hb2.cell (p := ⟨w.heap.size, 2, none⟩) (by simp only []; omega)).trans x2
      have r1 := (hb2.block (w.heap.size + 1) (by omega)).trans r0
      have HB2 := Lib.hid (xb.trans (hb2.mono (show w.heap.size ≤ w1.heap.size by omega)))
      have hs2 : w.heap.size + 2 ≤ w2.heap.size := by have := hb2.size; omega
      obtain ⟨t0, t1⟩ := cells2 r1
      obtain ⟨g0, g1⟩ := frz2 r1
      clear x0 x1 x2 r0 xs xb hb2 r1 hs2
      go_wp2
      refine bodyPost_ret (v := .tuple #[zeroK, .bool false]) (by simp [results, Try.results55, go_sem, t0, t1]) rfl (BAD.out _ E.out ?_)
      exact (HB2.out.setCell (by simp) _).setCell (by simp) _
    rw [hn] at IP
    rw [hn]
    by_cases ho : p.o.length = 1
    case neg =>
      have E := Lib.hid (show cpB p = false by rw [EB.out, decide_eq_false ho]; simp)
      have q1 : ((p.o.length : Int) != 1) = true := by rw [bne_iff_ne]; omega
      clear hn ho hgd
      go_enter Try.func55, Try.ntmps55
      go_wp2_with fail
      go_at_call 99
      generalize hw1 : World.alloc (World.alloc w _) _ = w1
      obtain ⟨x0, x1, x2, r0, xs, xb⟩ := boxesPC hw1
      clear hw1
      refine (IP.out _ xb).mono ?_
      rintro e w2 ⟨rfl, hb2⟩
      have y0 := (hb2.cell (p := ⟨w.heap.size, 0, none⟩) (by simp only []; omega)).trans x0
      have y1 := (hb2.cell (p := ⟨w.heap.size, 1, none⟩) (by simp only []; omega)).trans x1
      have y2 := (hb2.cell (p := ⟨w.heap.size, 2, none⟩) (by simp only []; omega)).trans x2
      have r1 := (hb2.block (w.heap.size + 1) (by omega)).trans r0
      have HB2 := Lib.hid (xb.trans (hb2.mono (show w.heap.size ≤ w1.heap.size by omega)))
      have hs2 : w.heap.size + 2 ≤ w2.heap.size := by have := hb2.size; omega
      obtain ⟨t0, t1⟩ := cells2 r1
      obtain ⟨g0, g1⟩ := frz2 r1
      clear x0 x1 x2 r0 xs xb hb2 r1 hs2
      go_wp2
      refine bodyPost_ret (v := .tuple #[zeroK, .bool false]) (by simp [results, Try.results55, go_sem, t0, t1]) rfl (BAD.out _ E.out ?_)
      exact (HB2.out.setCell (by simp) _).setCell (by simp) _
    have EB2 := Lib.hid (show cpB p = cdB (cpC p) by rw [EB.out, hgd, decide_eq_true hn, decide_eq_true ho]; rfl)
    have HO := Lib.hid ho
    have HR2 := Lib.hid H.out.2
    rw [ho] at IP
    rw [ho]
    clear hn ho GF hgd EB BAD
    go_enter Try.func55, Try.ntmps55
    go_wp2_with fail
    go_at_call 99
    generalize hw1 : World.alloc (World.alloc w _) _ = w1
    obtain ⟨x0, x1, x2, r0, xs, xb⟩ := boxesPC hw1
    clear hw1
    refine (IP.out _ xb).mono ?_
    rintro e w2 ⟨rfl, hb2⟩
    have y0 := (hb2.cell (p := ⟨w.heap.size, 0, none⟩) (by simp only []; omega)).trans x0
    have y1 := (hb2.cell (p := ⟨w.heap.size, 1, none⟩) (by simp only []; omega)).trans x1
    have y2 := (hb2.cell (p := ⟨w.heap.size, 2, none⟩) (by simp only []; omega)).trans x2
    have r1 := (hb2.block (w.heap.size + 1) (by omega)).trans r0
    have HB2 := Lib.hid (xb.trans (hb2.mono (show w.heap.size ≤ w1.heap.size by omega)))
    have hs2 : w.heap.size + 2 ≤ w2.heap.size := by have := hb2.size; omega
    have R1 := Lib.hid r1
    clear x0 x1 x2 r0 xs xb hb2 r1
    obtain ⟨ob, oo, eo, hob, hoc⟩ := (HR2.out.below' HB2.out hB).int (show 0 < p.o.length by rw [HO.out]; omega)
    subst eo
    obtain ⟨X, hX⟩ : ∃ X, p.o[0]'(by rw [HO.out]; omega) = X := ⟨_, rfl⟩
    rw [hX] at hoc
    have OUT := Lib.hid (show (cpC p).out = X by
      show p.o.getD 0 0 = X
      rw [List.getD_eq_getElem?_getD, List.getElem?_eq_getElem (show 0 < p.o.length by rw [HO.out]; omega)]
      exact hX)
    have hocv := hoc
    rw [Nat.add_zero] at hocv
    clear hX hoc
    have k1 := cell_kept y1
    go_wp2
    clear k1 hocv
    generalize hw3 : World.alloc w2 _ = w3
    have m3 : w3.heap[w2.heap.size]? = some (.cells #[.slice none 0 0, .int .i64 X] 29 (0, 0)) := by rw [← hw3]; exact heap_alloc_new w2 _
    have s3 : w3.heap.size = w2.heap.size + 1 := by rw [← hw3]; simp
    have B3 := Lib.hid (show Below w2.heap.size w2 w3 by rw [← hw3]; exact (Below.refl _ _).alloc (Nat.le_refl _) _)
    have M3 := Lib.hid m3
    obtain ⟨g, hg⟩ : ∃ g, w2.heap.size = g := ⟨_, rfl⟩
    rw [hg] at M3 B3 s3 hs2 ⊢
    clear hw3 m3 hg y0 y1 y2
    go_loopw [30] (fun iv wr => ∃ (k : Nat) (A5 : Option Addr) (c5 : Nat), k ≤ p.s.length ∧ iv = .int .i64 (k : Int) ∧ wr.heap[g]? = some (.cells #[.slice A5 k c5, .int .i64 X] 29 (0, 0)) ∧ OwO wr (g + 1) (.slice A5 k c5) (cpS (p.s.take k)) ∧ Below g w3 wr) (fun i _ => p.s.length - (intOf i).toNat)
    case atStart => exact ⟨0, none, 0, by omega, rfl, M3.out, OwO.nil _ _, Below.refl _ _⟩
    case round =>
      obtain ⟨k, A5, c5, hk, rfl, hmk, hown, hbel⟩ := hrel
      have hsz := hbel.size
      have HBW := Lib.hid (show Below w.heap.size w wr from HB2.out.trans ((B3.out.mono (by omega)).trans (hbel.mono (by omega))))
      have hlk : (cpS (p.s.take k)).length = k := by rw [cpS_len, List.length_take]; omega
      by_cases hlt : k < p.s.length
      · obtain ⟨sb, off, rfl, hsb, hc1, hc2⟩ := ((H.out.1.below' HBW.out hB)).stp hlt
        have ik : (k : Int) < (p.s.length : Int) := by omega
        have SN := Lib.hid (cpS_snoc hlt)
        obtain ⟨⟨a, b⟩, hab⟩ : ∃ x, p.s[k] = x := ⟨_, rfl⟩
        rw [hab] at hc1 hc2 SN
        simp only at hc1 hc2
        have ow : wr.ownsRow (g + 1) 80 3 (.slice A5 k c5) k (fl3 (cpS (p.s.take k))) := by
          have h : wr.ownsRow _ _ _ _ _ _ := hown
          rw [hlk] at h
          exact h
        have OWN := Lib.hid ow
        have BEL := Lib.hid hbel
        have MK := Lib.hid hmk
        have HLK := Lib.hid hlk
        have hgs : g < wr.heap.size := by omega
        obtain ⟨d0, d1⟩ := cells2 hmk
        have e0 := cell_kept d0
        have OWA := Lib.hid (show ∀ o o', ((wr.alloc o).alloc o').ownsRow (g + 1) 80 3 (.slice A5 k c5) k (fl3 (cpS (p.s.take k))) from fun o o' => World.ownsRow.alloc (World.ownsRow.alloc OWN.out o) o')
        have MKA := Lib.hid (show ∀ o o', ((wr.alloc o).alloc o').heap[g]? = some (.cells #[.slice A5 k c5, .int .i64 X] 29 (0, 0)) from fun o o' => (Below.heap_alloc _ _ _ (by simp; omega)).trans ((Below.heap_alloc _ _ _ hgs).trans MK.out))
        have GLT := Lib.hid (show ∀ o o', g < ((wr.alloc o).alloc o').heap.size from fun o o' => by simp; omega)
        have BLA := Lib.hid (show ∀ o o' w6, Below (g + 1) ((wr.alloc o).alloc o') w6 → Below g w3 w6 from fun o o' w6 h => BEL.out.trans ((((Below.refl _ _).alloc (by omega) _).alloc (by simp; omega) _).trans (h.mono (by omega))))
        have GK := Lib.hid (show ∀ o o' w6, ((wr.alloc o).alloc o').grownBy w6 (Value.slice A5 k c5).ownBlock → w6.heap[g]? = some (.cells #[.slice A5 k c5, .int .i64 X] 29 (0, 0)) from fun o o' w6 h => (h.block g (GLT.out o o') (own_ne_blk (OWA.out o o') (MKA.out o o') (by decide))).trans (MKA.out o o'))
        clear hab hmk hown hbel ow hlk d0 d1
        go_wp2_with (at_builtin; refine list_step (fun K hK => ?_); refine step_appN Try.underlying27 info_op8 rfl (by omega) (by omega) rfl (.tmp 35) (.tmp 41) rfl (g + 1) k _ (fl3 (cpS (p.s.take k))) rfl (OWA.out _ _) (wr.heap.size + 1) 1 [I 3, I a, I b] rfl rfl (new3s _ 3 a b (by simp)) (one3 3 a b) (by omega) (by simp; omega) ?_; intro A6 c6 w6 hown6 hg6 hbel6; have hgg := GK.out _ _ _ hg6; obtain ⟨d0, d1⟩ := cells2 hgg; obtain ⟨f0, f1⟩ := frz2 hgg; have HGG := Lib.hid hgg; have O6 := Lib.hid hown6; have B6 := Lib.hid (BLA.out _ _ _ hbel6); clear hgg hown6 hg6 hbel6; go_simp; refine hK _ _ ?_; clear hK K)
        go_roundw
        case rel =>
          refine ⟨k + 1, A6, c6, by omega, by go_num, ?_, ?_, B6.out.setCell (by simp) _⟩
          · rw [heap_setCell_same w6 g 0 _ _ _ HGG.out]; rfl
          · have h := own_set (o := 0) O6.out HGG.out (by decide) (.slice A6 (k + 1) c6)
            rw [SN.out]
            unfold OwO
            rw [List.length_append, List.length_singleton, HLK.out, fl3_snoc]
            exact h
        case measure => simp [intOf]; omega
      · have hk' : k = p.s.length := by omega
        subst hk'
        rw [List.take_length] at hown hlk
        have r1 := (hbel.block (w.heap.size + 1) (by omega)).trans ((B3.out.block (w.heap.size + 1) (by omega)).trans R1.out)
        obtain ⟨m1, m2⟩ := cells2 hmk
        have EC := Lib.hid (show cpC p = ⟨cpS p.s, X⟩ by
          have h := OUT.out
          unfold cpC at h ⊢
          simp only at h
          rw [h])
        have CN := poIf_any wr.heap.size A5 c5 ⟨cpS p.s, X⟩ wr (Nat.le_refl _) (by show (cpS p.s).length ≤ _; rw [cpS_len]; omega) (Rd.of_own (c := c5) (by have h : wr.ownsRow _ _ _ _ _ _ := hown; rw [← hlk] at h; exact h))
        have EB3 := EB2.out
        rw [EC.out] at EB3
        obtain ⟨t, ht⟩ : ∃ t, cdB ⟨cpS p.s, X⟩ = t := ⟨_, rfl⟩
        rw [ht] at EB3
        have ER := Lib.hid (show cpR p = if t then ⟨cpS p.s, X⟩ else zeroCd by unfold cpR; rw [EB3, EC.out])
        have EBT := Lib.hid EB3
        simp only [ht] at CN
        obtain ⟨n, hn⟩ : ∃ n, p.s.length = n := ⟨_, rfl⟩
        simp only [cpS_len, hn] at CN
        rw [hn] at m1
        have HN := Lib.hid (show (cpS p.s).length = n by rw [cpS_len]; exact hn)
        have CN := Lib.hid CN
        have O5 := Lib.hid (show OwO wr (g + 1) (.slice A5 n c5) (cpS p.s) by rw [← hn]; exact hown)
        have RR := Lib.hid r1
        clear hmk hown hbel ht EB3 r1 hlk
        cases t with
        | false =>
          simp only [selC, Bool.false_eq_true, if_false] at CN
          go_wp2_with fail
          go_at_call 88
          refine CN.out.mono ?_
          rintro e w7 ⟨rfl, hb7⟩
          have hbd : Below wr.heap.size wr wr := Below.refl _ _
          have hbd7 : Below wr.heap.size wr w7 := hbd.trans (hb7.mono hbd.size)
          have r7 := (hbd7.block (w.heap.size + 1) (by omega)).trans RR.out
          obtain ⟨t0, t1⟩ := cells2 r7
          obtain ⟨g0, g1⟩ := frz2 r7
          have R7 := Lib.hid r7
          have O7 := Lib.hid (show w7.ownsRow (g + 1) 80 3 (.slice A5 n c5) n (fl3 (cpS p.s)) from by have h := own_below O5.out hbd7; rw [HN.out] at h; exact h)
          have BW7 := Lib.hid (HBW.out.trans (hbd7.mono (by omega)))
          clear hbd hb7 hbd7 r7
          go_wp2
          refine bodyPost_ret (v := .tuple #[zeroK, .bool false]) (by simp [results, Try.results55, go_sem, t0, t1]) rfl ?_
          have er : cpR p = zeroCd := by rw [ER.out]; rfl
          rw [er, EBT.out]
          exact ⟨none, 0, rfl, OwD.zero _ _, (BW7.out.setCell (by simp) _).setCell (by simp) _⟩
        | true =>
          simp only [selC, if_true] at CN
          go_wp2_with fail
          go_at_call 88
          refine CN.out.mono ?_
          rintro e w7 ⟨rfl, hb7⟩
          have hbd : Below wr.heap.size wr wr := Below.refl _ _
          have hbd7 : Below wr.heap.size wr w7 := hbd.trans (hb7.mono hbd.size)
          have r7 := (hbd7.block (w.heap.size + 1) (by omega)).trans RR.out
          obtain ⟨t0, t1⟩ := cells2 r7
          obtain ⟨g0, g1⟩ := frz2 r7
          have R7 := Lib.hid r7
          have O7 := Lib.hid (show w7.ownsRow (g + 1) 80 3 (.slice A5 n c5) n (fl3 (cpS p.s)) from by have h := own_below O5.out hbd7; rw [HN.out] at h; exact h)
          have BW7 := Lib.hid (HBW.out.trans (hbd7.mono (by omega)))
          clear hbd hb7 hbd7 r7
          go_wp2
          refine bodyPost_ret (v := .tuple #[.agg #[.slice A5 n c5, .int .i64 X], .bool true]) (by simp [results, Try.results55, go_sem, t0, t1]) rfl ?_
          have er : cpR p = ⟨cpS p.s, X⟩ := by rw [ER.out]; rfl
          rw [er, EBT.out]
          refine ⟨A5, c5, by rw [← HN.out], ?_, (BW7.out.setCell (by simp) _).setCell (by simp) _⟩
          have h := own_base (own_set2 O7.out R7.out (by decide) (.slice A5 n c5) (.int .i64 X)) (show w.heap.size ≤ g + 1 by omega)
          unfold OwD OwO
          show World.ownsRow _ _ _ _ (.slice A5 (cpS p.s).length c5) (cpS p.s).length (fl3 (cpS p.s))
          rw [HN.out]
          exact h
end Go.Proofs.Ytpopomcaknbhnaa
