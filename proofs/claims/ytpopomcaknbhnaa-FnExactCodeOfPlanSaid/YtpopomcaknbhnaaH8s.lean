/- CodeOfPlan of both sides. -/
import Derived.Test.YtpopomcaknbhnaaH8r
namespace Go.Proofs.Ytpopomcaknbhnaa
open Go.RowKit

/-- The code of a plan, whether it is one or not. -/
def cpS (s : List (Int × Int)) : List Op3 := s.map fun x => (3, x.1, x.2)
def cpC (p : Pl) : Cd := ⟨cpS p.s, p.o.getD 0 0⟩
def cpB (p : Pl) : Bool := good p && (decide (p.n = 1) && (decide (p.o.length = 1) && cdB (cpC p)))
def cpR (p : Pl) : Cd := if cpB p then cpC p else zeroCd
theorem cpS_len (s : List (Int × Int)) : (cpS s).length = s.length := by simp [cpS]
theorem cpS_snoc {s : List (Int × Int)} {k : Nat} (h : k < s.length) : cpS (s.take (k + 1)) = cpS (s.take k) ++ [(3, s[k].1, s[k].2)] := by
  unfold cpS
  rw [List.take_succ_eq_append_getElem h, List.map_append]
  rfl
theorem cpR_bad {p : Pl} (h : cpB p = false) : cpR p = zeroCd := by unfold cpR; rw [h]; rfl
theorem cpR_le (p : Pl) : (cpR p).ops.length ≤ 1000 := by
  unfold cpR
  split
  · rename_i h
    unfold cpB at h
    simp only [Bool.and_eq_true] at h
    have := (cdB_facts h.2.2.2).1
    omega
  · simp [zeroCd]
theorem boxesPC {w w1 : World} {a b c : Value} {t : TypeId} (h : (w.alloc (.cells #[a, b, c] t)).alloc (.cells #[.slice none 0 0, .int .i64 0] 29) = w1) :
    w1.cell? ⟨w.heap.size, 0, none⟩ = some a ∧ w1.cell? ⟨w.heap.size, 1, none⟩ = some b ∧ w1.cell? ⟨w.heap.size, 2, none⟩ = some c ∧ w1.heap[w.heap.size + 1]? = some (.cells #[.slice none 0 0, .int .i64 0] 29 (0, 0)) ∧ w1.heap.size = w.heap.size + 2 ∧ Below w.heap.size w w1 := by
  subst h
  refine ⟨?_, ?_, ?_, ?_, by simp, ((Below.refl _ _).alloc (Nat.le_refl _) _).alloc (by simp) _⟩
  · rw [World.cell?_alloc_lt _ _ _ (by simp), World.cell?_alloc_at _ _ _ _ rfl]; rfl
  · rw [World.cell?_alloc_lt _ _ _ (by simp), World.cell?_alloc_at _ _ _ _ rfl]; rfl
  · rw [World.cell?_alloc_lt _ _ _ (by simp), World.cell?_alloc_at _ _ _ _ rfl]; rfl
  · have := heap_alloc_new (w.alloc (.cells #[a, b, c] t)) (.cells #[.slice none 0 0, .int .i64 0] 29)
    simpa using this

set_option maxRecDepth 100000 in
set_option maxHeartbeats 800000 in
theorem implCodeOfPlan_any (B : Nat) (A1 A2 : Option Addr) (c1 c2 : Nat) (p : Pl) (w : World) (hB : B ≤ w.heap.size) (hls : p.s.length ≤ 1048576) (hlo : p.o.length ≤ 1048576) (hr : RdP w B A1 A2 p) :
    Calls Try.prog 57 #[.agg #[.int .i64 p.n, .slice A1 p.s.length c1, .slice A2 p.o.length c2]] w fun e w' =>
      ∃ A' c', e = .returned (.tuple #[.agg #[.slice A' (cpR p).ops.length c', .int .i64 (cpR p).out], .bool (cpB p)]) ∧ OwD w' w.heap.size A' c' (cpR p) ∧ Below w.heap.size w w' := by
  have IP := Lib.hid (fun (W : World) (hb : Below w.heap.size w W) => implIsPlan_any B A1 A2 c1 c2 p W (by have := hb.size; omega) (by omega) (by omega) (hr.below' hb hB))
  have H := Lib.hid hr
  clear hr
  have BAD := Lib.hid (show ∀ w', cpB p = false → Below w.heap.size w w' → ∃ A' c', (Ending.returned (.tuple #[zeroK, .bool false])) = .returned (.tuple #[.agg #[.slice A' (cpR p).ops.length c', .int .i64 (cpR p).out], .bool (cpB p)]) ∧ OwD w' w.heap.size A' c' (cpR p) ∧ Below w.heap.size w w' from
    fun w' h hb => ⟨none, 0, by rw [cpR_bad h, h]; rfl, by rw [cpR_bad h]; exact OwD.zero _ _, hb⟩)
  have EB := Lib.hid (show cpB p = (good p && (decide (p.n = 1) && (decide (p.o.length = 1) && cdB (cpC p)))) from rfl)
  have GF := Lib.hid (fun h => good_facts (p := p) h)
  cases hgd : good p with
  | false =>
    have E := Lib.hid (show cpB p = false by rw [EB.out, hgd]; rfl)
    rw [hgd] at IP
    clear hgd
    go_enter Try.func57, Try.ntmps57
    go_wp2_with fail
    go_at_call 101
    generalize hw1 : World.alloc (World.alloc w _) _ = w1
    obtain ⟨x0, x1, x2, r0, xs, xb⟩ := boxesPC hw1
    clear hw1
    refine (IP.out _ xb).mono ?_
    rintro e w2 ⟨rfl, hb2⟩
    have y0 := (hb2.cell (p := ⟨w.heap.size, 0, none⟩) (by simp only []; omega)).trans x0
    have y1 := (hb2.cell (p := ⟨w.heap.size, 1, none⟩) (by simp only []; omega)).trans x1
    have y2 := (hb2.cell (p := ⟨w.heap.size, 2, none⟩) (by simp only []; omega)).trans x2
    have r1 := (hb2.block (w.heap.size + 1) (by omega)).trans r0
    have HB2 := Lib.hid (xb.trans (hb2.mono (show w.heap.size ≤ w1.heap.size by omega)))
    have hs2 : w.heap.size + 2 ≤ w2.heap.size := by have := hb2.size; omega
    obtain ⟨t0, t1⟩ := cells2 r1
    obtain ⟨g0, g1⟩ := frz2 r1
    clear x0 x1 x2 r0 xs xb hb2 r1 hs2
    go_wp2
    refine bodyPost_ret (v := .tuple #[zeroK, .bool false]) (by simp [results, Try.results57, go_sem, t0, t1]) rfl (BAD.out _ E.out ?_)
    exact (HB2.out.setCell (by simp) _).setCell (by simp) _
  | true =>
    obtain ⟨N, e1, e2, e3, hs40, ho6, e4, e5, e6⟩ := GF.out hgd
    clear e1 e2 e3 e4 e5 e6 ho6
    rw [hgd] at IP
    by_cases hn : p.n = 1
    case neg =>
      have E := Lib.hid (show cpB p = false by rw [EB.out, decide_eq_false hn]; simp)
      have q1 : (p.n != 1) = true := by rw [bne_iff_ne]; exact hn
      clear hn hgd
      go_enter Try.func57, Try.ntmps57
      go_wp2_with fail
      go_at_call 101
      generalize hw1 : World.alloc (World.alloc w _) _ = w1
      obtain ⟨x0, x1, x2, r0, xs, xb⟩ := boxesPC hw1
      clear hw1
      refine (IP.out _ xb).mono ?_
      rintro e w2 ⟨rfl, hb2⟩
      have y0 := (hb2.cell (p := ⟨w.heap.size, 0, none⟩) (by simp only []; omega)).trans x0
      have y1 := (hb2.cell (p := ⟨w.heap.size, 1, none⟩) (by simp only []; omega)).trans x1
      have y2 := (hb2.cell (p := ⟨w.heap.size, 2, none⟩) (by simp only []; omega)).trans x2
      have r1 := (hb2.block (w.heap.size + 1) (by omega)).trans r0
      have HB2 := Lib.hid (xb.trans (hb2.mono (show w.heap.size ≤ w1.heap.size by omega)))
      have hs2 : w.heap.size + 2 ≤ w2.heap.size := by have := hb2.size; omega
      obtain ⟨t0, t1⟩ := cells2 r1
      obtain ⟨g0, g1⟩ := frz2 r1
      clear x0 x1 x2 r0 xs xb hb2 r1 hs2
      go_wp2
      refine bodyPost_ret (v := .tuple #[zeroK, .bool false]) (by simp [results, Try.results57, go_sem, t0, t1]) rfl (BAD.out _ E.out ?_)
      exact (HB2.out.setCell (by simp) _).setCell (by simp) _
    rw [hn] at IP
    rw [hn]
    by_cases ho : p.o.length = 1
    case neg =>
      have E := Lib.hid (show cpB p = false by rw [EB.out, decide_eq_false ho]; simp)
      have q1 : ((p.o.length : Int) != 1) = true := by rw [bne_iff_ne]; omega
      clear hn ho hgd
      go_enter Try.func57, Try.ntmps57
      go_wp2_with fail
      go_at_call 101
      generalize hw1 : World.alloc (World.alloc w _) _ = w1
      obtain ⟨x0, x1, x2, r0, xs, xb⟩ := boxesPC hw1
      clear hw1
      refine (IP.out _ xb).mono ?_
      rintro e w2 ⟨rfl, hb2⟩
      have y0 := (hb2.cell (p := ⟨w.heap.size, 0, none⟩) (by simp only []; omega)).trans x0
      have y1 := (hb2.cell (p := ⟨w.heap.size, 1, none⟩) (by simp only []; omega)).trans x1
      have y2 := (hb2.cell (p := ⟨w.heap.size, 2, none⟩) (by simp only []; omega)).trans x2
      have r1 := (hb2.block (w.heap.size + 1) (by omega)).trans r0
      have HB2 := Lib.hid (xb.trans (hb2.mono (show w.heap.size ≤ w1.heap.size by omega)))
      have hs2 : w.heap.size + 2 ≤ w2.heap.size := by have := hb2.size; omega
      obtain ⟨t0, t1⟩ := cells2 r1
      obtain ⟨g0, g1⟩ := frz2 r1
      clear x0 x1 x2 r0 xs xb hb2 r1 hs2
      go_wp2
      refine bodyPost_ret (v := .tuple #[zeroK, .bool false]) (by simp [results, Try.results57, go_sem, t0, t1]) rfl (BAD.out _ E.out ?_)
      exact (HB2.out.setCell (by simp) _).setCell (by simp) _
    have EB2 := Lib.hid (show cpB p = cdB (cpC p) by rw [EB.out, hgd, decide_eq_true hn, decide_eq_true ho]; rfl)
    have HO := Lib.hid ho
    have HR2 := Lib.hid H.out.2
    rw [ho] at IP
    rw [ho]
    clear hn ho GF hgd EB BAD
    go_enter Try.func57, Try.ntmps57
    go_wp2_with fail
    go_at_call 101
    generalize hw1 : World.alloc (World.alloc w _) _ = w1
    obtain ⟨x0, x1, x2, r0, xs, xb⟩ := boxesPC hw1
    clear hw1
    refine (IP.out _ xb).mono ?_
    rintro e w2 ⟨rfl, hb2⟩
    have y0 := (hb2.cell (p := ⟨w.heap.size, 0, none⟩) (by simp only []; omega)).trans x0
    have y1 := (hb2.cell (p := ⟨w.heap.size, 1, none⟩) (by simp only []; omega)).trans x1
    have y2 := (hb2.cell (p := ⟨w.heap.size, 2, none⟩) (by simp only []; omega)).trans x2
    have r1 := (hb2.block (w.heap.size + 1) (by omega)).trans r0
    have HB2 := Lib.hid (xb.trans (hb2.mono (show w.heap.size ≤ w1.heap.size by omega)))
    have hs2 : w.heap.size + 2 ≤ w2.heap.size := by have := hb2.size; omega
    have R1 := Lib.hid r1
    clear x0 x1 x2 r0 xs xb hb2 r1
    obtain ⟨ob, oo, eo, hob, hoc⟩ := (HR2.out.below' HB2.out hB).int (show 0 < p.o.length by rw [HO.out]; omega)
    subst eo
    obtain ⟨X, hX⟩ : ∃ X, p.o[0]'(by rw [HO.out]; omega) = X := ⟨_, rfl⟩
    rw [hX] at hoc
    have OUT := Lib.hid (show (cpC p).out = X by
      show p.o.getD 0 0 = X
      rw [List.getD_eq_getElem?_getD, List.getElem?_eq_getElem (show 0 < p.o.length by rw [HO.out]; omega)]
      exact hX)
    have HOC := Lib.hid hoc
    clear hX hoc
    have k1 := cell_kept y1
    go_wp2
    clear k1
    generalize hw3 : World.alloc w2 _ = w3
    have m3 : w3.heap[w2.heap.size]? = some (.cells #[.slice none 0 0] 111 (0, 0)) := by rw [← hw3]; exact heap_alloc_new w2 _
    have b3 : Below w2.heap.size w2 w3 := by rw [← hw3]; exact (Below.refl _ _).alloc (Nat.le_refl _) _
    have s3 : w3.heap.size = w2.heap.size + 1 := by rw [← hw3]; simp
    have MK3 := Lib.hid (show MkC w3 w2.heap.size (w2.heap.size + 1) (cpS (p.s.take 0)) from ⟨none, 0, m3, OwO.nil _ _⟩)
    have B3 := Lib.hid b3
    have Y0 := Lib.hid y0
    have Y1 := Lib.hid y1
    have Y2 := Lib.hid y2
    obtain ⟨g, hg⟩ : ∃ g, w2.heap.size = g := ⟨_, rfl⟩
    rw [hg] at MK3 B3 s3 hs2 ⊢
    have hg' := Lib.hid hg
    clear hw3 m3 b3 hg y0 y1 y2
    go_loopw [25] (fun iv wr => ∃ k : Nat, k ≤ p.s.length ∧ iv = .int .i64 (k : Int) ∧ MkC wr g (g + 1) (cpS (p.s.take k)) ∧ Below g w3 wr) (fun i _ => p.s.length - (intOf i).toNat)
    case atStart => exact ⟨0, by omega, rfl, MK3.out, Below.refl _ _⟩
    case round =>
      obtain ⟨k, hk, rfl, hmk, hbel⟩ := hrel
      have hsz := hbel.size
      have HBW := Lib.hid (show Below w.heap.size w wr from HB2.out.trans ((B3.out.mono (by omega)).trans (hbel.mono (by omega))))
      by_cases hlt : k < p.s.length
      · obtain ⟨sb, off, rfl, hsb, hc1, hc2⟩ := ((H.out.1.below' HBW.out hB)).stp hlt
        have ik : (k : Int) < (p.s.length : Int) := by omega
        have PR := Lib.hid (fun (W : World) (hb : Below wr.heap.size wr W) => mkProduct_any g (g + 1) (cpS (p.s.take k)) (p.s[k]).1 (p.s[k]).2 W (by omega) (by have := hb.size; omega) (by rw [cpS_len, List.length_take]; omega) (by
          obtain ⟨A0, c0, h1, h2⟩ := hmk
          exact ⟨A0, c0, (hb.block g (by omega)).trans h1, own_below h2 hb⟩))
        have SN := Lib.hid (cpS_snoc hlt)
        obtain ⟨⟨a, b⟩, hab⟩ : ∃ x, p.s[k] = x := ⟨_, rfl⟩
        rw [hab] at hc1 hc2 PR SN
        simp only at hc1 hc2
        have BEL := Lib.hid hbel
        clear hab hmk hbel
        go_wp2_with fail
        go_at_call 102
        generalize hw5 : World.alloc wr _ = w5
        have hb5 : Below wr.heap.size wr w5 := by rw [← hw5]; exact (Below.refl _ _).alloc (Nat.le_refl _) _
        clear hw5
        refine (PR.out _ hb5).mono ?_
        rintro e w6 ⟨rfl, hm6, hb6⟩
        have M6 := Lib.hid hm6
        have B6 := Lib.hid (BEL.out.trans ((hb5.mono (by omega)).trans hb6))
        clear hm6 hb5 hb6
        go_wp2
        go_roundw
        case rel => exact ⟨k + 1, by omega, by go_num, by rw [SN.out]; exact M6.out, B6.out⟩
        case measure => simp [intOf]; omega
      · have hk' : k = p.s.length := by omega
        subst hk'
        rw [List.take_length] at hmk
        obtain ⟨A5, c5, hm5, ho5⟩ := hmk
        have z1 := (hbel.cell (p := ⟨w.heap.size, 2, none⟩) (by simp only []; omega)).trans ((B3.out.cell (p := ⟨w.heap.size, 2, none⟩) (by simp only []; omega)).trans Y2.out)
        have r1 := (hbel.block (w.heap.size + 1) (by omega)).trans ((B3.out.block (w.heap.size + 1) (by omega)).trans R1.out)
        have hocw := (hbel.cell (p := ⟨ob, oo + 0, none⟩) (by simp only []; omega)).trans ((B3.out.cell (p := ⟨ob, oo + 0, none⟩) (by simp only []; omega)).trans HOC.out)
        have hocv := hocw
        rw [Nat.add_zero] at hocv
        have m1 := (cell1 hm5).1
        have EC := Lib.hid (show cpC p = ⟨cpS p.s, X⟩ by
          have h := OUT.out
          unfold cpC at h ⊢
          simp only at h
          rw [h])
        have CN := fun (W : World) (hb : Below wr.heap.size wr W) => codeOrNone_any W.heap.size A5 c5 ⟨cpS p.s, X⟩ W (Nat.le_refl _) (by show (cpS p.s).length ≤ _; rw [cpS_len]; omega) (OwO.cap ho5) ((show RdD wr wr.heap.size A5 ⟨cpS p.s, X⟩ from Rd.of_own ho5).below hb |>.more (by have := hb.size; omega))
        have EB3 := EB2.out
        rw [EC.out] at EB3
        obtain ⟨t, ht⟩ : ∃ t, cdB ⟨cpS p.s, X⟩ = t := ⟨_, rfl⟩
        rw [ht] at EB3
        have ER := Lib.hid (show cpR p = if t then ⟨cpS p.s, X⟩ else zeroCd by unfold cpR; rw [EB3, EC.out])
        have EBT := Lib.hid EB3
        simp only [ht] at CN
        obtain ⟨n, hn⟩ : ∃ n, (cpS p.s).length = n := ⟨_, rfl⟩
        rw [hn] at m1
        simp only [hn] at CN
        have CN := Lib.hid CN
        have O5 := Lib.hid ho5
        have HN := Lib.hid hn
        have RR := Lib.hid r1
        clear hm5 ho5 hbel hocw ht EB3 hn r1
        cases t with
        | false =>
          simp only [selC, Bool.false_eq_true, if_false] at CN
          go_wp2
          refine wp_region_Tw [0, 1, 2, 3, 4, 5, 6, 8, 9, 11] [1, 3, 5] (.lp 0 (.lp 2 (.ls 1 (.ls 3 (.lp 4 (.ls 5 (.lp 6 (.hv 7 (.lp 8 (.lp 9 (.hv 10 (.lp 11 (.done))))))))))))) (by kernel_rfl) (by kernel_rfl) ?_
          (repeat (first | (refine T_lp rfl (fun K hK => ?_); go_simp; refine hK _ ?_; clear hK K) | (refine T_ls rfl rfl (fun K hK => ?_); go_simp; refine hK _ ?_; clear hK K)))
          (refine T_hv rfl (by kernel_rfl) (fun K hK => ?_); go_simp)
          go_at_call 103
          generalize hwd : World.drew wr = wd
          have hbd : Below wr.heap.size wr wd := by rw [← hwd]; exact (Below.refl _ _).drew
          clear hwd
          refine (CN.out wd hbd).mono ?_
          rintro e w7 ⟨rfl, hb7⟩
          have hbd7 : Below wr.heap.size wr w7 := hbd.trans (hb7.mono hbd.size)
          have r7 := (hbd7.block (w.heap.size + 1) (by omega)).trans RR.out
          obtain ⟨t0, t1⟩ := cells2 r7
          obtain ⟨g0, g1⟩ := frz2 r7
          have R7 := Lib.hid r7
          have O7 := Lib.hid (show w7.ownsRow (g + 1) 80 3 (.slice A5 n c5) n (fl3 (cpS p.s)) from by have h := own_below O5.out hbd7; rw [HN.out] at h; exact h)
          have BW7 := Lib.hid (HBW.out.trans (hbd7.mono (by omega)))
          clear hbd hb7 hbd7 r7
          (go_simp; refine hK _ _ ?_; clear hK K)
          (repeat (refine T_lp rfl (fun K hK => ?_); go_simp; refine hK _ ?_; clear hK K))
          (refine T_hv rfl (by kernel_rfl) (fun K hK => ?_); go_simp; refine hK _ _ ?_; clear hK K)
          (repeat (refine T_lp rfl (fun K hK => ?_); go_simp; refine hK _ ?_; clear hK K))
          refine T_done ?_
          go_wp2
          refine bodyPost_ret (v := .tuple #[zeroK, .bool false]) (by simp [results, Try.results57, go_sem, t0, t1]) rfl ?_
          have er : cpR p = zeroCd := by rw [ER.out]; rfl
          rw [er, EBT.out]
          exact ⟨none, 0, rfl, OwD.zero _ _, (BW7.out.setCell (by simp) _).setCell (by simp) _⟩
        | true =>
          simp only [selC, if_true] at CN
          go_wp2
          refine wp_region_Tw [0, 1, 2, 3, 4, 5, 6, 8, 9, 11] [1, 3, 5] (.lp 0 (.lp 2 (.ls 1 (.ls 3 (.lp 4 (.ls 5 (.lp 6 (.hv 7 (.lp 8 (.lp 9 (.hv 10 (.lp 11 (.done))))))))))))) (by kernel_rfl) (by kernel_rfl) ?_
          (repeat (first | (refine T_lp rfl (fun K hK => ?_); go_simp; refine hK _ ?_; clear hK K) | (refine T_ls rfl rfl (fun K hK => ?_); go_simp; refine hK _ ?_; clear hK K)))
          (refine T_hv rfl (by kernel_rfl) (fun K hK => ?_); go_simp)
          go_at_call 103
          generalize hwd : World.drew wr = wd
          have hbd : Below wr.heap.size wr wd := by rw [← hwd]; exact (Below.refl _ _).drew
          clear hwd
          refine (CN.out wd hbd).mono ?_
          rintro e w7 ⟨rfl, hb7⟩
          have hbd7 : Below wr.heap.size wr w7 := hbd.trans (hb7.mono hbd.size)
          have r7 := (hbd7.block (w.heap.size + 1) (by omega)).trans RR.out
          obtain ⟨t0, t1⟩ := cells2 r7
          obtain ⟨g0, g1⟩ := frz2 r7
          have R7 := Lib.hid r7
          have O7 := Lib.hid (show w7.ownsRow (g + 1) 80 3 (.slice A5 n c5) n (fl3 (cpS p.s)) from by have h := own_below O5.out hbd7; rw [HN.out] at h; exact h)
          have BW7 := Lib.hid (HBW.out.trans (hbd7.mono (by omega)))
          clear hbd hb7 hbd7 r7
          (go_simp; refine hK _ _ ?_; clear hK K)
          (repeat (refine T_lp rfl (fun K hK => ?_); go_simp; refine hK _ ?_; clear hK K))
          (refine T_hv rfl (by kernel_rfl) (fun K hK => ?_); go_simp; refine hK _ _ ?_; clear hK K)
          (repeat (refine T_lp rfl (fun K hK => ?_); go_simp; refine hK _ ?_; clear hK K))
          refine T_done ?_
          go_wp2
          refine bodyPost_ret (v := .tuple #[.agg #[.slice A5 n c5, .int .i64 X], .bool true]) (by simp [results, Try.results57, go_sem, t0, t1]) rfl ?_
          have er : cpR p = ⟨cpS p.s, X⟩ := by rw [ER.out]; rfl
          rw [er, EBT.out]
          refine ⟨A5, c5, by rw [← HN.out], ?_, (BW7.out.setCell (by simp) _).setCell (by simp) _⟩
          have h := own_base (own_set2 O7.out R7.out (by decide) (.slice A5 n c5) (.int .i64 X)) (show w.heap.size ≤ g + 1 by omega)
          unfold OwD OwO
          show World.ownsRow _ _ _ _ (.slice A5 (cpS p.s).length c5) (cpS p.s).length (fl3 (cpS p.s))
          rw [HN.out]
          exact h
end Go.Proofs.Ytpopomcaknbhnaa
