/- PickOutputs, of the model and of the program. -/
import Derived.Test.YtppfpdobdoaoiabPa
namespace Go.Proofs.Ytppfpdobdoaoiab
open Go.RowKit

theorem pickB_bad {p : Pl} {l : List Int} (h : pickB p l = false) : pickR p l = zeroQ := by
  unfold pickR
  rw [if_neg (by rw [h]; decide)]
theorem pickB_good {p : Pl} {l : List Int} (h : pickB p l = true) : pickR p l = ⟨p.n, p.s, pickO p l l.length⟩ := by
  unfold pickR
  rw [if_pos h]

set_option maxRecDepth 100000 in
set_option maxHeartbeats 4000000 in
theorem specPick_any (B : Nat) (A1 A2 AL : Option Addr) (c1 c2 cl : Nat) (p : Pl) (l : List Int) (w : World) (hB : B ≤ w.heap.size) (hls : p.s.length ≤ 2000000) (hlo : p.o.length ≤ 2000000) (hll : l.length ≤ 1048576) (_hcap : l.length ≤ cl) (hr : RdP w B A1 A2 p) (hrl : Rd w B 1 AL l.length (l.map I)) :
    Calls Try.prog 14 #[.agg #[.int .i64 p.n, .slice A1 p.s.length c1, .slice A2 p.o.length c2], .slice AL l.length cl] w fun e w' =>
      ∃ B1 B2 d1 d2, e = .returned (.tuple #[.agg #[.int .i64 (pickR p l).n, .slice B1 (pickR p l).s.length d1, .slice B2 (pickR p l).o.length d2], .bool (pickB p l)]) ∧ OwP w' w.heap.size B1 B2 d1 d2 (pickR p l) ∧ Below w.heap.size w w' := by
  have H := Lib.hid hr
  have HL := Lib.hid hrl
  clear hr hrl
  obtain ⟨gd, hgd⟩ : ∃ x, good p = x := ⟨_, rfl⟩
  have HG := Lib.hid hgd
  go_enter Try.func14, Try.ntmps14
  go_wp2_with fail
  go_at_call 26
  generalize hw1 : World.alloc (World.alloc w _) _ = w1
  obtain ⟨q0, q1, xs, xb⟩ := boxes2b hw1
  clear hw1
  have hC := plGood_any w.heap.size A1 A2 c1 c2 p w1 (by omega) hls hlo ((H.out.below' xb hB).more hB)
  rw [hgd] at hC
  refine hC.mono ?_
  rintro e w2 ⟨rfl, hb2⟩
  clear hC hgd
  have r0 := (hb2.block w.heap.size (by omega)).trans q0
  have r1 := (hb2.block (w.heap.size + 1) (by omega)).trans q1
  obtain ⟨y0, y1, y2, _, _, _⟩ := cells3b r0
  obtain ⟨t0, t1, t2, g0, g1, g2⟩ := cells3b r1
  have HB2 := Lib.hid (xb.trans (hb2.mono (show w.heap.size ≤ w1.heap.size by omega)))
  have hs2 : w.heap.size + 2 ≤ w2.heap.size := by have := hb2.size; omega
  have R0 := Lib.hid r0
  have R1 := Lib.hid r1
  clear q0 q1 xs xb hb2 r0 r1
  cases gd with
  | false =>
    have hb : pickB p l = false := by simp [pickB, HG.out]
    have HBF := Lib.hid hb
    have EA := Lib.hid (pickB_bad hb)
    clear hb
    go_wp2
    refine bodyPost_ret (v := .tuple #[.agg #[.int .i64 0, .slice none 0 0, .slice none 0 0], .bool false]) (by simp [results, Try.results14, go_sem, t0, t1, t2]) rfl ⟨none, none, 0, 0, by rw [EA.out, HBF.out]; rfl, by rw [EA.out]; exact OwP.zeroQ _ _, ?_⟩
    exact ((HB2.out.setCell (by simp) _).setCell (by simp) _).setCell (by simp) _
  | true =>
    obtain ⟨N, hN, n1, n6, hs40, ho6, hok, hout, _⟩ := good_facts HG.out
    clear hok hout hN n1 n6
    have hC := fun W hrW => l1All_any B AL cl l 0 ((p.o.length : Int) - 1) W (by omega) hrW
    cases ha : allB l 0 ((p.o.length : Int) - 1) with
    | false =>
      have hb : pickB p l = false := by simp [pickB, ha]
      have HBF := Lib.hid hb
      have EA := Lib.hid (pickB_bad hb)
      rw [ha] at hC
      have HC := Lib.hid hC
      clear hb ha hC
      go_wp2_with (go_at_call 41; refine (HC.out _ (HL.out.below' HB2.out hB)).mono ?_; rintro e w' ⟨rfl, rfl⟩)
      refine bodyPost_ret (v := .tuple #[.agg #[.int .i64 0, .slice none 0 0, .slice none 0 0], .bool false]) (by simp [results, Try.results14, go_sem, t0, t1, t2]) rfl ⟨none, none, 0, 0, by rw [EA.out, HBF.out]; rfl, by rw [EA.out]; exact OwP.zeroQ _ _, ?_⟩
      exact ((HB2.out.setCell (by simp) _).setCell (by simp) _).setCell (by simp) _
    | true =>
      have hgp := good_pick HG.out ha
      have hin := all_in ha
      have hpb : pickB p l = decide (l.length ≤ 6) := by simp [pickB, HG.out, ha]
      rw [ha] at hC
      have HC := Lib.hid hC
      have HGP := Lib.hid hgp
      have HIN := Lib.hid hin
      have HPB := Lib.hid hpb
      clear ha hC hgp hin hpb t0 t1 t2 g0 g1 g2
      go_wp2_with fail
      go_at_call 41
      refine (HC.out w2 (HL.out.below' HB2.out hB)).mono ?_
      rintro e w' ⟨rfl, rfl⟩
      go_wp2_with fail
      go_at_call 42
      refine (plOwn_any B A1 A2 c1 c2 p w2 (by omega) (by omega) (by omega) (H.out.below' HB2.out hB)).mono ?_
      rintro e w3 ⟨B1, B2', d1, d2', rfl, hown3, hb3⟩
      have hs3 : w2.heap.size ≤ w3.heap.size := hb3.size
      have OS3 := Lib.hid hown3.1
      have HB3 := Lib.hid (HB2.out.trans (hb3.mono (by omega)))
      have R03 := Lib.hid ((hb3.block w.heap.size (by omega)).trans R0.out)
      have R13 := Lib.hid ((hb3.block (w.heap.size + 1) (by omega)).trans R1.out)
      clear hown3 hb3 y0 y1 y2
      go_wp2
      generalize hw4 : World.alloc w3 _ = w4
      have q4 : w4.heap[w3.heap.size]? = some (.cells #[.int .i64 p.n, .slice B1 p.s.length d1, .slice none 0 0] 29 (0, 0)) := by
        rw [← hw4]; exact heap_alloc_new w3 _
      have hb4 : Below w3.heap.size w3 w4 := by rw [← hw4]; exact (Below.refl _ _).alloc (Nat.le_refl _) _
      have hs4 : w4.heap.size = w3.heap.size + 1 := by rw [← hw4]; simp
      clear hw4
      have Q4 := Lib.hid q4
      have HB4 := Lib.hid hb4
      clear q4 hb4
      go_loopw [27] (fun iv wr => ∃ (k : Nat) (B2 : Option Addr) (d2 : Nat), k ≤ l.length ∧ iv = .int .i64 k ∧ wr.heap[w3.heap.size]? = some (.cells #[.int .i64 p.n, .slice B1 p.s.length d1, .slice B2 k d2] 29 (0, 0)) ∧
        wr.ownsRow (w3.heap.size + 1) 3 1 (.slice B2 k d2) k ((pickO p l k).map I) ∧ Below w3.heap.size w3 wr) (fun i _ => l.length - (intOf i).toNat)
      case atStart => exact ⟨0, none, 0, by omega, rfl, Q4.out, World.ownsRow_nil _ _ _ _, HB4.out⟩
      case round =>
        obtain ⟨k, B2, d2, hk, rfl, hbox, hown, hbel⟩ := hrel
        have hszr : w3.heap.size + 1 ≤ wr.heap.size := (Array.getElem?_eq_some_iff.1 hbox).1
        obtain ⟨a0, a1, a2, _, _, _⟩ := cells3b ((hbel.block w.heap.size (by omega)).trans R03.out)
        obtain ⟨b0, b1, b2, _, _, _⟩ := cells3b hbox
        by_cases hlt : k < l.length
        · obtain ⟨o1, o2⟩ := HIN.out _ (List.getElem_mem hlt)
          obtain ⟨v, hv⟩ : ∃ v : Nat, l[k] = v := ⟨(l[k]).toNat, by omega⟩
          have hvl : v < p.o.length := by omega
          have ivl : (v : Int) < (p.o.length : Int) := by omega
          have hbw : Below w.heap.size w wr := HB3.out.trans (hbel.mono (by omega))
          obtain ⟨lb, lo, rfl, hlb, hlc⟩ := (HL.out.below' hbw hB).int hlt
          rw [hv] at hlc
          obtain ⟨ob, oo, rfl, hob, hoc⟩ := (H.out.below' hbw hB).2.int hvl
          have hst := pickO_succ hlt hv hvl
          have HST := Lib.hid hst
          have OWN := Lib.hid hown
          have HBX := Lib.hid hbox
          have HBL := Lib.hid hbel
          have FS := Lib.hid (show ∀ x, Below wr.heap.size wr x → x.cell? ⟨w.heap.size, 2, none⟩ = some (.slice (some ⟨ob, oo, none⟩) p.o.length c2) ∧ x.cell? ⟨w3.heap.size, 2, none⟩ = some (.slice B2 k d2) ∧ x.cell? ⟨ob, oo + v, none⟩ = some (.int .i64 p.o[v]) from fun x hx =>
            ⟨(hx.cell (p := ⟨w.heap.size, 2, none⟩) (by simp only []; omega)).trans a2, (hx.cell (p := ⟨w3.heap.size, 2, none⟩) (by simp only []; omega)).trans b2, (hx.cell (p := ⟨ob, oo + v, none⟩) (by simp only []; omega)).trans hoc⟩)
          have S0 := Lib.hid (show Below wr.heap.size wr wr.drew from (Below.refl _ _).drew)
          clear hst hown hbox hbel hv o1 o2 hbw a0 a1 a2 b0 b1 b2 hoc
          go_wp2
          refine wp_region_T (fun x : World => Below wr.heap.size wr x) [0, 1, 2, 3, 4, 5, 6, 9] [1, 3, 6] (.lp 0 (.lp 2 (.lp 4 (.ls 1 (.ls 3 (.lp 5 (.ls 6 (.hv 7 (.hv 8 (.lp 9 (.hv 10 (.done)))))))))))) (by kernel_rfl) (by kernel_rfl) ?_
          (repeat (refine T_lp rfl (fun K hK => ?_); go_simp; refine hK _ ?_; clear hK K))
          refine T_ls1 (v := .slice B2 k d2) rfl rfl S0.out (fun x hx => (by obtain ⟨h0, h1, h2⟩ := FS.out x hx; go_simp)) (fun K hK => ?_)
          (go_simp; refine hK _ ?_; clear hK K)
          refine T_ls1 (v := .slice (some ⟨ob, oo, none⟩) p.o.length c2) rfl rfl S0.out (fun x hx => (by obtain ⟨h0, h1, h2⟩ := FS.out x hx; go_simp)) (fun K hK => ?_)
          (go_simp; refine hK _ ?_; clear hK K)
          (repeat (refine T_lp rfl (fun K hK => ?_); go_simp; refine hK _ ?_; clear hK K))
          refine T_ls1 (v := .int .i64 p.o[v]) rfl rfl S0.out (fun x hx => (by obtain ⟨h0, h1, h2⟩ := FS.out x hx; go_simp)) (fun K hK => ?_)
          (go_simp; refine hK _ ?_; clear hK K)
          refine T_hvS rfl (fun K hK => ?_)
          go_simp
          refine hK _ _ (S0.out.alloc (Nat.le_refl _) _) ?_
          clear hK K
          refine T_hv rfl (by kernel_rfl) (fun K hK => ?_)
          refine step_app1 Try.underlying23 info_int rfl (by omega) rfl (.tmp 32) (.tmp 38) rfl (w3.heap.size + 1) k _ ((pickO p l k).map I) rfl (World.ownsRow.alloc OWN.out _) wr.heap.size 1 (I p.o[v]) rfl (by simp) rfl (by omega) (by simp; omega) ?_
          intro A4 c4 w8 hown8 hg8 hbel8
          have bx8 : w8.heap[w3.heap.size]? = _ := (hbel8.block w3.heap.size (by omega)).trans ((Below.heap_alloc wr _ w3.heap.size (by omega)).trans HBX.out)
          obtain ⟨_, _, k2, _, _, f2⟩ := cells3b bx8
          have BX8 := Lib.hid bx8
          clear bx8
          (go_simp; refine hK _ _ ?_; clear hK K)
          (repeat (first | (refine T_lp rfl (fun K hK => ?_); go_simp; refine hK _ ?_; clear hK K) | (refine T_ls rfl rfl (fun K hK => ?_); go_simp; refine hK _ ?_; clear hK K)))
          (refine T_hv rfl (by kernel_rfl) (fun K hK => ?_); go_simp; refine hK _ _ ?_; clear hK K)
          refine T_done ?_
          go_wp2
          go_roundw
          case rel =>
            refine ⟨k + 1, A4, c4, by omega, by go_num, ?_, ?_, ((((HBL.out.alloc (show w3.heap.size ≤ wr.heap.size by omega) _).drew).trans (hbel8.mono (show w3.heap.size ≤ w3.heap.size + 1 by omega))).setCell (by simp) _)⟩
            · rw [heap_setCell_same w8 _ 2 _ _ _ BX8.out]; rfl
            · rw [HST.out, List.map_append]
              exact own_set (o := 2) hown8 BX8.out (by decide) (.slice A4 (k + 1) c4)
          case measure => simp [intOf]; omega
        · have hk' : k = l.length := by omega
          subst hk'
          have hpl := pickO_len p l (Nat.le_refl _)
          have r1 := (hbel.block (w.heap.size + 1) (by omega)).trans R13.out
          have hbw : Below w.heap.size w wr := HB3.out.trans (hbel.mono (by omega))
          have os := own_below OS3.out hbel
          have hq : OwP wr w.heap.size B1 B2 d1 d2 ⟨p.n, p.s, pickO p l l.length⟩ := ⟨own_base os (by omega), by
            show World.ownsRow _ _ _ _ _ _ _
            simp only
            rw [hpl]
            exact own_base hown (by omega)⟩
          have hif := plIf_any wr.heap.size B1 B2 d1 d2 ⟨p.n, p.s, pickO p l l.length⟩ wr (Nat.le_refl _) (by simp only; omega) (by simp only; rw [hpl]; omega) hq.rd
          rw [HGP.out] at hif
          simp only [hpl] at hif
          have HIF := Lib.hid hif
          have HQ := Lib.hid hq
          have HPL := Lib.hid hpl
          have HBW := Lib.hid hbw
          have R1r := Lib.hid r1
          clear hif hq hpl hbw r1 os hown hbox hbel a0 a1 a2
          by_cases h6 : l.length ≤ 6
          · have hd : decide (l.length ≤ 6) = true := by simpa using h6
            have HPB2 := Lib.hid (HPB.out.trans hd)
            have hif := HIF.out
            rw [hd] at hif
            have HIF2 := Lib.hid hif
            have EA := Lib.hid (pickB_good HPB2.out)
            clear hif hd
            go_wp2_with fail
            go_at_call 29
            refine HIF2.out.mono ?_
            rintro e w9 ⟨rfl, hb9⟩
            have r9 := (hb9.block (w.heap.size + 1) (by omega)).trans R1r.out
            obtain ⟨t0, t1, t2, g0, g1, g2⟩ := cells3b r9
            have R9 := Lib.hid r9
            have HQ9 := Lib.hid (HQ.out.below hb9)
            have HB9 := Lib.hid (HBW.out.trans (hb9.mono (by omega)))
            clear r9 hb9 b0 b1 b2
            simp only [selV, if_true]
            go_wp2
            refine bodyPost_ret (v := .tuple #[.agg #[.int .i64 p.n, .slice B1 p.s.length d1, .slice B2 l.length d2], .bool true]) (by simp [results, Try.results14, go_sem, t0, t1, t2]) rfl ⟨B1, B2, d1, d2, ?_, ?_, ?_⟩
            · rw [EA.out, HPB2.out]
              simp only
              rw [HPL.out]
            · rw [EA.out]
              exact ⟨own_set3 HQ9.out.1 R9.out (by decide) _ _ _, own_set3 HQ9.out.2 R9.out (by decide) _ _ _⟩
            · exact ((HB9.out.setCell (by simp) _).setCell (by simp) _).setCell (by simp) _
          · have hd : decide (l.length ≤ 6) = false := by simpa using h6
            have HPB2 := Lib.hid (HPB.out.trans hd)
            have hif := HIF.out
            rw [hd] at hif
            have HIF2 := Lib.hid hif
            have EA := Lib.hid (pickB_bad HPB2.out)
            clear hif hd
            go_wp2_with fail
            go_at_call 29
            refine HIF2.out.mono ?_
            rintro e w9 ⟨rfl, hb9⟩
            have r9 := (hb9.block (w.heap.size + 1) (by omega)).trans R1r.out
            obtain ⟨t0, t1, t2, g0, g1, g2⟩ := cells3b r9
            have HB9 := Lib.hid (HBW.out.trans (hb9.mono (by omega)))
            clear r9 hb9 b0 b1 b2
            simp only [selV, Bool.false_eq_true, if_false]
            go_wp2
            refine bodyPost_ret (v := .tuple #[.agg #[.int .i64 0, .slice none 0 0, .slice none 0 0], .bool false]) (by simp [results, Try.results14, go_sem, t0, t1, t2]) rfl ⟨none, none, 0, 0, by rw [EA.out, HPB2.out]; rfl, by rw [EA.out]; exact OwP.zeroQ _ _, ?_⟩
            exact ((HB9.out.setCell (by simp) _).setCell (by simp) _).setCell (by simp) _
end Go.Proofs.Ytppfpdobdoaoiab
