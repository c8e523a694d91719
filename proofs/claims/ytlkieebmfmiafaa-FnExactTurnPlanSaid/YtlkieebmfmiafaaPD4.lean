/- Joined: Jv Pj. -/
import Derived.Test.YtlkieebmfmiafaaPD3
import Derived.Test.YtlkieebmfmiafaaPD2
/- FoldOutputs, by the program. -/
namespace Go.Proofs.Ytlkieebmfmiafaa
open Go.RowKit

theorem mk_set0 {w : World} {g : Nat} {a b : Value} {t : TypeId} (h : w.heap[g]? = some (.cells #[a, b] t (0, 0))) (u : Value) : (w.setCell ⟨g, 0, none⟩ u).heap[g]? = some (.cells #[u, b] t (0, 0)) := by
  rw [heap_setCell_same w g 0 _ t u h]
  rfl
theorem mk_set1 {w : World} {g : Nat} {a b : Value} {t : TypeId} (h : w.heap[g]? = some (.cells #[a, b] t (0, 0))) (u : Value) : (w.setCell ⟨g, 1, none⟩ u).heap[g]? = some (.cells #[a, u] t (0, 0)) := by
  rw [heap_setCell_same w g 1 _ t u h]
  rfl
/-- The maker's block, stored. -/
theorem mk_stored {w : World} {B g : Nat} {n : Int} {s : List (Int × Int)} {A : Option Addr} {c : Nat} {a b : Value} (hg : w.heap[g]? = some (.cells #[a, b] 96 (0, 0))) (ho : OwS w B (.slice A s.length c) s) :
    MkS ((w.setCell ⟨g, 0, none⟩ (.int .i64 n)).setCell ⟨g, 1, none⟩ (.slice A s.length c)) B g n s := by
  have h0 := mk_set0 hg (.int .i64 n)
  have h1 := mk_set1 h0 (.slice A s.length c)
  exact ⟨A, c, h1, own_set (own_set ho hg (by decide) _) h0 (by decide) _⟩

set_option maxRecDepth 100000 in
set_option maxHeartbeats 4000000 in
theorem implFold_any (B : Nat) (A1 A2 : Option Addr) (c1 c2 : Nat) (p : Pl) (w : World) (hB : B ≤ w.heap.size) (hls : p.s.length ≤ 2000000) (hlo : p.o.length ≤ 2000000) (_hcap : p.o.length ≤ c2) (hr : RdP w B A1 A2 p) :
    Calls Try.prog 41 #[.agg #[.int .i64 p.n, .slice A1 p.s.length c1, .slice A2 p.o.length c2]] w fun e w' =>
      ∃ R1 R2 v1 v2, e = .returned (.tuple #[.agg #[.int .i64 (foR p).n, .slice R1 (foR p).s.length v1, .slice R2 (foR p).o.length v2], .bool (foB p)]) ∧ OwP w' w.heap.size R1 R2 v1 v2 (foR p) ∧ Below w.heap.size w w' := by
  have H := Lib.hid hr
  clear hr
  obtain ⟨gd, hgd⟩ : ∃ x, good p = x := ⟨_, rfl⟩
  have HG := Lib.hid hgd
  go_enter Try.func41, Try.ntmps41
  go_wp2_with fail
  go_at_call 80
  generalize hw1 : World.alloc (World.alloc w _) _ = w1
  obtain ⟨q0, q1, xs, xb⟩ := fo_boxes hw1
  clear hw1
  have hC := implIsPlan_any w.heap.size A1 A2 c1 c2 p w1 (by omega) hls hlo ((H.out.below' xb hB).more hB)
  rw [hgd] at hC
  refine hC.mono ?_
  rintro e w2 ⟨rfl, hb2⟩
  clear hC hgd
  have r0 := (hb2.block w.heap.size (by omega)).trans q0
  have r1 := (hb2.block (w.heap.size + 1) (by omega)).trans q1
  obtain ⟨y0, y1, y2, _, _, _⟩ := cells3 r0
  obtain ⟨t0, t1, t2, g0, g1, g2⟩ := cells3 r1
  have R0 := Lib.hid r0
  have R1 := Lib.hid r1
  have HB2 := Lib.hid (xb.trans (hb2.mono (show w.heap.size ≤ w1.heap.size by omega)))
  have hs2 : w.heap.size + 2 ≤ w2.heap.size := by have := hb2.size; omega
  clear q0 q1 xs xb hb2 r0 r1
  cases gd with
  | false =>
    obtain ⟨e1, e2⟩ := fo_not (p := p) (by rw [HG.out]; rfl)
    have EB := Lib.hid e1
    have ER := Lib.hid e2
    clear e1 e2
    go_wp2
    refine bodyPost_ret (v := .tuple #[.agg #[.int .i64 0, .slice none 0 0, .slice none 0 0], .bool false]) (by simp [results, Try.results41, go_sem, t0, t1, t2]) rfl ⟨none, none, 0, 0, by rw [ER.out, EB.out]; rfl, by rw [ER.out]; exact OwP.zero _ _, ?_⟩
    exact ((HB2.out.setCell (show w.heap.size ≤ w.heap.size + 1 by omega) _).setCell (show w.heap.size ≤ w.heap.size + 1 by omega) _).setCell (show w.heap.size ≤ w.heap.size + 1 by omega) _
  | true =>
    by_cases ho : 0 < p.o.length
    · obtain ⟨N, hN, n1, n6, hs40, ho6, _, hout, _⟩ := good_facts HG.out
      obtain ⟨e1, e2⟩ := fo_mk HG.out ho
      have EB := Lib.hid e1
      have ER := Lib.hid e2
      obtain ⟨f, l, hfl⟩ := fo_cons ho
      have hpn0 : 0 ≤ p.n := by omega
      have hpn1 : p.n ≤ 1000 := by omega
      have hf : 0 ≤ f := (hout f (by rw [hfl]; exact List.mem_cons_self)).1
      have hfold : p.o.foldl (onS p.n) (p.s, -1) = (p.o.tail).foldl (muS p.n) (p.s, p.o.headD 0) := by
        rw [hfl]
        exact on_fold0 hpn0 p.s f l hf
      have hlen := muS_fold_len p.n p.o.tail (p.s, p.o.headD 0)
      have hlt : p.o.tail.length = p.o.length - 1 := List.length_tail
      obtain ⟨y, hy⟩ : ∃ y, p.o.tail.foldl (muS p.n) (p.s, p.o.headD 0) = y := ⟨_, rfl⟩
      rw [hy] at hfold hlen
      have hyl : y.1.length ≤ 46 := by rw [hlen]; simp only; omega
      have HFO := Lib.hid hfold
      have EP := Lib.hid (show foldP p = ⟨p.n, y.1, [y.2]⟩ by unfold foldP; rw [hy])
      have hne : ((p.o.length : Int) == 0) = false := by rw [beq_eq_false_iff_ne]; omega
      have hclo := Lib.hid (fun W hW hr => cloneS_any w.heap.size A1 c1 p.s W (by omega) hW hr)
      have FS := Lib.hid (show ∀ x, Below w2.heap.size w2 x → x.cell? ⟨w.heap.size, 0, none⟩ = some (.int .i64 p.n) ∧ x.cell? ⟨w.heap.size, 1, none⟩ = some (.slice A1 p.s.length c1) from fun x hx =>
        ⟨(hx.cell (p := ⟨w.heap.size, 0, none⟩) (by simp only []; omega)).trans y0, (hx.cell (p := ⟨w.heap.size, 1, none⟩) (by simp only []; omega)).trans y1⟩)
      have S2 := Lib.hid (show Below w2.heap.size w2 w2.drew from (Below.refl _ _).drew)
      clear e1 e2 hN hfl hf hfold hlen hlt hy hout t0 t1 t2 g0 g1 g2
      go_wp2
      go_cut [4] (fun v wx => ∃ g : Nat, v = .pointer (some ⟨g, 0, none⟩) ∧ w2.heap.size ≤ g ∧ MkS wx w2.heap.size g p.n p.s ∧ Below w2.heap.size w2 wx)
      case first =>
        refine wp_region_T (fun x : World => Below w2.heap.size w2 x) [0, 1, 2, 3, 5] [1, 3] (.lp 0 (.lp 2 (.ls 1 (.ls 3 (.hv2 4 (.lp 5 (.hv 6 (.hv 7 (.done)))) 6 (.hv 4 (.lp 5 (.hv 7 (.done))))))))) (by kernel_rfl) (by kernel_rfl) ?_
        have sd := S2.out
        clear S2
        generalize World.drew w2 = wd at sd ⊢
        have HW := Lib.hid sd
        clear sd
        (repeat (refine T_lp rfl (fun K hK => ?_); go_simp; refine hK _ ?_; clear hK K))
        refine T_ls1 (v := .int .i64 p.n) rfl rfl HW.out (fun x hx => (by obtain ⟨h0, h1⟩ := FS.out x hx; go_simp)) (fun K hK => ?_)
        (go_simp; refine hK _ ?_; clear hK K)
        refine T_ls1 (v := .slice A1 p.s.length c1) rfl rfl HW.out (fun x hx => (by obtain ⟨h0, h1⟩ := FS.out x hx; go_simp)) (fun K hK => ?_)
        (go_simp; refine hK _ ?_; clear hK K)
        have hsW := HW.out.size
        refine T_hv2 ?_ ?_
        · refine T_hvS rfl (fun K hK => ?_)
          go_simp
          go_at_call 81
          refine (hclo.out wd (by omega) ((H.out.below' (HB2.out.trans (HW.out.mono (by omega))) hB).more hB).1).mono ?_
          rintro e w3 ⟨A3, c3, rfl, hos, hb3⟩
          have HW3 := Lib.hid (HW.out.trans (hb3.mono hsW))
          have OS3 := Lib.hid hos
          have hs3 := hb3.size
          clear hos hb3
          go_simp
          refine hK _ _ HW3.out ?_
          clear hK K
          (repeat (refine T_lp rfl (fun K hK => ?_); go_simp; refine hK _ ?_; clear hK K))
          refine T_hvS rfl (fun K hK => ?_)
          go_simp
          refine hK _ _ (HW3.out.alloc HW3.out.size _) ?_
          clear hK K
          generalize hwa : World.alloc w3 _ = w4
          have hbx : w4.heap[w3.heap.size]? = some (.cells #[.int .i64 0, .slice none 0 0] 96 (0, 0)) := by rw [← hwa]; exact heap_alloc_new w3 _
          have hst : Below w3.heap.size w3 w4 := by rw [← hwa]; exact (Below.refl _ _).alloc (Nat.le_refl _) _
          have hgb : w2.heap.size ≤ w3.heap.size := HW3.out.size
          clear hwa
          have OS4 := Lib.hid (own_base (own_below OS3.out hst) (show w2.heap.size ≤ wd.heap.size by omega))
          have HW4 := Lib.hid (HW3.out.trans (hst.mono hgb))
          have BX := Lib.hid hbx
          clear hbx hst
          obtain ⟨t0, t1, g0, g1⟩ := us_cells BX.out
          (refine T_hv rfl (by kernel_rfl) (fun K hK => ?_); go_simp; refine hK _ _ ?_; clear hK K)
          (repeat (refine T_lp rfl (fun K hK => ?_); go_simp; refine hK _ ?_; clear hK K))
          refine T_done ?_
          go_wp2
          go_meet
          case rel => exact ⟨w3.heap.size, rfl, hgb, mk_stored BX.out OS4.out, (HW4.out.setCell hgb _).setCell hgb _⟩
        · refine T_hvS rfl (fun K hK => ?_)
          go_simp
          refine hK _ _ (HW.out.alloc HW.out.size _) ?_
          clear hK K
          generalize hwa : World.alloc wd _ = w3
          have hbx : w3.heap[wd.heap.size]? = some (.cells #[.int .i64 0, .slice none 0 0] 96 (0, 0)) := by rw [← hwa]; exact heap_alloc_new wd _
          have hst : Below wd.heap.size wd w3 := by rw [← hwa]; exact (Below.refl _ _).alloc (Nat.le_refl _) _
          have hsz : wd.heap.size + 1 ≤ w3.heap.size := by rw [← hwa]; simp
          clear hwa
          have HW3 := Lib.hid (HW.out.trans (hst.mono hsW))
          clear hst
          refine T_hvS rfl (fun K hK => ?_)
          go_simp
          go_at_call 81
          refine (hclo.out w3 (by omega) ((H.out.below' (HB2.out.trans (HW3.out.mono (by omega))) hB).more hB).1).mono ?_
          rintro e w4 ⟨A3, c3, rfl, hos, hb4⟩
          have HW4 := Lib.hid (HW3.out.trans (hb4.mono HW3.out.size))
          have OS4 := Lib.hid (own_base hos (show w2.heap.size ≤ w3.heap.size by omega))
          have BX := Lib.hid ((hb4.block wd.heap.size (by omega)).trans hbx)
          clear hos hb4 hbx
          go_simp
          refine hK _ _ HW4.out ?_
          clear hK K
          (repeat (refine T_lp rfl (fun K hK => ?_); go_simp; refine hK _ ?_; clear hK K))
          obtain ⟨t0, t1, g0, g1⟩ := us_cells BX.out
          (refine T_hv rfl (by kernel_rfl) (fun K hK => ?_); go_simp; refine hK _ _ ?_; clear hK K)
          (repeat (refine T_lp rfl (fun K hK => ?_); go_simp; refine hK _ ?_; clear hK K))
          refine T_done ?_
          go_wp2
          go_meet
          case rel => exact ⟨wd.heap.size, rfl, hsW, mk_stored BX.out OS4.out, (HW4.out.setCell hsW _).setCell hsW _⟩
      case rest =>
        obtain ⟨g, rfl, hg, hmk, hbel⟩ := hcut
        have HB3 := Lib.hid (HB2.out.trans (hbel.mono (by omega)))
        have hs3 := hbel.size
        have R0c := (hbel.block w.heap.size (by omega)).trans R0.out
        have R1c := Lib.hid ((hbel.block (w.heap.size + 1) (by omega)).trans R1.out)
        obtain ⟨y0, y1, y2, _, _, _⟩ := cells3 R0c
        have hP := product_any w2.heap.size g p.n p.s A2 c2 p.o wc hg hmk (by omega) hpn0 hpn1 (fun W hW _ => (((H.out.2.below' HB3.out hB).below' hW (show B ≤ w2.heap.size by omega)).more (by have := hW.size; omega)))
        rw [HFO.out] at hP
        have HP := Lib.hid hP
        obtain ⟨P, hPP⟩ : ∃ P : Pl, (⟨p.n, y.1, [y.2]⟩ : Pl) = P := ⟨_, rfl⟩
        have ERt := Lib.hid (show foR p = mkR P by rw [ER.out, EP.out, hPP])
        have EGt := Lib.hid (show foB p = good P by rw [EB.out, EP.out, hPP])
        have EPP := Lib.hid hPP
        clear hmk hbel R0c hP hPP
        go_wp2_with fail
        go_at_call 82
        refine HP.out.mono ?_
        rintro e w4 ⟨rfl, hm4, hb4, _⟩
        have HB4 := Lib.hid (HB3.out.trans (hb4.mono (by omega)))
        have R4 := Lib.hid ((hb4.block (w.heap.size + 1) (by omega)).trans R1c.out)
        have M4 := Lib.hid hm4
        have hs4 := hb4.size
        clear hm4 hb4 y0 y1 y2
        go_wp2_with fail
        go_at_call 83
        generalize hw5 : World.alloc w4 _ = w5
        obtain ⟨ho5, hb5⟩ := one_new hw5
        clear hw5
        have M5 := M4.out.below hb5
        have hs5 := hb5.size
        have HB5 := Lib.hid (HB4.out.trans (hb5.mono (by omega)))
        have R5 := Lib.hid ((hb5.block (w.heap.size + 1) (by omega)).trans R4.out)
        refine (makerPlan_any w2.heap.size g (some ⟨w4.heap.size, 0, none⟩) 1 ⟨p.n, y.1, [y.2]⟩ w5 hg M5 (own_base ho5 (by omega)) (by show y.1.length ≤ 1000; omega) (by simp)).mono ?_
        rintro e w6 ⟨X1, X2, v1, v2, rfl, hres, hb6⟩
        have HB6 := Lib.hid (HB5.out.trans (hb6.mono (by omega)))
        have R6 := Lib.hid ((hb6.block (w.heap.size + 1) (by omega)).trans R5.out)
        rw [EPP.out] at hres ⊢
        rw [← ERt.out] at hres
        rw [← ERt.out, ← EGt.out]
        obtain ⟨t0, t1, t2, g0, g1, g2⟩ := cells3 R6.out
        have RES := Lib.hid hres
        clear hres hb6 ho5 hb5 M5
        go_wp2
        refine bodyPost_ret (v := .tuple #[.agg #[.int .i64 (foR p).n, .slice X1 (foR p).s.length v1, .slice X2 (foR p).o.length v2], .bool (foB p)]) (by simp [results, Try.results41, go_sem, t0, t1, t2]) rfl ⟨X1, X2, v1, v2, rfl, ?_, ?_⟩
        · exact owP_of3 (own_base RES.out.1 (by omega)) (own_base RES.out.2 (by omega)) R6.out (by decide) (by decide) rfl rfl _ _ _
        · exact ((HB6.out.setCell (show w.heap.size ≤ w.heap.size + 1 by omega) _).setCell (show w.heap.size ≤ w.heap.size + 1 by omega) _).setCell (show w.heap.size ≤ w.heap.size + 1 by omega) _
    · have ho0 : p.o.length = 0 := by omega
      obtain ⟨e1, e2⟩ := fo_not (p := p) (by rw [HG.out, decide_eq_false ho]; rfl)
      have EB := Lib.hid e1
      have ER := Lib.hid e2
      have hne : ((p.o.length : Int) == 0) = true := by rw [beq_iff_eq]; omega
      clear e1 e2 ho0
      go_wp2
      refine bodyPost_ret (v := .tuple #[.agg #[.int .i64 0, .slice none 0 0, .slice none 0 0], .bool false]) (by simp [results, Try.results41, go_sem, t0, t1, t2]) rfl ⟨none, none, 0, 0, by rw [ER.out, EB.out]; rfl, by rw [ER.out]; exact OwP.zero _ _, ?_⟩
      exact ((HB2.out.setCell (show w.heap.size ≤ w.heap.size + 1 by omega) _).setCell (show w.heap.size ≤ w.heap.size + 1 by omega) _).setCell (show w.heap.size ≤ w.heap.size + 1 by omega) _
end Go.Proofs.Ytlkieebmfmiafaa
/- TurnPlan, of the model and of the program. -/
namespace Go.Proofs.Ytlkieebmfmiafaa
open Go.RowKit

def tuB (p : Pl) : Bool := canR p && good (turnP p p.n.toNat)
def tuR (p : Pl) : Pl := if tuB p then turnP p p.n.toNat else zeroP
theorem tu_not {p : Pl} (h : canR p = false) : tuB p = false ∧ tuR p = zeroP := by
  have h1 : tuB p = false := by unfold tuB; rw [h]; rfl
  exact ⟨h1, by unfold tuR; rw [h1]; rfl⟩
theorem tu_yes {p : Pl} {N : Nat} (h : canR p = true) (hN : p.n = N) : tuB p = good (turnP p N) ∧ tuR p = mkR (turnP p N) := by
  have hn : p.n.toNat = N := by omega
  have h1 : tuB p = good (turnP p N) := by unfold tuB; rw [h, hn]; rfl
  exact ⟨h1, by unfold tuR mkR; rw [h1, hn]⟩
theorem tuR_len (p : Pl) : (tuR p).s.length ≤ 1000 ∧ (tuR p).o.length ≤ 1000 := by
  unfold tuR
  split
  · rename_i h
    unfold tuB at h
    simp only [Bool.and_eq_true] at h
    obtain ⟨_, _, _, _, h1, h2, _⟩ := good_facts h.2
    omega
  · simp [zeroP]

set_option maxRecDepth 100000 in
set_option maxHeartbeats 2000000 in
theorem specTurn_any (B : Nat) (A1 A2 : Option Addr) (c1 c2 : Nat) (p : Pl) (w : World) (hB : B ≤ w.heap.size) (hls : p.s.length ≤ 2000000) (hlo : p.o.length ≤ 2000000) (hr : RdP w B A1 A2 p) :
    Calls Try.prog 26 #[.agg #[.int .i64 p.n, .slice A1 p.s.length c1, .slice A2 p.o.length c2]] w fun e w' =>
      ∃ R1 R2 v1 v2, e = .returned (.tuple #[.agg #[.int .i64 (tuR p).n, .slice R1 (tuR p).s.length v1, .slice R2 (tuR p).o.length v2], .bool (tuB p)]) ∧ OwP w' w.heap.size R1 R2 v1 v2 (tuR p) ∧ Below w.heap.size w w' := by
  have H := Lib.hid hr
  clear hr
  obtain ⟨gd, hgd⟩ : ∃ x, good p = x := ⟨_, rfl⟩
  have HG := Lib.hid hgd
  go_enter Try.func26, Try.ntmps26
  go_wp2_with fail
  go_at_call 58
  generalize hw1 : World.alloc (World.alloc w _) _ = w1
  obtain ⟨q0, q1, xs, xb⟩ := fo_boxes hw1
  clear hw1
  have hC := plGood_any w.heap.size A1 A2 c1 c2 p w1 (by omega) hls hlo ((H.out.below' xb hB).more hB)
  rw [hgd] at hC
  refine hC.mono ?_
  rintro e w2 ⟨rfl, hb2⟩
  clear hC hgd
  have r0 := (hb2.block w.heap.size (by omega)).trans q0
  have r1 := (hb2.block (w.heap.size + 1) (by omega)).trans q1
  obtain ⟨y0, y1, y2, _, _, _⟩ := cells3 r0
  obtain ⟨t0, t1, t2, g0, g1, g2⟩ := cells3 r1
  have R0 := Lib.hid r0
  have R1 := Lib.hid r1
  have HB2 := Lib.hid (xb.trans (hb2.mono (show w.heap.size ≤ w1.heap.size by omega)))
  have hs2 : w.heap.size + 2 ≤ w2.heap.size := by have := hb2.size; omega
  clear q0 q1 xs xb hb2 r0 r1
  cases gd with
  | false =>
    obtain ⟨e1, e2⟩ := tu_not (p := p) (by unfold canR; rw [HG.out]; rfl)
    have EB := Lib.hid e1
    have ER := Lib.hid e2
    clear e1 e2
    go_wp2
    refine bodyPost_ret (v := .tuple #[.agg #[.int .i64 0, .slice none 0 0, .slice none 0 0], .bool false]) (by simp [results, Try.results26, go_sem, t0, t1, t2]) rfl ⟨none, none, 0, 0, by rw [ER.out, EB.out]; rfl, by rw [ER.out]; exact OwP.zero _ _, ?_⟩
    exact ((HB2.out.setCell (show w.heap.size ≤ w.heap.size + 1 by omega) _).setCell (show w.heap.size ≤ w.heap.size + 1 by omega) _).setCell (show w.heap.size ≤ w.heap.size + 1 by omega) _
  | true =>
    obtain ⟨N, hN, n1, n6, hs40, ho6, hok, hout, _⟩ := good_facts HG.out
    have hcr : canR p = canB p := by unfold canR; rw [HG.out]; rfl
    have HC := Lib.hid (duCan_any w.heap.size N A1 A2 c1 c2 p w2 hN n6 hs40 ho6 (by omega) hok hout ((H.out.below' HB2.out hB).more hB))
    have HU := Lib.hid (fun h => usd_of hN h n1 hok)
    have HNN := Lib.hid hN
    have DT := Lib.hid (fun W hu hW hr => duTurn_any w.heap.size N (N + p.s.length) A1 A2 c1 c2 p W hN n1 n6 hs40 ho6 rfl hW hu hr)
    have hTP : (turnP p N).s.length ≤ 2000000 ∨ canB p = false := by
      cases hc : canB p with
      | false => exact .inr rfl
      | true =>
        left
        have := trn_le (N := N) (usd_of hN hc n1 hok) (N + p.s.length) (Nat.le_refl _)
        unfold turnP
        simp only
        omega
    have hTO : (turnP p N).o.length ≤ 2000000 := by
      unfold turnP
      simp only [List.length_take]
      omega
    obtain ⟨P, hP⟩ : ∃ P, turnP p N = P := ⟨_, rfl⟩
    rw [hP] at DT hTP hTO
    have HPP := Lib.hid hP
    obtain ⟨cb, hcb⟩ : ∃ x, canB p = x := ⟨_, rfl⟩
    rw [hcb] at HC hcr hTP
    have HCB := Lib.hid hcb
    have HCR := Lib.hid hcr
    clear hN hok hout hP hcb hcr n1 n6
    go_wp2_with fail
    go_at_call 67
    refine HC.out.mono ?_
    rintro e w3 ⟨rfl, hb3⟩
    have r0 := (hb3.block w.heap.size (by omega)).trans R0.out
    have r1 := (hb3.block (w.heap.size + 1) (by omega)).trans R1.out
    have HB3 := Lib.hid (HB2.out.trans (hb3.mono (show w.heap.size ≤ w2.heap.size by omega)))
    have hs3 : w.heap.size + 2 ≤ w3.heap.size := by have := hb3.size; omega
    clear y0 y1 y2 t0 t1 t2 g0 g1 g2 hb3
    obtain ⟨y0, y1, y2, _, _, _⟩ := cells3 r0
    obtain ⟨t0, t1, t2, g0, g1, g2⟩ := cells3 r1
    have R1' := Lib.hid r1
    clear r0 r1
    cases cb with
    | false =>
      obtain ⟨e1, e2⟩ := tu_not HCR.out
      have EB := Lib.hid e1
      have ER := Lib.hid e2
      clear e1 e2
      go_wp2
      refine bodyPost_ret (v := .tuple #[.agg #[.int .i64 0, .slice none 0 0, .slice none 0 0], .bool false]) (by simp [results, Try.results26, go_sem, t0, t1, t2]) rfl ⟨none, none, 0, 0, by rw [ER.out, EB.out]; rfl, by rw [ER.out]; exact OwP.zero _ _, ?_⟩
      exact ((HB3.out.setCell (show w.heap.size ≤ w.heap.size + 1 by omega) _).setCell (show w.heap.size ≤ w.heap.size + 1 by omega) _).setCell (show w.heap.size ≤ w.heap.size + 1 by omega) _
    | true =>
      obtain ⟨e1, e2⟩ := tu_yes (p := p) HCR.out HNN.out
      rw [HPP.out] at e1 e2
      have EB := Lib.hid e1
      have ER := Lib.hid e2
      have hTS : P.s.length ≤ 2000000 := by rcases hTP with h | h; exact h; cases h
      clear e1 e2 hTP t0 t1 t2 g0 g1 g2
      go_wp2_with fail
      go_at_call 70
      refine (DT.out w3 (HU.out HCB.out) (by omega) ((H.out.below' HB3.out hB).more hB)).mono ?_
      rintro e w4 ⟨E1, E2, d1, d2, rfl, hOW, hb4⟩
      have HB4 := Lib.hid (HB3.out.trans (hb4.mono (show w.heap.size ≤ w3.heap.size by omega)))
      have OW4 := Lib.hid hOW
      have R4 := Lib.hid ((hb4.block (w.heap.size + 1) (by omega)).trans R1'.out)
      have hs4 := hb4.size
      clear hb4 hOW y0 y1 y2
      go_wp2_with fail
      go_at_call 69
      refine (plIf_any w4.heap.size E1 E2 d1 d2 P w4 (Nat.le_refl _) hTS hTO OW4.out.rd).mono ?_
      rintro e w6 ⟨rfl, hb6⟩
      have B6 := Lib.hid (HB4.out.trans (hb6.mono (by omega)))
      have Q6 := Lib.hid ((hb6.block (w.heap.size + 1) (by omega)).trans R4.out)
      have O6 := Lib.hid (OW4.out.below hb6)
      obtain ⟨X1, X2, v1, v2, hsel, hres, hbf⟩ := selV_mk (w0 := w) (B := w.heap.size) (g := w.heap.size + 1) rfl O6.out (by omega) ⟨_, Q6.out⟩ B6.out (by omega)
      rw [hsel]
      rw [← ER.out] at hres hbf
      rw [← ER.out, ← EB.out]
      obtain ⟨t0, t1, t2, g0, g1, g2⟩ := cells3 Q6.out
      have RES := Lib.hid hres
      have BRES := Lib.hid hbf
      clear hb6 hsel hres hbf
      go_wp2
      refine bodyPost_ret (v := .tuple #[.agg #[.int .i64 (tuR p).n, .slice X1 (tuR p).s.length v1, .slice X2 (tuR p).o.length v2], .bool (tuB p)]) (by simp [results, Try.results26, go_sem, t0, t1, t2]) rfl ⟨X1, X2, v1, v2, rfl, RES.out, BRES.out⟩

set_option maxRecDepth 100000 in
set_option maxHeartbeats 2000000 in
theorem implTurn_any (B : Nat) (A1 A2 : Option Addr) (c1 c2 : Nat) (p : Pl) (w : World) (hB : B ≤ w.heap.size) (hls : p.s.length ≤ 2000000) (hlo : p.o.length ≤ 2000000) (hr : RdP w B A1 A2 p) :
    Calls Try.prog 27 #[.agg #[.int .i64 p.n, .slice A1 p.s.length c1, .slice A2 p.o.length c2]] w fun e w' =>
      ∃ R1 R2 v1 v2, e = .returned (.tuple #[.agg #[.int .i64 (tuR p).n, .slice R1 (tuR p).s.length v1, .slice R2 (tuR p).o.length v2], .bool (tuB p)]) ∧ OwP w' w.heap.size R1 R2 v1 v2 (tuR p) ∧ Below w.heap.size w w' := by
  have H := Lib.hid hr
  clear hr
  go_enter Try.func27, Try.ntmps27
  go_wp2_with fail
  go_at_call 62
  generalize hw1 : World.alloc (World.alloc w _) _ = w1
  obtain ⟨q0, q1, xs, xb⟩ := fo_boxes hw1
  clear hw1
  refine (withValues_any B A1 A2 c1 c2 p w1 (by omega) hls hlo (H.out.below' xb hB)).mono ?_
  rintro e w2 ⟨hb2, hpost⟩
  have R1 := Lib.hid ((hb2.block (w.heap.size + 1) (by omega)).trans q1)
  have HB2 := Lib.hid (xb.trans (hb2.mono (show w.heap.size ≤ w1.heap.size by omega)))
  have hs2 : w.heap.size + 2 ≤ w2.heap.size := by have := hb2.size; omega
  clear q0 q1 hb2 xs xb
  rw [valsI_eq] at hpost
  by_cases hg : good p = true
  · rw [if_pos hg] at hpost
    simp only at hpost
    obtain ⟨A, c, rfl, _⟩ := hpost
    obtain ⟨N, hN, n1, n6, hs40, ho6, hok, _, _⟩ := good_facts hg
    have hn' : p.n.toNat = N := by omega
    have hcan := can_eq hN n1 hok
    have hel := exps_length N p.s
    have hcr : canR p = canB p := by unfold canR; rw [hg]; rfl
    have HU := Lib.hid (fun h => usd_of hN h n1 hok)
    have HN := Lib.hid hN
    obtain ⟨R, hR⟩ : ∃ R, N + p.s.length = R := ⟨_, rfl⟩
    have TD := Lib.hid (fun W hu hW hr => turned_any B N R A1 A2 A c1 c2 c p W n1 n6 hs40 ho6 hR.symm hW hu hr)
    have HTP := Lib.hid (show tnP N R p = turnP p N by unfold tnP turnP; rw [hR])
    rw [hn', List.length_map, hel, hR, hN]
    rw [hR] at hcan HU
    have hR46 : R ≤ 46 := by omega
    have CT := fun W hW hr => canTurn_any B N R A1 A2 A c1 c2 c p W hs40 ho6 hR46 hW hr
    rw [← hcan] at CT
    obtain ⟨cb, hcb⟩ : ∃ x, canB p = x := ⟨_, rfl⟩
    rw [hcb] at hcr CT
    have CT := Lib.hid CT
    have HCB := Lib.hid hcb
    have HCR := Lib.hid hcr
    clear hn' hN hg hel hR hcan hok hcb hcr n1 n6
    go_wp2_with fail
    go_at_call 68
    generalize hw3 : World.alloc w2 _ = w3
    obtain ⟨⟨x0, x1, x2, x3⟩, xs, xb⟩ := box4v hw3
    clear hw3
    have HB3 := Lib.hid (HB2.out.trans (xb.mono (by omega)))
    have R3 := Lib.hid ((xb.block (w.heap.size + 1) (by omega)).trans R1.out)
    refine (CT.out w3 (by omega) (H.out.below' HB3.out hB)).mono ?_
    rintro e w4 ⟨rfl, hb4⟩
    have y0 := (hb4.cell (p := ⟨w2.heap.size, 0, none⟩) (by simp only []; omega)).trans x0
    have y1 := (hb4.cell (p := ⟨w2.heap.size, 1, none⟩) (by simp only []; omega)).trans x1
    have y2 := (hb4.cell (p := ⟨w2.heap.size, 2, none⟩) (by simp only []; omega)).trans x2
    have y3 := (hb4.cell (p := ⟨w2.heap.size, 3, none⟩) (by simp only []; omega)).trans x3
    have R4 := Lib.hid ((hb4.block (w.heap.size + 1) (by omega)).trans R3.out)
    have HB4 := Lib.hid (HB3.out.trans (hb4.mono (show w.heap.size ≤ w3.heap.size by omega)))
    have hs4 : w.heap.size + 2 ≤ w4.heap.size := by have := hb4.size; omega
    clear hb4 xb x0 x1 x2 x3 xs
    obtain ⟨t0, t1, t2, g0, g1, g2⟩ := cells3 R4.out
    cases cb with
    | false =>
      obtain ⟨e1, e2⟩ := tu_not HCR.out
      have EB := Lib.hid e1
      have ER := Lib.hid e2
      clear e1 e2
      go_wp2
      refine bodyPost_ret (v := .tuple #[.agg #[.int .i64 0, .slice none 0 0, .slice none 0 0], .bool false]) (by simp [results, Try.results27, go_sem, t0, t1, t2]) rfl ⟨none, none, 0, 0, by rw [ER.out, EB.out]; rfl, by rw [ER.out]; exact OwP.zero _ _, ?_⟩
      exact ((HB4.out.setCell (show w.heap.size ≤ w.heap.size + 1 by omega) _).setCell (show w.heap.size ≤ w.heap.size + 1 by omega) _).setCell (show w.heap.size ≤ w.heap.size + 1 by omega) _
    | true =>
      obtain ⟨e1, e2⟩ := tu_yes (p := p) HCR.out HN.out
      have EB := Lib.hid e1
      have ER := Lib.hid e2
      have hT := TD.out w4 (HU.out HCB.out) (by omega) (H.out.below' HB4.out hB)
      rw [HTP.out, ← e1, ← e2] at hT
      have HT := Lib.hid hT
      clear e1 e2 hT t0 t1 t2 g0 g1 g2
      go_wp2_with fail
      go_at_call 71
      refine HT.out.mono ?_
      rintro e w7 ⟨E1, E2, d1, d2, rfl, hOW, hb7⟩
      have Q7 := Lib.hid ((hb7.block (w.heap.size + 1) (by omega)).trans R4.out)
      have B7 := Lib.hid (HB4.out.trans (hb7.mono (by omega)))
      have OW7 := Lib.hid hOW
      obtain ⟨t0, t1, t2, g0, g1, g2⟩ := cells3 Q7.out
      clear hOW hb7 y0 y1 y2 y3
      go_wp2
      refine bodyPost_ret (v := .tuple #[.agg #[.int .i64 (tuR p).n, .slice E1 (tuR p).s.length d1, .slice E2 (tuR p).o.length d2], .bool (tuB p)]) (by simp [results, Try.results27, go_sem, t0, t1, t2]) rfl ⟨E1, E2, d1, d2, rfl, ?_, ?_⟩
      · exact ⟨own_base (own_set3 OW7.out.1 Q7.out (by decide) _ _ _) (by omega), own_base (own_set3 OW7.out.2 Q7.out (by decide) _ _ _) (by omega)⟩
      · exact ((B7.out.setCell (show w.heap.size ≤ w.heap.size + 1 by omega) _).setCell (show w.heap.size ≤ w.heap.size + 1 by omega) _).setCell (show w.heap.size ≤ w.heap.size + 1 by omega) _
  · rw [if_neg hg] at hpost
    simp only at hpost
    subst hpost
    have hg' : good p = false := by simpa using hg
    obtain ⟨e1, e2⟩ := tu_not (p := p) (by unfold canR; rw [hg']; rfl)
    have EB := Lib.hid e1
    have ER := Lib.hid e2
    have R3 : (w2.alloc (.cells #[.int .i64 0, .slice none 0 0, .slice none 0 0, .slice none 0 0] 72)).heap[w.heap.size + 1]? = some (.cells #[.int .i64 0, .slice none 0 0, .slice none 0 0] 31 (0, 0)) := (Below.heap_alloc _ _ _ (by omega)).trans R1.out
    have HB3 := Lib.hid (HB2.out.alloc HB2.out.size (.cells #[.int .i64 0, .slice none 0 0, .slice none 0 0, .slice none 0 0] 72))
    obtain ⟨t0, t1, t2, g0, g1, g2⟩ := cells3 R3
    clear hg hg' e1 e2 R3
    go_wp2
    refine bodyPost_ret (v := .tuple #[.agg #[.int .i64 0, .slice none 0 0, .slice none 0 0], .bool false]) (by simp [results, Try.results27, go_sem, t0, t1, t2]) rfl ⟨none, none, 0, 0, by rw [ER.out, EB.out]; rfl, by rw [ER.out]; exact OwP.zero _ _, ?_⟩
    exact ((HB3.out.setCell (show w.heap.size ≤ w.heap.size + 1 by omega) _).setCell (show w.heap.size ≤ w.heap.size + 1 by omega) _).setCell (show w.heap.size ≤ w.heap.size + 1 by omega) _
end Go.Proofs.Ytlkieebmfmiafaa
