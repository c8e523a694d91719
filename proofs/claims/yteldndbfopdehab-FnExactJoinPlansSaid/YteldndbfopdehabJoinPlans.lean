/- The law FnExactJoinPlans holds: for every two plans, valid or not, JoinPlans of the program answers as JoinPlans of the model, writes into no argument, and its answer owns its memory. No condition. -/
import Derived.Test.YteldndbfopdehabOp
import Derived.Test.YteldndbfopdehabEa
import Derived.Test.YteldndbfopdehabMp
import Derived.Test.YteldndbfopdehabCk
import Derived.Test.YteldndbfopdehabCl
namespace Go.Proofs.Yteldndbfopdehab
open Go.ChangeShapes Go.WideShapes Go.ChangeAt Go.RowKit Go.Deep Go.Joins

theorem szPl_ok2 {p : Pl} {x : Int} (hx : x ≤ 1048576) (h : ¬ szPl p x < 0) : p.s.length ≤ 1048576 ∧ p.o.length ≤ 1048576 := by
  unfold szPl szR at h
  by_cases h1 : x - (p.s.length : Int) < 0
  · simp [h1] at h
  · simp only [h1, if_false] at h
    by_cases h2 : x - (p.s.length : Int) - p.o.length < 0
    · simp [h2] at h
    · omega
theorem szPl_le {p : Pl} : szPl p 1048576 ≤ 1048576 := by
  unfold szPl szR; split <;> split <;> omega

theorem boxes2c {w w2 : World} {a b c a' b' c' : Value} {t t' : TypeId} (h : (w.alloc (.cells #[a, b, c] t)).alloc (.cells #[a', b', c'] t') = w2) :
    (w2.cell? ⟨w.heap.size, 0, none⟩ = some a ∧ w2.cell? ⟨w.heap.size, 1, none⟩ = some b ∧ w2.cell? ⟨w.heap.size, 2, none⟩ = some c) ∧ (w2.cell? ⟨w.heap.size + 1, 0, none⟩ = some a' ∧ w2.cell? ⟨w.heap.size + 1, 1, none⟩ = some b' ∧ w2.cell? ⟨w.heap.size + 1, 2, none⟩ = some c') ∧ w2.heap.size = w.heap.size + 2 ∧ Below w.heap.size w w2 := by
  subst h
  refine ⟨⟨?_, ?_, ?_⟩, ⟨?_, ?_, ?_⟩, by simp, ((Below.refl _ _).alloc (Nat.le_refl _) _).alloc (by simp) _⟩
  all_goals first
    | (rw [World.cell?_alloc_lt _ _ _ (by simp), World.cell?_alloc_at _ _ _ _ rfl]; rfl)
    | (rw [World.cell?_alloc_at _ _ _ _ (by simp)]; rfl)

theorem stored3 {w0 w : World} {B C g : Nat} {R1 R2 : Option Addr} {v1 v2 : Nat} {r : Pl} {a b c a0 b0 c0 : Value} (h : OwP w C R1 R2 v1 v2 r) (hg : w.heap[g]? = some (.cells #[a0, b0, c0] 35 (0, 0))) (hb : Below B w0 w) (hBg : B ≤ g) :
    (((w.setCell ⟨g, 0, none⟩ a).setCell ⟨g, 1, none⟩ b).setCell ⟨g, 2, none⟩ c).heap[g]? = some (.cells #[a, b, c] 35 (0, 0)) ∧ OwP (((w.setCell ⟨g, 0, none⟩ a).setCell ⟨g, 1, none⟩ b).setCell ⟨g, 2, none⟩ c) C R1 R2 v1 v2 r ∧ Below B w0 (((w.setCell ⟨g, 0, none⟩ a).setCell ⟨g, 1, none⟩ b).setCell ⟨g, 2, none⟩ c) := by
  refine ⟨?_, ⟨own_set3 h.1 hg (by decide) a b c, own_set3 h.2 hg (by decide) a b c⟩, ((hb.setCell hBg _).setCell hBg _).setCell hBg _⟩
  have h1 : (w.setCell ⟨g, 0, none⟩ a).heap[g]? = some (.cells #[a, b0, c0] 35 (0, 0)) := by rw [heap_setCell_same w _ 0 _ _ _ hg]; rfl
  have h2 : ((w.setCell ⟨g, 0, none⟩ a).setCell ⟨g, 1, none⟩ b).heap[g]? = some (.cells #[a, b, c0] 35 (0, 0)) := by rw [heap_setCell_same _ _ 1 _ _ _ h1]; rfl
  rw [heap_setCell_same _ _ 2 _ _ _ h2]; rfl

set_option maxRecDepth 100000 in
set_option maxHeartbeats 8000000 in
theorem lawJoinPlans (A1 A2 A3 A4 : Option Addr) (c1 c2 c3 c4 : Nat) (p q : Pl) (w : World) (hn1 : p.s.length ≤ 9223372036854775807) (hn2 : p.o.length ≤ 9223372036854775807) (hn3 : q.s.length ≤ 9223372036854775807) (hn4 : q.o.length ≤ 9223372036854775807) (hr : RdP w w.heap.size A1 A2 p) (hr' : RdP w w.heap.size A3 A4 q) :
    Calls Try.prog 8 #[.agg #[.int .i64 p.n, .slice A1 p.s.length c1, .slice A2 p.o.length c2], .agg #[.int .i64 q.n, .slice A3 q.s.length c3, .slice A4 q.o.length c4]] w fun e w' => e = .returned (.bool true) ∧ Below w.heap.size w w' := by
  have H := Lib.hid hr
  have H' := Lib.hid hr'
  clear hr hr'
  obtain ⟨x, hx⟩ : ∃ x, szPl p 1048576 = x := ⟨_, rfl⟩
  have hsz := fun W => szPlan_any A1 A2 c1 c2 p 1048576 W (by omega) (by omega) hn1 hn2
  rw [hx] at hsz
  have HX := Lib.hid hx
  have HSZ := Lib.hid hsz
  have hxle : x ≤ 1048576 := by rw [← hx]; exact szPl_le
  have HXL := Lib.hid hxle
  clear hx hsz hxle
  by_cases hneg : x < 0
  · go_enter Try.func8, Try.ntmps8
    go_wp2_with fail
    go_at_call 16
    generalize hw1 : World.alloc (World.alloc w _) _ = w1
    obtain ⟨⟨x0, x1, x2⟩, ⟨x3, x4, x5⟩, xs, xb⟩ := boxes2c hw1
    clear hw1
    refine (HSZ.out _).mono ?_
    rintro e w2 ⟨rfl, hb2⟩
    go_wp2
    go_ret
    exact ⟨rfl, xb.trans (hb2.mono (by omega))⟩
  obtain ⟨l1, l2⟩ := szPl_ok (p := p) (by rw [HX.out]; exact hneg)
  obtain ⟨y, hy⟩ : ∃ y, szPl q x = y := ⟨_, rfl⟩
  have hsz := fun W => szPlan_any A3 A4 c3 c4 q x W (by omega) HXL.out hn3 hn4
  rw [hy] at hsz
  have HY := Lib.hid hy
  have HSY := Lib.hid hsz
  clear hy hsz
  by_cases hneg2 : y < 0
  · go_enter Try.func8, Try.ntmps8
    go_wp2_with fail
    go_at_call 16
    generalize hw1 : World.alloc (World.alloc w _) _ = w1
    obtain ⟨⟨x0, x1, x2⟩, ⟨x3, x4, x5⟩, xs, xb⟩ := boxes2c hw1
    clear hw1
    refine (HSZ.out _).mono ?_
    rintro e w2 ⟨rfl, hb2⟩
    have y3 := (hb2.cell (p := ⟨w.heap.size + 1, 0, none⟩) (by simp only []; omega)).trans x3
    have y4 := (hb2.cell (p := ⟨w.heap.size + 1, 1, none⟩) (by simp only []; omega)).trans x4
    have y5 := (hb2.cell (p := ⟨w.heap.size + 1, 2, none⟩) (by simp only []; omega)).trans x5
    have HB2 := Lib.hid (xb.trans (hb2.mono (show w.heap.size ≤ w1.heap.size by omega)))
    clear x0 x1 x2 x3 x4 x5 xs xb hb2
    go_wp2_with fail
    go_at_call 16
    refine (HSY.out _).mono ?_
    rintro e w3 ⟨rfl, hb3⟩
    go_wp2
    go_ret
    exact ⟨rfl, HB2.out.trans (hb3.mono (by have := HB2.out.size; omega))⟩
  obtain ⟨l3, l4⟩ := szPl_ok2 (p := q) HXL.out (by rw [HY.out]; exact hneg2)
  obtain ⟨r, hR⟩ : ∃ r, joinR p q = r := ⟨_, rfl⟩
  have hrl0 : r.s.length ≤ 1000 ∧ r.o.length ≤ 1000 := by rw [← hR]; exact joinR_len p q
  obtain ⟨rl1, rl2⟩ := hrl0
  obtain ⟨gd, hgd⟩ : ∃ gx, joinB p q = gx := ⟨_, rfl⟩
  have hC1 := fun W B1 B2 B3 B4 d1 d2 d3 d4 hr1 hr2 => specJoin_any (World.heap W).size B1 B2 B3 B4 d1 d2 d3 d4 p q W (Nat.le_refl _) (by omega) (by omega) (by omega) (by omega) hr1 hr2
  have hC2 := fun W B1 B2 B3 B4 d1 d2 d3 d4 hr1 hr2 => implJoin_any (World.heap W).size B1 B2 B3 B4 d1 d2 d3 d4 p q W (Nat.le_refl _) (by omega) (by omega) (by omega) (by omega) hr1 hr2
  rw [hR, hgd] at hC1 hC2
  have C1 := Lib.hid hC1
  have C2 := Lib.hid hC2
  clear hC1 hC2 hR hgd
  go_enter Try.func8, Try.ntmps8
  go_wp2_with fail
  go_at_call 16
  generalize hw1 : World.alloc (World.alloc w _) _ = w1
  obtain ⟨⟨x0, x1, x2⟩, ⟨x3, x4, x5⟩, xs, xb⟩ := boxes2c hw1
  clear hw1
  refine (HSZ.out _).mono ?_
  rintro e w2 ⟨rfl, hb2⟩
  have y0 := (hb2.cell (p := ⟨w.heap.size, 0, none⟩) (by simp only []; omega)).trans x0
  have y1 := (hb2.cell (p := ⟨w.heap.size, 1, none⟩) (by simp only []; omega)).trans x1
  have y2 := (hb2.cell (p := ⟨w.heap.size, 2, none⟩) (by simp only []; omega)).trans x2
  have y3 := (hb2.cell (p := ⟨w.heap.size + 1, 0, none⟩) (by simp only []; omega)).trans x3
  have y4 := (hb2.cell (p := ⟨w.heap.size + 1, 1, none⟩) (by simp only []; omega)).trans x4
  have y5 := (hb2.cell (p := ⟨w.heap.size + 1, 2, none⟩) (by simp only []; omega)).trans x5
  have hs2 : w.heap.size + 2 ≤ w2.heap.size := by have := hb2.size; omega
  have HB2 := Lib.hid (xb.trans (hb2.mono (show w.heap.size ≤ w1.heap.size by omega)))
  clear x0 x1 x2 x3 x4 x5 xs xb hb2
  go_wp2_with fail
  go_at_call 16
  refine (HSY.out _).mono ?_
  rintro e w3 ⟨rfl, hb3⟩
  have HB3 := Lib.hid (HB2.out.trans (hb3.mono (by omega)))
  have hs3 : w.heap.size + 2 ≤ w3.heap.size := by have := hb3.size; omega
  have FS := Lib.hid (show ∀ x, Below w3.heap.size w3 x → (x.cell? ⟨w.heap.size, 0, none⟩ = some (.int .i64 p.n) ∧ x.cell? ⟨w.heap.size, 1, none⟩ = some (.slice A1 p.s.length c1) ∧ x.cell? ⟨w.heap.size, 2, none⟩ = some (.slice A2 p.o.length c2)) ∧
      (x.cell? ⟨w.heap.size + 1, 0, none⟩ = some (.int .i64 q.n) ∧ x.cell? ⟨w.heap.size + 1, 1, none⟩ = some (.slice A3 q.s.length c3) ∧ x.cell? ⟨w.heap.size + 1, 2, none⟩ = some (.slice A4 q.o.length c4)) from fun x hx => by
    have hx2 : Below w2.heap.size w2 x := hb3.trans (hx.mono hb3.size)
    exact ⟨⟨(hx2.cell (p := ⟨w.heap.size, 0, none⟩) (by simp only []; omega)).trans y0, (hx2.cell (p := ⟨w.heap.size, 1, none⟩) (by simp only []; omega)).trans y1, (hx2.cell (p := ⟨w.heap.size, 2, none⟩) (by simp only []; omega)).trans y2⟩,
      ⟨(hx2.cell (p := ⟨w.heap.size + 1, 0, none⟩) (by simp only []; omega)).trans y3, (hx2.cell (p := ⟨w.heap.size + 1, 1, none⟩) (by simp only []; omega)).trans y4, (hx2.cell (p := ⟨w.heap.size + 1, 2, none⟩) (by simp only []; omega)).trans y5⟩⟩)
  have S0 := Lib.hid (show Below w3.heap.size w3 w3.drew from (Below.refl _ _).drew)
  have H3 := Lib.hid (H.out.below HB3.out)
  have H3' := Lib.hid (H'.out.below HB3.out)
  clear y0 y1 y2 y3 y4 y5 hb3 hs2
  go_wp2
  go_cut [6, 7] (fun v u wx => ∃ (g : Nat) (R1 R2 : Option Addr) (v1 v2 : Nat), v = .pointer (some ⟨g, 0, none⟩) ∧ u = .bool gd ∧ w3.heap.size ≤ g ∧ wx.heap[g]? = some (.cells #[.int .i64 r.n, .slice R1 r.s.length v1, .slice R2 r.o.length v2] 35 (0, 0)) ∧ OwP wx w3.heap.size R1 R2 v1 v2 r ∧ Below w3.heap.size w3 wx)
  case first =>
    refine wp_region_T (fun x : World => Below w3.heap.size w3 x) [0, 2, 5, 6, 7, 10] [0, 2] (.ls 0 (.ls 2 (.hv2 1 (.hv2 3 (.hv2 4 (.lp 5 (.lp 6 (.lp 7 (.hv 8 (.hv 9 (.lp 10 (.done))))))) 8 (.hv 4 (.lp 5 (.lp 6 (.lp 7 (.hv 9 (.lp 10 (.done)))))))) 8 (.hv 3 (.hv 4 (.lp 5 (.lp 6 (.lp 7 (.hv 9 (.lp 10 (.done))))))))) 8 (.hv 1 (.hv 3 (.hv 4 (.lp 5 (.lp 6 (.lp 7 (.hv 9 (.lp 10 (.done)))))))))))) (by kernel_rfl) (by kernel_rfl) ?_
    have sd := S0.out
    clear S0
    generalize World.drew w3 = wd at sd ⊢
    have HW := Lib.hid sd
    clear sd
    refine T_ls1 (v := .agg #[.int .i64 p.n, .slice A1 p.s.length c1, .slice A2 p.o.length c2]) rfl rfl HW.out (fun x hx => (by obtain ⟨⟨h0, h1, h2⟩, _⟩ := FS.out x hx; go_simp)) (fun K hK => ?_)
    (go_simp; refine hK _ ?_; clear hK K)
    refine T_ls1 (v := .agg #[.int .i64 q.n, .slice A3 q.s.length c3, .slice A4 q.o.length c4]) rfl rfl HW.out (fun x hx => (by obtain ⟨_, ⟨h0, h1, h2⟩⟩ := FS.out x hx; go_simp)) (fun K hK => ?_)
    (go_simp; refine hK _ ?_; clear hK K)
    refine T_hv2 ?_ ?_
    · refine T_hvS rfl (fun K hK => ?_)
      go_simp
      go_at_call 18
      have hsW := HW.out.size
      refine (toPlan_any w.heap.size A1 A2 c1 c2 p wd l1 l2 (by omega) (H3.out.below ((HW.out).mono (by omega)))).mono ?_
      rintro e W1 ⟨B1, B2, d1, d2, rfl, hown, hst⟩
      have hszW1 := hst.size
      have HW := Lib.hid (HW.out.trans (hst.mono HW.out.size))
      have OW1 := Lib.hid hown
      clear hown hst
      go_simp
      refine hK _ _ HW.out ?_
      clear hK K
      refine T_hv2 ?_ ?_
      · refine T_hvS rfl (fun K hK => ?_)
        go_simp
        go_at_call 18
        have hsW := HW.out.size
        refine (toPlan_any w.heap.size A3 A4 c3 c4 q W1 l3 l4 (by omega) (H3'.out.below ((HW.out).mono (by omega)))).mono ?_
        rintro e W2 ⟨B3, B4, d3, d4, rfl, hown, hst⟩
        have hszW2 := hst.size
        have OW1 := Lib.hid (OW1.out.below hst)
        have HW := Lib.hid (HW.out.trans (hst.mono HW.out.size))
        have OW2 := Lib.hid hown
        clear hown hst
        go_simp
        refine hK _ _ HW.out ?_
        clear hK K
        refine T_hv2 ?_ ?_
        · refine T_hvS rfl (fun K hK => ?_)
          go_simp
          go_at_call 29
          refine (C1.out W2 B1 B2 B3 B4 d1 d2 d3 d4 OW1.out.rd OW2.out.rd).mono ?_
          rintro e W3 ⟨R1, R2, v1, v2, rfl, hres, hst⟩
          have hszW3 := hst.size
          have hbase : w3.heap.size ≤ W2.heap.size := HW.out.size
          have HW := Lib.hid (HW.out.trans (hst.mono HW.out.size))
          have RES := Lib.hid (show OwP W3 w3.heap.size R1 R2 v1 v2 r from ⟨own_base hres.1 hbase, own_base hres.2 hbase⟩)
          clear hres hst hbase
          go_simp
          refine hK _ _ HW.out ?_
          clear hK K
          (repeat (refine T_lp rfl (fun K hK => ?_); go_simp; refine hK _ ?_; clear hK K))
          refine T_hvS rfl (fun K hK => ?_)
          go_simp
          refine hK _ _ (HW.out.alloc HW.out.size _) ?_
          clear hK K
          generalize hwa : World.alloc W3 _ = W4
          have hbx : W4.heap[W3.heap.size]? = some (.cells #[.int .i64 0, .slice none 0 0, .slice none 0 0] 35 (0, 0)) := by rw [← hwa]; exact heap_alloc_new W3 _
          have hst : Below W3.heap.size W3 W4 := by rw [← hwa]; exact (Below.refl _ _).alloc (Nat.le_refl _) _
          have hszW4 : W3.heap.size + 1 ≤ W4.heap.size := by rw [← hwa]; simp
          have hgb : w3.heap.size ≤ W3.heap.size := HW.out.size
          clear hwa
          have RES := Lib.hid (RES.out.below hst)
          have HW := Lib.hid (HW.out.trans (hst.mono HW.out.size))
          have BX := Lib.hid hbx
          clear hbx hst
          obtain ⟨t0, t1, t2, g0, g1, g2⟩ := cells3 BX.out
          (refine T_hv rfl (by kernel_rfl) (fun K hK => ?_); go_simp; refine hK _ _ ?_; clear hK K)
          (repeat (refine T_lp rfl (fun K hK => ?_); go_simp; refine hK _ ?_; clear hK K))
          refine T_done ?_
          go_wp2
          go_meet
          case rel =>
            obtain ⟨e1, e2, e3⟩ := stored3 (a := .int .i64 r.n) (b := .slice R1 r.s.length v1) (c := .slice R2 r.o.length v2) RES.out BX.out HW.out hgb
            exact ⟨W3.heap.size, R1, R2, v1, v2, rfl, rfl, hgb, e1, e2, e3⟩
        · refine T_hvS rfl (fun K hK => ?_)
          go_simp
          refine hK _ _ (HW.out.alloc HW.out.size _) ?_
          clear hK K
          generalize hwa : World.alloc W2 _ = W5
          have hbx : W5.heap[W2.heap.size]? = some (.cells #[.int .i64 0, .slice none 0 0, .slice none 0 0] 35 (0, 0)) := by rw [← hwa]; exact heap_alloc_new W2 _
          have hst : Below W2.heap.size W2 W5 := by rw [← hwa]; exact (Below.refl _ _).alloc (Nat.le_refl _) _
          have hszW5 : W2.heap.size + 1 ≤ W5.heap.size := by rw [← hwa]; simp
          have hgb : w3.heap.size ≤ W2.heap.size := HW.out.size
          clear hwa
          have OW1 := Lib.hid (OW1.out.below hst)
          have OW2 := Lib.hid (OW2.out.below hst)
          have HW := Lib.hid (HW.out.trans (hst.mono HW.out.size))
          have BX := Lib.hid hbx
          clear hbx hst
          refine T_hvS rfl (fun K hK => ?_)
          go_simp
          go_at_call 29
          refine (C1.out W5 B1 B2 B3 B4 d1 d2 d3 d4 OW1.out.rd OW2.out.rd).mono ?_
          rintro e W6 ⟨R1, R2, v1, v2, rfl, hres, hst⟩
          have hszW6 := hst.size
          have hbase : w3.heap.size ≤ W5.heap.size := HW.out.size
          have BX := Lib.hid ((hst.block W2.heap.size (by omega)).trans BX.out)
          have HW := Lib.hid (HW.out.trans (hst.mono HW.out.size))
          have RES := Lib.hid (show OwP W6 w3.heap.size R1 R2 v1 v2 r from ⟨own_base hres.1 hbase, own_base hres.2 hbase⟩)
          clear hres hst hbase
          go_simp
          refine hK _ _ HW.out ?_
          clear hK K
          (repeat (refine T_lp rfl (fun K hK => ?_); go_simp; refine hK _ ?_; clear hK K))
          obtain ⟨t0, t1, t2, g0, g1, g2⟩ := cells3 BX.out
          (refine T_hv rfl (by kernel_rfl) (fun K hK => ?_); go_simp; refine hK _ _ ?_; clear hK K)
          (repeat (refine T_lp rfl (fun K hK => ?_); go_simp; refine hK _ ?_; clear hK K))
          refine T_done ?_
          go_wp2
          go_meet
          case rel =>
            obtain ⟨e1, e2, e3⟩ := stored3 (a := .int .i64 r.n) (b := .slice R1 r.s.length v1) (c := .slice R2 r.o.length v2) RES.out BX.out HW.out hgb
            exact ⟨W2.heap.size, R1, R2, v1, v2, rfl, rfl, hgb, e1, e2, e3⟩
      · refine T_hvS rfl (fun K hK => ?_)
        go_simp
        refine hK _ _ (HW.out.alloc HW.out.size _) ?_
        clear hK K
        generalize hwa : World.alloc W1 _ = W7
        have hbx : W7.heap[W1.heap.size]? = some (.cells #[.int .i64 0, .slice none 0 0, .slice none 0 0] 35 (0, 0)) := by rw [← hwa]; exact heap_alloc_new W1 _
        have hst : Below W1.heap.size W1 W7 := by rw [← hwa]; exact (Below.refl _ _).alloc (Nat.le_refl _) _
        have hszW7 : W1.heap.size + 1 ≤ W7.heap.size := by rw [← hwa]; simp
        have hgb : w3.heap.size ≤ W1.heap.size := HW.out.size
        clear hwa
        have OW1 := Lib.hid (OW1.out.below hst)
        have HW := Lib.hid (HW.out.trans (hst.mono HW.out.size))
        have BX := Lib.hid hbx
        clear hbx hst
        refine T_hvS rfl (fun K hK => ?_)
        go_simp
        go_at_call 18
        have hsW := HW.out.size
        refine (toPlan_any w.heap.size A3 A4 c3 c4 q W7 l3 l4 (by omega) (H3'.out.below ((HW.out).mono (by omega)))).mono ?_
        rintro e W8 ⟨B3, B4, d3, d4, rfl, hown, hst⟩
        have hszW8 := hst.size
        have OW1 := Lib.hid (OW1.out.below hst)
        have BX := Lib.hid ((hst.block W1.heap.size (by omega)).trans BX.out)
        have HW := Lib.hid (HW.out.trans (hst.mono HW.out.size))
        have OW2 := Lib.hid hown
        clear hown hst
        go_simp
        refine hK _ _ HW.out ?_
        clear hK K
        refine T_hvS rfl (fun K hK => ?_)
        go_simp
        go_at_call 29
        refine (C1.out W8 B1 B2 B3 B4 d1 d2 d3 d4 OW1.out.rd OW2.out.rd).mono ?_
        rintro e W9 ⟨R1, R2, v1, v2, rfl, hres, hst⟩
        have hszW9 := hst.size
        have hbase : w3.heap.size ≤ W8.heap.size := HW.out.size
        have BX := Lib.hid ((hst.block W1.heap.size (by omega)).trans BX.out)
        have HW := Lib.hid (HW.out.trans (hst.mono HW.out.size))
        have RES := Lib.hid (show OwP W9 w3.heap.size R1 R2 v1 v2 r from ⟨own_base hres.1 hbase, own_base hres.2 hbase⟩)
        clear hres hst hbase
        go_simp
        refine hK _ _ HW.out ?_
        clear hK K
        (repeat (refine T_lp rfl (fun K hK => ?_); go_simp; refine hK _ ?_; clear hK K))
        obtain ⟨t0, t1, t2, g0, g1, g2⟩ := cells3 BX.out
        (refine T_hv rfl (by kernel_rfl) (fun K hK => ?_); go_simp; refine hK _ _ ?_; clear hK K)
        (repeat (refine T_lp rfl (fun K hK => ?_); go_simp; refine hK _ ?_; clear hK K))
        refine T_done ?_
        go_wp2
        go_meet
        case rel =>
          obtain ⟨e1, e2, e3⟩ := stored3 (a := .int .i64 r.n) (b := .slice R1 r.s.length v1) (c := .slice R2 r.o.length v2) RES.out BX.out HW.out hgb
          exact ⟨W1.heap.size, R1, R2, v1, v2, rfl, rfl, hgb, e1, e2, e3⟩
    · refine T_hvS rfl (fun K hK => ?_)
      go_simp
      refine hK _ _ (HW.out.alloc HW.out.size _) ?_
      clear hK K
      generalize hwa : World.alloc wd _ = W10
      have hbx : W10.heap[wd.heap.size]? = some (.cells #[.int .i64 0, .slice none 0 0, .slice none 0 0] 35 (0, 0)) := by rw [← hwa]; exact heap_alloc_new wd _
      have hst : Below wd.heap.size wd W10 := by rw [← hwa]; exact (Below.refl _ _).alloc (Nat.le_refl _) _
      have hszW10 : wd.heap.size + 1 ≤ W10.heap.size := by rw [← hwa]; simp
      have hgb : w3.heap.size ≤ wd.heap.size := HW.out.size
      clear hwa
      have HW := Lib.hid (HW.out.trans (hst.mono HW.out.size))
      have BX := Lib.hid hbx
      clear hbx hst
      refine T_hvS rfl (fun K hK => ?_)
      go_simp
      go_at_call 18
      have hsW := HW.out.size
      refine (toPlan_any w.heap.size A1 A2 c1 c2 p W10 l1 l2 (by omega) (H3.out.below ((HW.out).mono (by omega)))).mono ?_
      rintro e W11 ⟨B1, B2, d1, d2, rfl, hown, hst⟩
      have hszW11 := hst.size
      have BX := Lib.hid ((hst.block wd.heap.size (by omega)).trans BX.out)
      have HW := Lib.hid (HW.out.trans (hst.mono HW.out.size))
      have OW1 := Lib.hid hown
      clear hown hst
      go_simp
      refine hK _ _ HW.out ?_
      clear hK K
      refine T_hvS rfl (fun K hK => ?_)
      go_simp
      go_at_call 18
      have hsW := HW.out.size
      refine (toPlan_any w.heap.size A3 A4 c3 c4 q W11 l3 l4 (by omega) (H3'.out.below ((HW.out).mono (by omega)))).mono ?_
      rintro e W12 ⟨B3, B4, d3, d4, rfl, hown, hst⟩
      have hszW12 := hst.size
      have OW1 := Lib.hid (OW1.out.below hst)
      have BX := Lib.hid ((hst.block wd.heap.size (by omega)).trans BX.out)
      have HW := Lib.hid (HW.out.trans (hst.mono HW.out.size))
      have OW2 := Lib.hid hown
      clear hown hst
      go_simp
      refine hK _ _ HW.out ?_
      clear hK K
      refine T_hvS rfl (fun K hK => ?_)
      go_simp
      go_at_call 29
      refine (C1.out W12 B1 B2 B3 B4 d1 d2 d3 d4 OW1.out.rd OW2.out.rd).mono ?_
      rintro e W13 ⟨R1, R2, v1, v2, rfl, hres, hst⟩
      have hszW13 := hst.size
      have hbase : w3.heap.size ≤ W12.heap.size := HW.out.size
      have BX := Lib.hid ((hst.block wd.heap.size (by omega)).trans BX.out)
      have HW := Lib.hid (HW.out.trans (hst.mono HW.out.size))
      have RES := Lib.hid (show OwP W13 w3.heap.size R1 R2 v1 v2 r from ⟨own_base hres.1 hbase, own_base hres.2 hbase⟩)
      clear hres hst hbase
      go_simp
      refine hK _ _ HW.out ?_
      clear hK K
      (repeat (refine T_lp rfl (fun K hK => ?_); go_simp; refine hK _ ?_; clear hK K))
      obtain ⟨t0, t1, t2, g0, g1, g2⟩ := cells3 BX.out
      (refine T_hv rfl (by kernel_rfl) (fun K hK => ?_); go_simp; refine hK _ _ ?_; clear hK K)
      (repeat (refine T_lp rfl (fun K hK => ?_); go_simp; refine hK _ ?_; clear hK K))
      refine T_done ?_
      go_wp2
      go_meet
      case rel =>
        obtain ⟨e1, e2, e3⟩ := stored3 (a := .int .i64 r.n) (b := .slice R1 r.s.length v1) (c := .slice R2 r.o.length v2) RES.out BX.out HW.out hgb
        exact ⟨wd.heap.size, R1, R2, v1, v2, rfl, rfl, hgb, e1, e2, e3⟩
  case rest =>
    obtain ⟨g, R1, R2, v1, v2, rfl, rfl, hg3, hblk, hres, hb36⟩ := hcut
    have RES := Lib.hid hres
    have HB36 := Lib.hid hb36
    have hs6 : w3.heap.size ≤ wc.heap.size := hb36.size
    have hglt : g < wc.heap.size := (Array.getElem?_eq_some_iff.1 hblk).1
    have BLK := Lib.hid hblk
    obtain ⟨⟨z0, z1, z2⟩, ⟨z3, z4, z5⟩⟩ := FS.out wc hb36
    clear hblk hres hb36
    go_wp2_with fail
    go_at_call 18
    refine (toPlan_any w.heap.size A1 A2 c1 c2 p wc l1 l2 (by omega) (H3.out.below (HB36.out.mono (by omega)))).mono ?_
    rintro e w7 ⟨E1, E2, e1, e2, rfl, hown7, hb7⟩
    have hb37 : Below w3.heap.size w3 w7 := HB36.out.trans (hb7.mono hs6)
    have OW7 := Lib.hid hown7
    have HC7 := Lib.hid hb7
    have HB37 := Lib.hid hb37
    have hs7 : w3.heap.size ≤ w7.heap.size := hb37.size
    clear z0 z1 z2 z3 z4 z5 hown7 hb7
    obtain ⟨_, ⟨z3, z4, z5⟩⟩ := FS.out w7 hb37
    have yk3 := cell_kept z3
    have yk4 := cell_kept z4
    have yk5 := cell_kept z5
    clear hb37
    go_wp2_with fail
    go_at_call 18
    generalize hw8 : World.alloc w7 _ = w8
    obtain ⟨k0, k1, k2, ks, kb⟩ := box3 hw8
    clear hw8 z3 z4 z5 yk3 yk4 yk5
    have hb38 : Below w3.heap.size w3 w8 := HB37.out.trans (kb.mono hs7)
    refine (toPlan_any w.heap.size A3 A4 c3 c4 q w8 l3 l4 (by omega) (H3'.out.below (hb38.mono (by omega)))).mono ?_
    rintro e w9 ⟨E3, E4, e3, e4, rfl, hown9, hb9⟩
    have hb79 : Below w7.heap.size w7 w9 := kb.trans (hb9.mono (by omega))
    have m0 := (hb9.cell (p := ⟨w7.heap.size, 0, none⟩) (by simp only []; omega)).trans k0
    have m1 := (hb9.cell (p := ⟨w7.heap.size, 1, none⟩) (by simp only []; omega)).trans k1
    have m2 := (hb9.cell (p := ⟨w7.heap.size, 2, none⟩) (by simp only []; omega)).trans k2
    have OW79 := Lib.hid (OW7.out.below hb79)
    have HD79 := Lib.hid hb79
    have hk8 : w8.heap.size = w7.heap.size + 1 := ks
    have hk8a : w7.heap.size + 1 ≤ w8.heap.size := by omega
    have hk8b : w8.heap.size ≤ w9.heap.size := hb9.size
    clear hk8
    have OW9 := Lib.hid hown9
    have HB39 := Lib.hid (HB37.out.trans (hb79.mono hs7))
    have hs9 : w7.heap.size + 1 ≤ w9.heap.size := by have := hb9.size; omega
    have mk0 := cell_kept m0
    have mk1 := cell_kept m1
    have mk2 := cell_kept m2
    clear k0 k1 k2 ks kb hb9 hb79 hown9 hb38
    go_wp2_with fail
    go_at_call 30
    generalize hw10 : World.alloc w9 _ = w10
    obtain ⟨n0, n1, n2, ns, nb⟩ := box3 hw10
    clear hw10 mk0 mk1 mk2
    refine (C2.out w10 E1 E2 E3 E4 e1 e2 e3 e4 (OW79.out.below nb).rd (OW9.out.below nb).rd).mono ?_
    rintro e w11 ⟨G1, G2, u1, u2, rfl, hresG, hb11⟩
    have hb911 : Below w9.heap.size w9 w11 := nb.trans (hb11.mono (by omega))
    have hs10 : w9.heap.size + 1 ≤ w10.heap.size := by omega
    have hs11 : w10.heap.size ≤ w11.heap.size := hb11.size
    have hsc7 : wc.heap.size ≤ w7.heap.size := HC7.out.size
    have hbc11 : Below wc.heap.size wc w11 := (HC7.out.trans (HD79.out.mono hsc7)).trans (hb911.mono (by omega))
    have blk := (hbc11.block g hglt).trans BLK.out
    obtain ⟨b0, b1, b2, _, _, _⟩ := cells3 blk
    have zb0 := cell_kept b0
    have zb1 := cell_kept b1
    have zb2 := cell_kept b2
    go_wp2_with fail
    go_at_call 20
    generalize hw12 : World.alloc w11 _ = w12
    obtain ⟨gg0, gg1, gg2, gs, gb⟩ := box3 hw12
    clear hw12 zb0 zb1 zb2
    have hs12 : w11.heap.size + 1 ≤ w12.heap.size := by omega
    have hbc12 : Below wc.heap.size wc w12 := hbc11.trans (gb.mono (by omega))
    have HGO := Lib.hid hresG
    have HG12 := Lib.hid (hresG.below gb)
    have hE := eqPlan_any w12.heap.size w12.heap.size G1 G2 R1 R2 u1 u2 v1 v2 r r w12 (by omega) (by omega) (by omega) (by omega) (Nat.le_refl _) (Nat.le_refl _) HG12.out.rd (RES.out.below hbc12).rd
    rw [eqP_refl] at hE
    refine hE.mono ?_
    rintro e w13 ⟨rfl, hb13⟩
    clear hE
    have hs13 : w12.heap.size ≤ w13.heap.size := hb13.size
    have hb1013 : Below w10.heap.size w10 w13 := hb11.trans ((gb.mono hs11).trans (hb13.mono (by omega)))
    have hb913 : Below w9.heap.size w9 w13 := nb.trans (hb1013.mono (by omega))
    have HBC13 := Lib.hid (hbc12.trans (hb13.mono (by omega)))
    have HB313 := Lib.hid (HB39.out.trans (hb913.mono (by omega)))
    have OP := Lib.hid (OW79.out.below hb913)
    have OQ := Lib.hid (OW9.out.below hb913)
    have HG13 := Lib.hid (HG12.out.below hb13)
    have o0 := (hb913.cell (p := ⟨w7.heap.size, 0, none⟩) (by simp only []; omega)).trans m0
    have o1 := (hb913.cell (p := ⟨w7.heap.size, 1, none⟩) (by simp only []; omega)).trans m1
    have o2 := (hb913.cell (p := ⟨w7.heap.size, 2, none⟩) (by simp only []; omega)).trans m2
    have r0 := (hb1013.cell (p := ⟨w9.heap.size, 0, none⟩) (by simp only []; omega)).trans n0
    have r1 := (hb1013.cell (p := ⟨w9.heap.size, 1, none⟩) (by simp only []; omega)).trans n1
    have r2 := (hb1013.cell (p := ⟨w9.heap.size, 2, none⟩) (by simp only []; omega)).trans n2
    have GG := Lib.hid (show ∀ j v, w12.cell? ⟨w11.heap.size, j, none⟩ = some v → w13.cell? ⟨w11.heap.size, j, none⟩ = some v from fun j v h => (hb13.cell (p := ⟨w11.heap.size, j, none⟩) (by simp only []; omega)).trans h)
    have GB := Lib.hid (show w13.cell? ⟨w11.heap.size, 0, none⟩ = some (.int .i64 r.n) ∧ w13.cell? ⟨w11.heap.size, 1, none⟩ = some (.slice G1 r.s.length u1) ∧ w13.cell? ⟨w11.heap.size, 2, none⟩ = some (.slice G2 r.o.length u2) from ⟨GG.out _ _ gg0, GG.out _ _ gg1, GG.out _ _ gg2⟩)
    have GS := Lib.hid (show ∀ x, Below w13.heap.size w13 x → ((x.cell? ⟨w.heap.size, 0, none⟩ = some (.int .i64 p.n) ∧ x.cell? ⟨w.heap.size, 1, none⟩ = some (.slice A1 p.s.length c1) ∧ x.cell? ⟨w.heap.size, 2, none⟩ = some (.slice A2 p.o.length c2)) ∧
        (x.cell? ⟨w.heap.size + 1, 0, none⟩ = some (.int .i64 q.n) ∧ x.cell? ⟨w.heap.size + 1, 1, none⟩ = some (.slice A3 q.s.length c3) ∧ x.cell? ⟨w.heap.size + 1, 2, none⟩ = some (.slice A4 q.o.length c4))) ∧
        (x.cell? ⟨w7.heap.size, 0, none⟩ = some (.int .i64 p.n) ∧ x.cell? ⟨w7.heap.size, 1, none⟩ = some (.slice E1 p.s.length e1) ∧ x.cell? ⟨w7.heap.size, 2, none⟩ = some (.slice E2 p.o.length e2)) ∧
        (x.cell? ⟨w9.heap.size, 0, none⟩ = some (.int .i64 q.n) ∧ x.cell? ⟨w9.heap.size, 1, none⟩ = some (.slice E3 q.s.length e3) ∧ x.cell? ⟨w9.heap.size, 2, none⟩ = some (.slice E4 q.o.length e4)) from fun x hx =>
      ⟨FS.out x (HB313.out.trans (hx.mono (by omega))),
        ⟨(hx.cell (p := ⟨w7.heap.size, 0, none⟩) (by simp only []; omega)).trans o0, (hx.cell (p := ⟨w7.heap.size, 1, none⟩) (by simp only []; omega)).trans o1, (hx.cell (p := ⟨w7.heap.size, 2, none⟩) (by simp only []; omega)).trans o2⟩,
        ⟨(hx.cell (p := ⟨w9.heap.size, 0, none⟩) (by simp only []; omega)).trans r0, (hx.cell (p := ⟨w9.heap.size, 1, none⟩) (by simp only []; omega)).trans r1, (hx.cell (p := ⟨w9.heap.size, 2, none⟩) (by simp only []; omega)).trans r2⟩⟩)
    have S1 := Lib.hid (show Below w13.heap.size w13 w13.drew from (Below.refl _ _).drew)
    have H11 := Lib.hid (H3.out.below (HB313.out.mono (by omega)))
    have H11' := Lib.hid (H3'.out.below (HB313.out.mono (by omega)))
    have HB11 := Lib.hid (HB3.out.trans (HB313.out.mono (by omega)))
    have hle : w.heap.size ≤ w13.heap.size := by omega
    clear hb11 hb911 hb913 hb1013 hb13 hbc11 hbc12 hresG gb gg0 gg1 gg2 gs b0 b1 b2 blk m0 m1 m2 n0 n1 n2 ns nb o0 o1 o2 r0 r1 r2
    go_wp2
    refine wp_region_T (fun x : World => Below w13.heap.size w13 x) [0, 1, 4] [0, 1] (.ls 0 (.ls 1 (.hv 2 (.hv 3 (.lp 4 (.done)))))) (by kernel_rfl) (by kernel_rfl) ?_
    refine T_ls1 (v := .agg #[.int .i64 p.n, .slice E1 p.s.length e1, .slice E2 p.o.length e2]) rfl rfl S1.out (fun x hx => (by obtain ⟨_, ⟨h0, h1, h2⟩, _⟩ := GS.out x hx; go_simp)) (fun K hK => ?_)
    (go_simp; refine hK _ ?_; clear hK K)
    refine T_ls1 (v := .agg #[.int .i64 p.n, .slice A1 p.s.length c1, .slice A2 p.o.length c2]) rfl rfl S1.out (fun x hx => (by obtain ⟨⟨⟨h0, h1, h2⟩, _⟩, _⟩ := GS.out x hx; go_simp)) (fun K hK => ?_)
    (go_simp; refine hK _ ?_; clear hK K)
    refine T_hvS rfl (fun K hK => ?_)
    go_simp
    go_at_call 18
    refine (toPlan_any w.heap.size A1 A2 c1 c2 p w13.drew l1 l2 (by simp; omega) H11.out.drew).mono ?_
    rintro e w14 ⟨D1, D2, f1, f2, rfl, hown12, hb12⟩
    have hb1112 : Below w13.heap.size w13 w14 := (Below.refl _ _).drew.trans hb12
    have HO := Lib.hid hown12
    have HP := Lib.hid (OP.out.below hb1112)
    have HB1112 := Lib.hid hb1112
    clear hown12 hb12
    go_simp
    refine hK _ _ hb1112 ?_
    clear hK K hb1112
    refine T_hvS rfl (fun K hK => ?_)
    go_simp
    go_at_call 20
    have hE := eqPlan_any w14.heap.size w14.heap.size E1 E2 D1 D2 e1 e2 f1 f2 p p w14 (by omega) (by omega) (by omega) (by omega) (Nat.le_refl _) (Nat.le_refl _) HP.out.rd HO.out.rd
    rw [eqP_refl] at hE
    refine hE.mono ?_
    rintro e w15 ⟨rfl, hb13⟩
    have hb1113 : Below w13.heap.size w13 w15 := HB1112.out.trans (hb13.mono HB1112.out.size)
    have HB1113 := Lib.hid hb1113
    clear hE hb13
    go_simp
    refine hK _ _ hb1113 ?_
    clear hK K hb1113
    (repeat (refine T_lp rfl (fun K hK => ?_); go_simp; refine hK _ ?_; clear hK K))
    refine T_done ?_
    have hs13 : w13.heap.size ≤ w15.heap.size := HB1113.out.size
    have S2 := Lib.hid (show Below w13.heap.size w13 w15.drew from HB1113.out.drew)
    go_wp2
    refine wp_region_T (fun x : World => Below w13.heap.size w13 x) [0, 1, 4] [0, 1] (.ls 0 (.ls 1 (.hv 2 (.hv 3 (.lp 4 (.done)))))) (by kernel_rfl) (by kernel_rfl) ?_
    refine T_ls1 (v := .agg #[.int .i64 q.n, .slice E3 q.s.length e3, .slice E4 q.o.length e4]) rfl rfl S2.out (fun x hx => (by obtain ⟨_, _, ⟨h0, h1, h2⟩⟩ := GS.out x hx; go_simp)) (fun K hK => ?_)
    (go_simp; refine hK _ ?_; clear hK K)
    refine T_ls1 (v := .agg #[.int .i64 q.n, .slice A3 q.s.length c3, .slice A4 q.o.length c4]) rfl rfl S2.out (fun x hx => (by obtain ⟨⟨_, ⟨h0, h1, h2⟩⟩, _⟩ := GS.out x hx; go_simp)) (fun K hK => ?_)
    (go_simp; refine hK _ ?_; clear hK K)
    refine T_hvS rfl (fun K hK => ?_)
    go_simp
    go_at_call 18
    refine (toPlan_any w.heap.size A3 A4 c3 c4 q w15.drew l3 l4 (by simp; omega) ((H11'.out.below (HB1113.out.mono hle)).drew)).mono ?_
    rintro e w16 ⟨F1, F2, g1, g2, rfl, hown14, hb14⟩
    have hb1114 : Below w13.heap.size w13 w16 := S2.out.trans (hb14.mono (by simp; omega))
    have HO4 := Lib.hid hown14
    have HQ := Lib.hid (OQ.out.below hb1114)
    have HB1114 := Lib.hid hb1114
    clear hown14 hb14
    go_simp
    refine hK _ _ hb1114 ?_
    clear hK K hb1114
    refine T_hvS rfl (fun K hK => ?_)
    go_simp
    go_at_call 20
    have hE := eqPlan_any w16.heap.size w16.heap.size E3 E4 F1 F2 e3 e4 g1 g2 q q w16 (by omega) (by omega) (by omega) (by omega) (Nat.le_refl _) (Nat.le_refl _) HQ.out.rd HO4.out.rd
    rw [eqP_refl] at hE
    refine hE.mono ?_
    rintro e w17 ⟨rfl, hb15⟩
    have hb1115 : Below w13.heap.size w13 w17 := HB1114.out.trans (hb15.mono HB1114.out.size)
    have HB1115 := Lib.hid hb1115
    clear hE hb15
    go_simp
    refine hK _ _ hb1115 ?_
    clear hK K hb1115
    (repeat (refine T_lp rfl (fun K hK => ?_); go_simp; refine hK _ ?_; clear hK K))
    refine T_done ?_
    obtain ⟨_, ⟨q0, q1, q2⟩, ⟨q3, q4, q5⟩⟩ := GS.out w17 HB1115.out
    have hs17 : w13.heap.size ≤ w17.heap.size := HB1115.out.size
    go_wp2_with fail
    go_at_call 21
    refine (markPlanM_any wc.heap.size w7.heap.size E1 E2 e1 e2 p 1 w17 l1 l2 (by omega) (by omega) (by omega) (by omega) (OP.out.below HB1115.out) (fun k hk => (own_block OW7.out.1 k hk).2) (fun k hk => (own_block OW7.out.2 k hk).2)).mono ?_
    rintro e w18 ⟨rfl, _, _, hwn⟩
    have hs18 := hwn.1.size
    have y3 := (World.cell?_of_block (a := ⟨w9.heap.size, 0, none⟩) (hwn.2 w9.heap.size (by omega) (by omega))).trans q3
    have y4 := (World.cell?_of_block (a := ⟨w9.heap.size, 1, none⟩) (hwn.2 w9.heap.size (by omega) (by omega))).trans q4
    have y5 := (World.cell?_of_block (a := ⟨w9.heap.size, 2, none⟩) (hwn.2 w9.heap.size (by omega) (by omega))).trans q5
    have HWN := Lib.hid hwn
    have OQ17 := Lib.hid (OQ.out.below HB1115.out)
    have OQ18 := Lib.hid (show OwP w18 w8.heap.size E3 E4 e3 e4 q from ⟨hwn.own OQ17.out.1 (by omega), hwn.own OQ17.out.2 (by omega)⟩)
    clear q0 q1 q2 q3 q4 q5 hwn
    go_wp2_with fail
    go_at_call 21
    refine (markPlanM_any w8.heap.size w9.heap.size E3 E4 e3 e4 q (1 + 2 * (p.s.length : Int) + (p.o.length : Int)) w18 l3 l4 (by omega) (by omega) (by omega) (by omega) OQ18.out (fun k hk => (own_block OW9.out.1 k hk).2) (fun k hk => (own_block OW9.out.2 k hk).2)).mono ?_
    rintro e w19 ⟨rfl, _, _, hwn2⟩
    have hs19 := hwn2.1.size
    have hk0 : ¬ (1 + 2 * (p.s.length : Int) + (p.o.length : Int) + 2 * (q.s.length : Int) + (q.o.length : Int) < 0) := by omega
    have hbc19 : Below wc.heap.size wc w19 := ((HBC13.out.trans (HB1115.out.mono (by omega))).trans HWN.out.1).trans (hwn2.1.mono (by omega))
    have blk := (hbc19.block g hglt).trans BLK.out
    obtain ⟨a0, a1, a2, _, _, _⟩ := cells3 blk
    have hgk : ∀ j v, w13.cell? ⟨w11.heap.size, j, none⟩ = some v → w19.cell? ⟨w11.heap.size, j, none⟩ = some v := fun j v h =>
      (World.cell?_of_block (a := ⟨w11.heap.size, j, none⟩) (hwn2.2 w11.heap.size (by omega) (by omega))).trans ((World.cell?_of_block (a := ⟨w11.heap.size, j, none⟩) (HWN.out.2 w11.heap.size (by omega) (by omega))).trans ((HB1115.out.cell (p := ⟨w11.heap.size, j, none⟩) (by simp only []; omega)).trans h))
    have i0 := hgk _ _ GB.out.1
    have i1 := hgk _ _ GB.out.2.1
    have i2 := hgk _ _ GB.out.2.2
    have HG17 := Lib.hid (HG13.out.below HB1115.out)
    have HG18 := Lib.hid (show OwP w18 w10.heap.size G1 G2 u1 u2 r from ⟨HWN.out.own HG17.out.1 (by omega), HWN.out.own HG17.out.2 (by omega)⟩)
    have HG19 := Lib.hid (show OwP w19 w10.heap.size G1 G2 u1 u2 r from ⟨hwn2.own HG18.out.1 (by omega), hwn2.own HG18.out.2 (by omega)⟩)
    have HBC19 := Lib.hid hbc19
    clear y3 y4 y5 hwn2 hbc19 blk hgk
    go_wp2_with fail
    go_at_call 20
    have hE := eqPlan_any w19.heap.size w19.heap.size G1 G2 R1 R2 u1 u2 v1 v2 r r w19 (by omega) (by omega) (by omega) (by omega) (Nat.le_refl _) (Nat.le_refl _) HG19.out.rd (RES.out.below HBC19.out).rd
    rw [eqP_refl] at hE
    refine hE.mono ?_
    rintro e w20 ⟨rfl, hb20⟩
    clear hE
    have hs20 := hb20.size
    have j0 := (hb20.cell (p := ⟨w11.heap.size, 0, none⟩) (by simp only []; omega)).trans i0
    have j1 := (hb20.cell (p := ⟨w11.heap.size, 1, none⟩) (by simp only []; omega)).trans i1
    have j2 := (hb20.cell (p := ⟨w11.heap.size, 2, none⟩) (by simp only []; omega)).trans i2
    have HBC20 := Lib.hid (HBC19.out.trans (hb20.mono (by omega)))
    have HG20 := Lib.hid (HG19.out.below hb20)
    clear a0 a1 a2 i0 i1 i2 hb20
    go_wp2_with fail
    go_at_call 21
    have hwin := markPlan_any w10.heap.size w11.heap.size G1 G2 u1 u2 r 1 w20 (by omega) (by omega) (by omega) (by omega) (by omega) (by omega) HG20.out (fun k hk => (own_block HGO.out.1 k hk).2) (fun k hk => (own_block HGO.out.2 k hk).2)
    refine hwin.mono ?_
    rintro e w21 ⟨rfl, hm1, hm2, hwn⟩
    clear hwin
    have hs21 := hwn.1.size
    have hk1 : ¬ (1 + 2 * (r.s.length : Int) + (r.o.length : Int) < 0) := by omega
    have x0 := (World.cell?_of_block (a := ⟨w11.heap.size, 0, none⟩) (hwn.2 w11.heap.size (Nat.le_refl _) (by omega))).trans j0
    have x1 := (World.cell?_of_block (a := ⟨w11.heap.size, 1, none⟩) (hwn.2 w11.heap.size (Nat.le_refl _) (by omega))).trans j1
    have x2 := (World.cell?_of_block (a := ⟨w11.heap.size, 2, none⟩) (hwn.2 w11.heap.size (Nat.le_refl _) (by omega))).trans j2
    have M1 := Lib.hid (own_rd_marksS hm1)
    have M2 := Lib.hid (own_rd_marks hm2)
    have HBC21 := Lib.hid (HBC20.out.trans (hwn.1.mono (by omega)))
    clear hwn hm1 hm2 j0 j1 j2
    go_wp2_with fail
    go_at_call 26
    refine (heldPlan_any w21.heap.size G1 G2 u1 u2 r.s.length r.o.length r.n 1 w21 (by omega) (by omega) (by omega) (by omega) (Nat.le_refl _) M1.out M2.out).mono ?_
    rintro e w22 ⟨rfl, hb22⟩
    have hs22 := hb22.size
    have O22 := Lib.hid (show w22.cell? ⟨w11.heap.size, 0, none⟩ = some (.int .i64 r.n) ∧ w22.cell? ⟨w11.heap.size, 1, none⟩ = some (.slice G1 r.s.length u1) ∧ w22.cell? ⟨w11.heap.size, 2, none⟩ = some (.slice G2 r.o.length u2) from
      ⟨(hb22.cell (p := ⟨w11.heap.size, 0, none⟩) (by simp only []; omega)).trans x0, (hb22.cell (p := ⟨w11.heap.size, 1, none⟩) (by simp only []; omega)).trans x1, (hb22.cell (p := ⟨w11.heap.size, 2, none⟩) (by simp only []; omega)).trans x2⟩)
    have HBC22 := Lib.hid (HBC21.out.trans (hb22.mono (by omega)))
    have M122 := Lib.hid (M1.out.below hb22)
    have M222 := Lib.hid (M2.out.below hb22)
    have BLK22 := Lib.hid ((HBC22.out.block g hglt).trans BLK.out)
    have RES22 := Lib.hid (RES.out.below HBC22.out)
    have hg22 : g < w22.heap.size := by omega
    have hG22 : w11.heap.size < w22.heap.size := by omega
    have HB3E := Lib.hid (HB36.out.trans (HBC22.out.mono hs6))
    have hs3e : w3.heap.size ≤ w22.heap.size := by omega
    have S22 := Lib.hid (show Below w22.heap.size w22 w22.drew from (Below.refl _ _).drew)
    clear x0 x1 x2 hb22
    go_wp2
    go_cut [15, 16] (fun v u wx => ∃ (h : Nat) (R3 R4 : Option Addr) (v3 v4 : Nat), v = .pointer (some ⟨h, 0, none⟩) ∧ u = .bool gd ∧ w22.heap.size ≤ h ∧ wx.heap[h]? = some (.cells #[.int .i64 r.n, .slice R3 r.s.length v3, .slice R4 r.o.length v4] 35 (0, 0)) ∧ OwP wx w22.heap.size R3 R4 v3 v4 r ∧ Below w22.heap.size w22 wx)
    case first =>
      refine wp_region_T (fun x : World => Below w22.heap.size w22 x) [0, 2, 5, 6, 7, 10] [0, 2] (.ls 0 (.ls 2 (.hv2 1 (.hv2 3 (.hv2 4 (.lp 5 (.lp 6 (.lp 7 (.hv 8 (.hv 9 (.lp 10 (.done))))))) 8 (.hv 4 (.lp 5 (.lp 6 (.lp 7 (.hv 9 (.lp 10 (.done)))))))) 8 (.hv 3 (.hv 4 (.lp 5 (.lp 6 (.lp 7 (.hv 9 (.lp 10 (.done))))))))) 8 (.hv 1 (.hv 3 (.hv 4 (.lp 5 (.lp 6 (.lp 7 (.hv 9 (.lp 10 (.done)))))))))))) (by kernel_rfl) (by kernel_rfl) ?_
      have sd := S22.out
      clear S22
      generalize World.drew w22 = wd at sd ⊢
      have HW := Lib.hid sd
      clear sd
      refine T_ls1 (v := .agg #[.int .i64 p.n, .slice A1 p.s.length c1, .slice A2 p.o.length c2]) rfl rfl HW.out (fun x hx => (by obtain ⟨⟨h0, h1, h2⟩, _⟩ := FS.out x (HB3E.out.trans (hx.mono hs3e)); go_simp)) (fun K hK => ?_)
      (go_simp; refine hK _ ?_; clear hK K)
      refine T_ls1 (v := .agg #[.int .i64 q.n, .slice A3 q.s.length c3, .slice A4 q.o.length c4]) rfl rfl HW.out (fun x hx => (by obtain ⟨_, ⟨h0, h1, h2⟩⟩ := FS.out x (HB3E.out.trans (hx.mono hs3e)); go_simp)) (fun K hK => ?_)
      (go_simp; refine hK _ ?_; clear hK K)
      refine T_hv2 ?_ ?_
      · refine T_hvS rfl (fun K hK => ?_)
        go_simp
        go_at_call 18
        have hsW := HW.out.size
        refine (toPlan_any w.heap.size A1 A2 c1 c2 p wd l1 l2 (by omega) (H3.out.below ((HB3E.out.trans (HW.out.mono hs3e)).mono (by omega)))).mono ?_
        rintro e W14 ⟨B1, B2, d1, d2, rfl, hown, hst⟩
        have hszW14 := hst.size
        have HW := Lib.hid (HW.out.trans (hst.mono HW.out.size))
        have OW1 := Lib.hid hown
        clear hown hst
        go_simp
        refine hK _ _ HW.out ?_
        clear hK K
        refine T_hv2 ?_ ?_
        · refine T_hvS rfl (fun K hK => ?_)
          go_simp
          go_at_call 18
          have hsW := HW.out.size
          refine (toPlan_any w.heap.size A3 A4 c3 c4 q W14 l3 l4 (by omega) (H3'.out.below ((HB3E.out.trans (HW.out.mono hs3e)).mono (by omega)))).mono ?_
          rintro e W15 ⟨B3, B4, d3, d4, rfl, hown, hst⟩
          have hszW15 := hst.size
          have OW1 := Lib.hid (OW1.out.below hst)
          have HW := Lib.hid (HW.out.trans (hst.mono HW.out.size))
          have OW2 := Lib.hid hown
          clear hown hst
          go_simp
          refine hK _ _ HW.out ?_
          clear hK K
          refine T_hv2 ?_ ?_
          · refine T_hvS rfl (fun K hK => ?_)
            go_simp
            go_at_call 30
            refine (C2.out W15 B1 B2 B3 B4 d1 d2 d3 d4 OW1.out.rd OW2.out.rd).mono ?_
            rintro e W16 ⟨R3, R4, v3, v4, rfl, hres, hst⟩
            have hszW16 := hst.size
            have hbase : w22.heap.size ≤ W15.heap.size := HW.out.size
            have HW := Lib.hid (HW.out.trans (hst.mono HW.out.size))
            have RES := Lib.hid (show OwP W16 w22.heap.size R3 R4 v3 v4 r from ⟨own_base hres.1 hbase, own_base hres.2 hbase⟩)
            clear hres hst hbase
            go_simp
            refine hK _ _ HW.out ?_
            clear hK K
            (repeat (refine T_lp rfl (fun K hK => ?_); go_simp; refine hK _ ?_; clear hK K))
            refine T_hvS rfl (fun K hK => ?_)
            go_simp
            refine hK _ _ (HW.out.alloc HW.out.size _) ?_
            clear hK K
            generalize hwa : World.alloc W16 _ = W17
            have hbx : W17.heap[W16.heap.size]? = some (.cells #[.int .i64 0, .slice none 0 0, .slice none 0 0] 35 (0, 0)) := by rw [← hwa]; exact heap_alloc_new W16 _
            have hst : Below W16.heap.size W16 W17 := by rw [← hwa]; exact (Below.refl _ _).alloc (Nat.le_refl _) _
            have hszW17 : W16.heap.size + 1 ≤ W17.heap.size := by rw [← hwa]; simp
            have hgb : w22.heap.size ≤ W16.heap.size := HW.out.size
            clear hwa
            have RES := Lib.hid (RES.out.below hst)
            have HW := Lib.hid (HW.out.trans (hst.mono HW.out.size))
            have BX := Lib.hid hbx
            clear hbx hst
            obtain ⟨t0, t1, t2, g0, g1, g2⟩ := cells3 BX.out
            (refine T_hv rfl (by kernel_rfl) (fun K hK => ?_); go_simp; refine hK _ _ ?_; clear hK K)
            (repeat (refine T_lp rfl (fun K hK => ?_); go_simp; refine hK _ ?_; clear hK K))
            refine T_done ?_
            go_wp2
            go_meet
            case rel =>
              obtain ⟨e1, e2, e3⟩ := stored3 (a := .int .i64 r.n) (b := .slice R3 r.s.length v3) (c := .slice R4 r.o.length v4) RES.out BX.out HW.out hgb
              exact ⟨W16.heap.size, R3, R4, v3, v4, rfl, rfl, hgb, e1, e2, e3⟩
          · refine T_hvS rfl (fun K hK => ?_)
            go_simp
            refine hK _ _ (HW.out.alloc HW.out.size _) ?_
            clear hK K
            generalize hwa : World.alloc W15 _ = W18
            have hbx : W18.heap[W15.heap.size]? = some (.cells #[.int .i64 0, .slice none 0 0, .slice none 0 0] 35 (0, 0)) := by rw [← hwa]; exact heap_alloc_new W15 _
            have hst : Below W15.heap.size W15 W18 := by rw [← hwa]; exact (Below.refl _ _).alloc (Nat.le_refl _) _
            have hszW18 : W15.heap.size + 1 ≤ W18.heap.size := by rw [← hwa]; simp
            have hgb : w22.heap.size ≤ W15.heap.size := HW.out.size
            clear hwa
            have OW1 := Lib.hid (OW1.out.below hst)
            have OW2 := Lib.hid (OW2.out.below hst)
            have HW := Lib.hid (HW.out.trans (hst.mono HW.out.size))
            have BX := Lib.hid hbx
            clear hbx hst
            refine T_hvS rfl (fun K hK => ?_)
            go_simp
            go_at_call 30
            refine (C2.out W18 B1 B2 B3 B4 d1 d2 d3 d4 OW1.out.rd OW2.out.rd).mono ?_
            rintro e W19 ⟨R3, R4, v3, v4, rfl, hres, hst⟩
            have hszW19 := hst.size
            have hbase : w22.heap.size ≤ W18.heap.size := HW.out.size
            have BX := Lib.hid ((hst.block W15.heap.size (by omega)).trans BX.out)
            have HW := Lib.hid (HW.out.trans (hst.mono HW.out.size))
            have RES := Lib.hid (show OwP W19 w22.heap.size R3 R4 v3 v4 r from ⟨own_base hres.1 hbase, own_base hres.2 hbase⟩)
            clear hres hst hbase
            go_simp
            refine hK _ _ HW.out ?_
            clear hK K
            (repeat (refine T_lp rfl (fun K hK => ?_); go_simp; refine hK _ ?_; clear hK K))
            obtain ⟨t0, t1, t2, g0, g1, g2⟩ := cells3 BX.out
            (refine T_hv rfl (by kernel_rfl) (fun K hK => ?_); go_simp; refine hK _ _ ?_; clear hK K)
            (repeat (refine T_lp rfl (fun K hK => ?_); go_simp; refine hK _ ?_; clear hK K))
            refine T_done ?_
            go_wp2
            go_meet
            case rel =>
              obtain ⟨e1, e2, e3⟩ := stored3 (a := .int .i64 r.n) (b := .slice R3 r.s.length v3) (c := .slice R4 r.o.length v4) RES.out BX.out HW.out hgb
              exact ⟨W15.heap.size, R3, R4, v3, v4, rfl, rfl, hgb, e1, e2, e3⟩
        · refine T_hvS rfl (fun K hK => ?_)
          go_simp
          refine hK _ _ (HW.out.alloc HW.out.size _) ?_
          clear hK K
          generalize hwa : World.alloc W14 _ = W20
          have hbx : W20.heap[W14.heap.size]? = some (.cells #[.int .i64 0, .slice none 0 0, .slice none 0 0] 35 (0, 0)) := by rw [← hwa]; exact heap_alloc_new W14 _
          have hst : Below W14.heap.size W14 W20 := by rw [← hwa]; exact (Below.refl _ _).alloc (Nat.le_refl _) _
          have hszW20 : W14.heap.size + 1 ≤ W20.heap.size := by rw [← hwa]; simp
          have hgb : w22.heap.size ≤ W14.heap.size := HW.out.size
          clear hwa
          have OW1 := Lib.hid (OW1.out.below hst)
          have HW := Lib.hid (HW.out.trans (hst.mono HW.out.size))
          have BX := Lib.hid hbx
          clear hbx hst
          refine T_hvS rfl (fun K hK => ?_)
          go_simp
          go_at_call 18
          have hsW := HW.out.size
          refine (toPlan_any w.heap.size A3 A4 c3 c4 q W20 l3 l4 (by omega) (H3'.out.below ((HB3E.out.trans (HW.out.mono hs3e)).mono (by omega)))).mono ?_
          rintro e W21 ⟨B3, B4, d3, d4, rfl, hown, hst⟩
          have hszW21 := hst.size
          have OW1 := Lib.hid (OW1.out.below hst)
          have BX := Lib.hid ((hst.block W14.heap.size (by omega)).trans BX.out)
          have HW := Lib.hid (HW.out.trans (hst.mono HW.out.size))
          have OW2 := Lib.hid hown
          clear hown hst
          go_simp
          refine hK _ _ HW.out ?_
          clear hK K
          refine T_hvS rfl (fun K hK => ?_)
          go_simp
          go_at_call 30
          refine (C2.out W21 B1 B2 B3 B4 d1 d2 d3 d4 OW1.out.rd OW2.out.rd).mono ?_
          rintro e W22 ⟨R3, R4, v3, v4, rfl, hres, hst⟩
          have hszW22 := hst.size
          have hbase : w22.heap.size ≤ W21.heap.size := HW.out.size
          have BX := Lib.hid ((hst.block W14.heap.size (by omega)).trans BX.out)
          have HW := Lib.hid (HW.out.trans (hst.mono HW.out.size))
          have RES := Lib.hid (show OwP W22 w22.heap.size R3 R4 v3 v4 r from ⟨own_base hres.1 hbase, own_base hres.2 hbase⟩)
          clear hres hst hbase
          go_simp
          refine hK _ _ HW.out ?_
          clear hK K
          (repeat (refine T_lp rfl (fun K hK => ?_); go_simp; refine hK _ ?_; clear hK K))
          obtain ⟨t0, t1, t2, g0, g1, g2⟩ := cells3 BX.out
          (refine T_hv rfl (by kernel_rfl) (fun K hK => ?_); go_simp; refine hK _ _ ?_; clear hK K)
          (repeat (refine T_lp rfl (fun K hK => ?_); go_simp; refine hK _ ?_; clear hK K))
          refine T_done ?_
          go_wp2
          go_meet
          case rel =>
            obtain ⟨e1, e2, e3⟩ := stored3 (a := .int .i64 r.n) (b := .slice R3 r.s.length v3) (c := .slice R4 r.o.length v4) RES.out BX.out HW.out hgb
            exact ⟨W14.heap.size, R3, R4, v3, v4, rfl, rfl, hgb, e1, e2, e3⟩
      · refine T_hvS rfl (fun K hK => ?_)
        go_simp
        refine hK _ _ (HW.out.alloc HW.out.size _) ?_
        clear hK K
        generalize hwa : World.alloc wd _ = W23
        have hbx : W23.heap[wd.heap.size]? = some (.cells #[.int .i64 0, .slice none 0 0, .slice none 0 0] 35 (0, 0)) := by rw [← hwa]; exact heap_alloc_new wd _
        have hst : Below wd.heap.size wd W23 := by rw [← hwa]; exact (Below.refl _ _).alloc (Nat.le_refl _) _
        have hszW23 : wd.heap.size + 1 ≤ W23.heap.size := by rw [← hwa]; simp
        have hgb : w22.heap.size ≤ wd.heap.size := HW.out.size
        clear hwa
        have HW := Lib.hid (HW.out.trans (hst.mono HW.out.size))
        have BX := Lib.hid hbx
        clear hbx hst
        refine T_hvS rfl (fun K hK => ?_)
        go_simp
        go_at_call 18
        have hsW := HW.out.size
        refine (toPlan_any w.heap.size A1 A2 c1 c2 p W23 l1 l2 (by omega) (H3.out.below ((HB3E.out.trans (HW.out.mono hs3e)).mono (by omega)))).mono ?_
        rintro e W24 ⟨B1, B2, d1, d2, rfl, hown, hst⟩
        have hszW24 := hst.size
        have BX := Lib.hid ((hst.block wd.heap.size (by omega)).trans BX.out)
        have HW := Lib.hid (HW.out.trans (hst.mono HW.out.size))
        have OW1 := Lib.hid hown
        clear hown hst
        go_simp
        refine hK _ _ HW.out ?_
        clear hK K
        refine T_hvS rfl (fun K hK => ?_)
        go_simp
        go_at_call 18
        have hsW := HW.out.size
        refine (toPlan_any w.heap.size A3 A4 c3 c4 q W24 l3 l4 (by omega) (H3'.out.below ((HB3E.out.trans (HW.out.mono hs3e)).mono (by omega)))).mono ?_
        rintro e W25 ⟨B3, B4, d3, d4, rfl, hown, hst⟩
        have hszW25 := hst.size
        have OW1 := Lib.hid (OW1.out.below hst)
        have BX := Lib.hid ((hst.block wd.heap.size (by omega)).trans BX.out)
        have HW := Lib.hid (HW.out.trans (hst.mono HW.out.size))
        have OW2 := Lib.hid hown
        clear hown hst
        go_simp
        refine hK _ _ HW.out ?_
        clear hK K
        refine T_hvS rfl (fun K hK => ?_)
        go_simp
        go_at_call 30
        refine (C2.out W25 B1 B2 B3 B4 d1 d2 d3 d4 OW1.out.rd OW2.out.rd).mono ?_
        rintro e W26 ⟨R3, R4, v3, v4, rfl, hres, hst⟩
        have hszW26 := hst.size
        have hbase : w22.heap.size ≤ W25.heap.size := HW.out.size
        have BX := Lib.hid ((hst.block wd.heap.size (by omega)).trans BX.out)
        have HW := Lib.hid (HW.out.trans (hst.mono HW.out.size))
        have RES := Lib.hid (show OwP W26 w22.heap.size R3 R4 v3 v4 r from ⟨own_base hres.1 hbase, own_base hres.2 hbase⟩)
        clear hres hst hbase
        go_simp
        refine hK _ _ HW.out ?_
        clear hK K
        (repeat (refine T_lp rfl (fun K hK => ?_); go_simp; refine hK _ ?_; clear hK K))
        obtain ⟨t0, t1, t2, g0, g1, g2⟩ := cells3 BX.out
        (refine T_hv rfl (by kernel_rfl) (fun K hK => ?_); go_simp; refine hK _ _ ?_; clear hK K)
        (repeat (refine T_lp rfl (fun K hK => ?_); go_simp; refine hK _ ?_; clear hK K))
        refine T_done ?_
        go_wp2
        go_meet
        case rel =>
          obtain ⟨e1, e2, e3⟩ := stored3 (a := .int .i64 r.n) (b := .slice R3 r.s.length v3) (c := .slice R4 r.o.length v4) RES.out BX.out HW.out hgb
          exact ⟨wd.heap.size, R3, R4, v3, v4, rfl, rfl, hgb, e1, e2, e3⟩
    case rest =>
      obtain ⟨h, R3, R4, v3, v4, rfl, rfl, hh, hblk2, hres2, hb2e⟩ := hcut
      obtain ⟨s0, s1, s2, _, _, _⟩ := cells3 hblk2
      obtain ⟨s3, s4, s5, _, _, _⟩ := cells3 ((hb2e.block g hg22).trans BLK22.out)
      have RS2 := Lib.hid hres2
      have HB2E := Lib.hid hb2e
      have hs2e : w22.heap.size ≤ wc.heap.size := hb2e.size
      clear hblk2 hres2 hb2e
      go_wp2_with fail
      go_at_call 20
      have hE := eqPlan_any wc.heap.size wc.heap.size R3 R4 R1 R2 v3 v4 v1 v2 r r wc (by omega) (by omega) (by omega) (by omega) (Nat.le_refl _) (Nat.le_refl _) RS2.out.rd (RES22.out.below HB2E.out).rd
      rw [eqP_refl] at hE
      refine hE.mono ?_
      rintro e w24 ⟨rfl, hb24⟩
      clear hE
      have hb2224 : Below w22.heap.size w22 w24 := HB2E.out.trans (hb24.mono hs2e)
      have t0 := (hb2224.cell (p := ⟨w11.heap.size, 0, none⟩) hG22).trans O22.out.1
      have t1 := (hb2224.cell (p := ⟨w11.heap.size, 1, none⟩) hG22).trans O22.out.2.1
      have t2 := (hb2224.cell (p := ⟨w11.heap.size, 2, none⟩) hG22).trans O22.out.2.2
      have hs24 := hb2224.size
      have HB2224 := Lib.hid hb2224
      clear hb2224 hb24 s0 s1 s2 s3 s4 s5
      go_wp2_with fail
      go_at_call 26
      refine (heldPlan_any w22.heap.size G1 G2 u1 u2 r.s.length r.o.length r.n 1 w24 (by omega) (by omega) (by omega) (by omega) (by omega) ((M122.out.more (by omega)).below HB2224.out) ((M222.out.more (by omega)).below HB2224.out)).mono ?_
      rintro e w25 ⟨rfl, hb25⟩
      have HB25 := Lib.hid ((HB3.out.trans (HB3E.out.mono (by omega))).trans ((HB2224.out.mono (by omega)).trans (hb25.mono (by omega))))
      clear hb25 t0 t1 t2
      go_wp2
      go_ret
      exact ⟨rfl, HB25.out⟩

set_option maxRecDepth 100000 in
theorem joinPlans_lifted (os : Os) (started : os.Started) (H : Type) (enc : TypeId × Value → H) :
    ReturnsInHanded {} Try.checked os 8 .any (Rows.fnExactJoinPlansSpec.pre6 enc Try.prog Try.f8 Rows.fnExactJoinPlansRow.domain false) (Rows.fnExactJoinPlansSpec.post enc Try.prog Try.f8 false true false false) := by
  refine returnsInHanded_of_change (C := Try.checked) own started (by kernel_rfl) Try.func8
    (ChangeSpec.witness6 (enc := enc) (C := Try.checked) false ⟨#[], #[.agg #[.int .i64 0, .slice none 0 0, .slice none 0 0], .agg #[.int .i64 0, .slice none 0 0, .slice none 0 0]], []⟩ 8 (by kernel_rfl) (by kernel_rfl) (by kernel_rfl) (by kernel_rfl)) ?_
  intro W base args ds gs before hval0 hW _ _
  have hval : ∀ (j : Nat) t v, Try.f8.params[j]? = some t → args[j]? = some v → Value.okWide Try.prog W .any base t v := hval0
  have hW' := hW
  obtain ⟨p, q, hA0, hV, rfl, hfz, hnd⟩ := hW
  have hA : DataW.TrodAll enc Try.prog W 0 (fun _ => true) true Try.f8.params.toList args.toList ds p := hA0
  rw [Try.params8] at hA hval
  obtain ⟨v0, v1, d0, d1, p0, p1, rfl, rfl, rfl, h0, h1⟩ := trodAll_two hA
  obtain ⟨rfl, rfl⟩ := trodVars_none hV
  have hv0 := hval 0 30 v0 rfl rfl
  have hv1 := hval 1 30 v1 rfl rfl
  obtain ⟨A1, A2, c1, c2, pl, hv, l1, l2, hrd⟩ := open_plan hv0 h0
  obtain ⟨A3, A4, c3, c4, ql, hu, l3, l4, hrd'⟩ := open_plan hv1 h1
  have h0k := h0
  have h1k := h1
  subst hv
  subst hu
  clear hA0 hval0
  simp only [List.append_nil] at hW'
  refine (lawJoinPlans A1 A2 A3 A4 c1 c2 c3 c4 pl ql W l1 l2 l3 l4 hrd hrd').mono fun e W' ⟨he, hb⟩ => ?_
  subst he
  have hlt : ∀ x ∈ p0 ++ p1, x.block < W.heap.size := fun x hx => by simpa using hW'.lt x hx
  refine ⟨_, rfl, _, _, _, [], p0 ++ p1, [], hW', trodAll_mk1 (shut_bool Try.underlying4 _), ?_, rfl, hb.frame _, fun h => by cases h⟩
  exact trodAll_mk2 (Below.trod laidOut (by kernel_rfl) (of_decide_eq_true (by kernel_rfl)) h0k hb fun x hx => hlt x (List.mem_append_left _ hx)) (Below.trod laidOut (by kernel_rfl) (of_decide_eq_true (by kernel_rfl)) h1k hb fun x hx => hlt x (List.mem_append_right _ hx))

theorem joinPlans_holds : Rows.FnExactJoinPlansSaid :=
  OpenClaim.holds_of_wide 8 Try.f8 rfl rfl rfl rfl rfl rfl rfl ⟨rfl, rfl, rfl, rfl, rfl⟩ rfl rfl rfl rfl rfl (by kernel_rfl) Try.func8 (by kernel_rfl)
    (of_decide_eq_true (by kernel_rfl)) (by unfold Func.isWrapper; rw [if_neg (of_decide_eq_false (by kernel_rfl))]; exact ⟨rfl, rfl⟩)
    (fun os started H enc _ => joinPlans_lifted os started H enc)
end Go.Proofs.Yteldndbfopdehab
