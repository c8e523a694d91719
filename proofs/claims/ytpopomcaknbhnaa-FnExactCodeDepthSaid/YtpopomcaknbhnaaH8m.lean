/- RunCode and CodeDepth of the program. -/
import Derived.Test.YtpopomcaknbhnaaH8h
import Derived.Test.YtpopomcaknbhnaaH8j
namespace Go.Proofs.Ytpopomcaknbhnaa
open Go.RowKit
def rcG (q : Cd) (x m : Int) : Bool := cdB q && (isC x && (decide (1 ≤ m) && decide (m ≤ 1000000)))
def rcA8 (q : Cd) (x m : Int) : Int := if rcG q x m then cdR q x m else 0
def dpA8 (q : Cd) : Int := if cdB q then cdD q else 0
theorem rc_bad {q : Cd} {x m : Int} (h : rcG q x m = false) : rcA8 q x m = 0 := by unfold rcA8; rw [h]; rfl
theorem rc_good {q : Cd} {x : Int} {m i : Nat} (h : rcG q x m = true) (hi : q.out = i) : rcA8 q x m = vI (gvs (rmV (m : Int)) (x % (m : Int)) q.ops q.ops.length) (i : Int) := by unfold rcA8; rw [if_pos h]; unfold cdR; rw [hi]
theorem dp_bad {q : Cd} (h : cdB q = false) : dpA8 q = 0 := by unfold dpA8; rw [h]; rfl
theorem dp_good {q : Cd} {i : Nat} (h : cdB q = true) (hi : q.out = i) : dpA8 q = vI (gvs dpV 0 q.ops q.ops.length) (i : Int) := by unfold dpA8; rw [if_pos h]; unfold cdD; rw [hi]

set_option maxRecDepth 100000 in
set_option maxHeartbeats 4000000 in
theorem implDepth8_any (B : Nat) (A : Option Addr) (c : Nat) (q : Cd) (w : World) (hB : B ≤ w.heap.size) (hl : q.ops.length ≤ 1048576) (hc : q.ops.length ≤ c) (hr : RdD w B A q) :
    Calls Try.prog 35 #[.agg #[.slice A q.ops.length c, .int .i64 q.out]] w fun e w' => e = .returned (.tuple #[.int .i64 (dpA8 q), .bool (cdB q)]) ∧ Below w.heap.size w w' := by
  have IC := Lib.hid (fun (W : World) (hb : Below w.heap.size w W) => implIsCode8_any B A c q W (by have := hb.size; omega) hl hc (hr.below' hb hB))
  have H := Lib.hid hr
  clear hr
  cases hg : cdB q with
  | false =>
    have E := Lib.hid (dp_bad hg)
    rw [hg] at IC
    clear hg
    go_enter Try.func35, Try.ntmps35
    go_wp2_with fail
    go_at_call 22
    generalize hw1 : World.alloc w _ = w1
    obtain ⟨⟨x0, x1⟩, xs, xb⟩ := bx2c hw1
    clear hw1
    refine (IC.out _ xb).mono ?_
    rintro e w2 ⟨rfl, hb2⟩
    have HB2 := Lib.hid (xb.trans (hb2.mono (by omega)))
    clear hb2 xb xs x0 x1
    go_wp2
    go_ret2
    exact ⟨by rw [E.out]; rfl, HB2.out⟩
  | true =>
    obtain ⟨f0, f1, f2, f4⟩ := cdB_facts hg
    obtain ⟨i, hi⟩ : ∃ i : Nat, q.out = i := ⟨q.out.toNat, by omega⟩
    have hin : i < q.ops.length + 1 := by omega
    have hgl := gvs_len dpV 0 q.ops q.ops.length
    have E := Lib.hid (dp_good hg hi)
    have BD := Lib.hid (show ∀ k, k ≤ q.ops.length → ∀ v ∈ gvs dpV 0 q.ops k, 0 ≤ v ∧ v ≤ 1000 from fun k hk v hv => by have := dp_rng k hk v hv; omega)
    have VS := Lib.hid (fun (W : World) (hb : Below w.heap.size w W) => dpVals_any B A c q 0 W (by have := hb.size; omega) f0 f4 BD.out (H.out.below' hb hB))
    rw [hg] at IC
    have IC := Lib.hid (fun W h1 => by have h := IC.out W h1; rw [hi] at h; exact h)
    rw [hi]
    obtain ⟨V, hV⟩ : ∃ V, gvs dpV 0 q.ops q.ops.length = V := ⟨_, rfl⟩
    rw [hV] at hgl E VS
    obtain ⟨X, hX⟩ : ∃ X, vI V (i : Int) = X := ⟨_, rfl⟩
    rw [hX] at E
    have HX := Lib.hid hX
    have HGL := Lib.hid hgl
    have ii : (i : Int) < ((q.ops.length + 1 : Nat) : Int) := by omega
    have ii2 : (i : Int) < (q.ops.length : Int) + 1 := by omega
    clear hg hi f1 f2 f4 hV BD hX hgl
    go_enter Try.func35, Try.ntmps35
    go_wp2_with fail
    go_at_call 22
    generalize hw1 : World.alloc w _ = w1
    obtain ⟨⟨x0, x1⟩, xs, xb⟩ := bx2c hw1
    clear hw1
    refine (IC.out _ xb).mono ?_
    rintro e w2 ⟨rfl, hb2⟩
    have y0 := (hb2.cell (p := ⟨w.heap.size, 0, none⟩) (by simp only []; omega)).trans x0
    have y1 := (hb2.cell (p := ⟨w.heap.size, 1, none⟩) (by simp only []; omega)).trans x1
    have HB2 := Lib.hid (xb.trans (hb2.mono (by omega)))
    have hs2 : w.heap.size + 1 ≤ w2.heap.size := by have := hb2.size; omega
    clear hb2 xb xs x0 x1
    go_wp2
    have FX := Lib.hid (show ∀ x, Below w2.heap.size w2 x → x.cell? ⟨w.heap.size, 0, none⟩ = some (.slice A q.ops.length c) ∧ x.cell? ⟨w.heap.size, 1, none⟩ = some (.int .i64 (i : Int)) from fun x hx => ⟨(hx.cell (p := ⟨w.heap.size, 0, none⟩) (by simp only []; omega)).trans y0, (hx.cell (p := ⟨w.heap.size, 1, none⟩) (by simp only []; omega)).trans y1⟩)
    have SD := Lib.hid (show Below w2.heap.size w2 w2.drew from (Below.refl _ _).drew)
    refine wp_region_T (fun x : World => Below w2.heap.size w2 x) [0, 1, 2, 3, 5, 6, 7, 9, 10] [1, 6] (.lp 0 (.lp 2 (.lp 3 (.lp 5 (.ls 1 (.ls 6 (.hv 4 (.lp 7 (.hv 8 (.lp 9 (.lp 10 (.done)))))))))))) (by kernel_rfl) (by kernel_rfl) ?_
    generalize World.drew w2 = wd at SD ⊢
    have hsd := SD.out.size
    (repeat (refine T_lp rfl (fun K hK => ?_); go_simp; refine hK _ ?_; clear hK K))
    refine T_ls1 (v := .slice A q.ops.length c) rfl rfl SD.out (fun x hx => (by have h1 := (FX.out x hx).1; go_simp)) (fun K hK => ?_)
    (go_simp; refine hK _ ?_; clear hK K)
    refine T_ls1 (v := .int .i64 (i : Int)) rfl rfl SD.out (fun x hx => (by have h1 := (FX.out x hx).2; go_simp)) (fun K hK => ?_)
    (go_simp; refine hK _ ?_; clear hK K)
    refine T_hvS rfl (fun K hK => ?_)
    go_simp
    go_at_call 72
    refine (VS.out wd (HB2.out.trans (SD.out.mono (by omega)))).mono ?_
    rintro e w3 ⟨A3, c3, rfl, ho3, hb3⟩
    have SB := Lib.hid (SD.out.trans (hb3.mono SD.out.size))
    have hs3 := SB.out.size
    obtain ⟨g, rfl, hgB, hgs, hcs, hfs⟩ := own_at (show w3.ownsRow wd.heap.size 3 1 (.slice A3 (q.ops.length + 1) c3) (q.ops.length + 1) (V.map I) by have h : w3.ownsRow _ _ _ _ _ _ := ho3; rw [HGL.out] at h; exact h) (by omega)
    have hvx := HX.out
    have hil : i < V.length := by rw [HGL.out]; exact hin
    rw [vI_at hil] at hvx
    have hci : w3.cell? ⟨g, i, none⟩ = some (.int .i64 X) := by rw [hcs i (by omega), List.getElem?_map, List.getElem?_eq_getElem hil, hvx]; rfl
    clear hvx hil
    have hB3 := Lib.hid hb3
    clear ho3 hb3 hcs hfs
    go_simp
    refine hK _ _ SB.out ?_
    clear hK K
    (repeat (refine T_lp rfl (fun K hK => ?_); go_simp; refine hK _ ?_; clear hK K))
    (refine T_hv rfl (by kernel_rfl) (fun K hK => ?_); go_simp)
    refine hK _ _ ?_
    clear hK K
    (repeat (refine T_lp rfl (fun K hK => ?_); go_simp; refine hK _ ?_; clear hK K))
    refine T_done ?_
    go_wp2
    go_ret2
    exact ⟨by rw [E.out]; rfl, HB2.out.trans ((SD.out.mono (by omega)).trans (hB3.out.mono (by omega)))⟩

set_option maxRecDepth 100000 in
set_option maxHeartbeats 4000000 in
theorem implRun8_any (B : Nat) (A : Option Addr) (c : Nat) (q : Cd) (x m : Int) (w : World) (hB : B ≤ w.heap.size) (hl : q.ops.length ≤ 1048576) (hc : q.ops.length ≤ c) (hr : RdD w B A q) :
    Calls Try.prog 25 #[.agg #[.slice A q.ops.length c, .int .i64 q.out], .int .i64 x, .int .i64 m] w fun e w' => e = .returned (.tuple #[.int .i64 (rcA8 q x m), .bool (rcG q x m)]) ∧ Below w.heap.size w w' := by
  have IC := Lib.hid (fun (W : World) (hb : Below w.heap.size w W) => implIsCode8_any B A c q W (by have := hb.size; omega) hl hc (hr.below' hb hB))
  have H := Lib.hid hr
  have IX := Lib.hid (fun W => (isCoef_any x W).mono fun e w' h => (⟨h.1, h.2.symm⟩ : e = .returned (.bool (isC x)) ∧ W = w'))
  clear hr
  have RG := Lib.hid (show rcG q x m = (cdB q && (isC x && (decide (1 ≤ m) && decide (m ≤ 1000000)))) from rfl)
  have RB := Lib.hid (fun h => rc_bad (q := q) (x := x) (m := m) h)
  cases hg : cdB q with
  | false =>
    have G := Lib.hid (show rcG q x m = false by rw [RG.out, hg]; rfl)
    have E := Lib.hid (RB.out G.out)
    rw [hg] at IC
    clear hg
    go_enter Try.func25, Try.ntmps25
    go_wp2_with fail
    go_at_call 22
    generalize hw1 : World.alloc w _ = w1
    obtain ⟨⟨x0, x1⟩, xs, xb⟩ := bx2c hw1
    clear hw1
    refine (IC.out _ xb).mono ?_
    rintro e w2 ⟨rfl, hb2⟩
    have HB2 := Lib.hid (xb.trans (hb2.mono (by omega)))
    clear hb2 xb xs x0 x1
    go_wp2
    go_ret2
    exact ⟨by rw [E.out, G.out]; rfl, HB2.out⟩
  | true =>
    rw [hg] at IC
    cases hx : isC x with
    | false =>
      have G := Lib.hid (show rcG q x m = false by rw [RG.out, hx]; simp)
      have E := Lib.hid (RB.out G.out)
      rw [hx] at IX
      clear hg hx
      go_enter Try.func25, Try.ntmps25
      go_wp2_with fail
      go_at_call 22
      generalize hw1 : World.alloc w _ = w1
      obtain ⟨⟨x0, x1⟩, xs, xb⟩ := bx2c hw1
      clear hw1
      refine (IC.out _ xb).mono ?_
      rintro e w2 ⟨rfl, hb2⟩
      have HB2 := Lib.hid (xb.trans (hb2.mono (by omega)))
      clear hb2 xb xs x0 x1
      go_wp2_with (go_at_call 71; refine (IX.out _).mono ?_; rintro e w3 ⟨rfl, rfl⟩)
      go_ret2
      exact ⟨by rw [E.out, G.out]; rfl, HB2.out⟩
    | true =>
      rw [hx] at IX
      by_cases hm : 1 ≤ m ∧ m ≤ 1000000
      case neg =>
        have G := Lib.hid (show rcG q x m = false by
          rw [RG.out]
          cases h1 : decide (1 ≤ m) with
          | false => simp
          | true =>
            have := of_decide_eq_true h1
            rw [decide_eq_false (show ¬ m ≤ 1000000 by omega)]; simp)
        have E := Lib.hid (RB.out G.out)
        clear hg hx
        by_cases hm1 : m < 1
        · go_enter Try.func25, Try.ntmps25
          go_wp2_with fail
          go_at_call 22
          generalize hw1 : World.alloc w _ = w1
          obtain ⟨⟨x0, x1⟩, xs, xb⟩ := bx2c hw1
          clear hw1
          refine (IC.out _ xb).mono ?_
          rintro e w2 ⟨rfl, hb2⟩
          have HB2 := Lib.hid (xb.trans (hb2.mono (by omega)))
          clear hb2 xb xs x0 x1
          go_wp2_with (go_at_call 71; refine (IX.out _).mono ?_; rintro e w3 ⟨rfl, rfl⟩)
          go_ret2
          exact ⟨by rw [E.out, G.out]; rfl, HB2.out⟩
        · have hm2 : (1000000 : Int) < m := by omega
          go_enter Try.func25, Try.ntmps25
          go_wp2_with fail
          go_at_call 22
          generalize hw1 : World.alloc w _ = w1
          obtain ⟨⟨x0, x1⟩, xs, xb⟩ := bx2c hw1
          clear hw1
          refine (IC.out _ xb).mono ?_
          rintro e w2 ⟨rfl, hb2⟩
          have HB2 := Lib.hid (xb.trans (hb2.mono (by omega)))
          clear hb2 xb xs x0 x1
          go_wp2_with (go_at_call 71; refine (IX.out _).mono ?_; rintro e w3 ⟨rfl, rfl⟩)
          go_ret2
          exact ⟨by rw [E.out, G.out]; rfl, HB2.out⟩
      case pos =>
        obtain ⟨M, rfl⟩ : ∃ M : Nat, m = M := ⟨m.toNat, by omega⟩
        have hM : 0 < M := by omega
        have hM2 : M ≤ 1000000 := by omega
        have i1 : ¬ (M : Int) < 1 := by omega
        have i2 : ¬ (1000000 : Int) < (M : Int) := by omega
        obtain ⟨f0, f1, f2, f4⟩ := cdB_facts hg
        obtain ⟨i, hi⟩ : ∃ i : Nat, q.out = i := ⟨q.out.toNat, by omega⟩
        have hin : i < q.ops.length + 1 := by omega
        have G := Lib.hid (show rcG q x (M : Int) = true by rw [RG.out, hg, hx, decide_eq_true hm.1, decide_eq_true hm.2]; rfl)
        have E := Lib.hid (rc_good G.out hi)
        have hgl := gvs_len (rmV (M : Int)) (x % (M : Int)) q.ops q.ops.length
        have BD := Lib.hid (show ∀ k, k ≤ q.ops.length → ∀ v ∈ gvs (rmV (M : Int)) (x % (M : Int)) q.ops k, 0 ≤ v ∧ v < (M : Int) from rm_rng (by omega) q.ops)
        have VS := Lib.hid (fun (W : World) (hb : Below w.heap.size w W) => rmVals_any B A c M q (x % (M : Int)) W hM hM2 (by have := hb.size; omega) f0 f4 BD.out (H.out.below' hb hB))
        have CN := Lib.hid (fun W => rmCon_any M x W hM hM2)
        have IC := Lib.hid (fun W h1 => by have h := IC.out W h1; rw [hi] at h; exact h)
        rw [hi]
        obtain ⟨V, hV⟩ : ∃ V, gvs (rmV (M : Int)) (x % (M : Int)) q.ops q.ops.length = V := ⟨_, rfl⟩
        rw [hV] at hgl E VS
        obtain ⟨X, hX⟩ : ∃ X, vI V (i : Int) = X := ⟨_, rfl⟩
        rw [hX] at E
        have HX := Lib.hid hX
        have HGL := Lib.hid hgl
        have ii : (i : Int) < ((q.ops.length + 1 : Nat) : Int) := by omega
        have ii2 : (i : Int) < (q.ops.length : Int) + 1 := by omega
        clear hg hx hi f1 f2 f4 hV BD hX hgl hm hM hM2
        go_enter Try.func25, Try.ntmps25
        go_wp2_with fail
        go_at_call 22
        generalize hw1 : World.alloc w _ = w1
        obtain ⟨⟨x0, x1⟩, xs, xb⟩ := bx2c hw1
        clear hw1
        refine (IC.out _ xb).mono ?_
        rintro e w2 ⟨rfl, hb2⟩
        have HB2 := Lib.hid (xb.trans (hb2.mono (by omega)))
        have y0 := (hb2.cell (p := ⟨w.heap.size, 0, none⟩) (by simp only []; omega)).trans x0
        have y1 := (hb2.cell (p := ⟨w.heap.size, 1, none⟩) (by simp only []; omega)).trans x1
        have hs2 : w.heap.size + 1 ≤ w2.heap.size := by have := hb2.size; omega
        clear hb2 xb xs x0 x1
        go_wp2_with fail
        go_at_call 71
        refine (IX.out _).mono ?_
        rintro e w3 ⟨rfl, rfl⟩
        have k0 := cell_kept y0
        have k1 := cell_kept y1
        go_wp2
        generalize hw3 : World.alloc w2 _ = w3
        have z0 : w3.cell? ⟨w.heap.size, 0, none⟩ = some (.slice A q.ops.length c) := by rw [← hw3]; exact k0 _
        have z1 : w3.cell? ⟨w.heap.size, 1, none⟩ = some (.int .i64 (i : Int)) := by rw [← hw3]; exact k1 _
        have z2 : w3.cell? ⟨w2.heap.size, 0, none⟩ = some (.int .i64 (M : Int)) := by rw [← hw3, World.cell?_alloc_at _ _ _ _ rfl]; rfl
        have hs3 : w3.heap.size = w2.heap.size + 1 := by rw [← hw3]; simp
        have HB3 := Lib.hid (show Below w.heap.size w w3 by rw [← hw3]; exact HB2.out.alloc (by omega) _)
        clear hw3 k0 k1 y0 y1
        have FX := Lib.hid (show ∀ x, Below w3.heap.size w3 x → x.cell? ⟨w.heap.size, 0, none⟩ = some (.slice A q.ops.length c) ∧ x.cell? ⟨w.heap.size, 1, none⟩ = some (.int .i64 (i : Int)) ∧ x.cell? ⟨w2.heap.size, 0, none⟩ = some (.int .i64 (M : Int)) from fun x hx => ⟨(hx.cell (p := ⟨w.heap.size, 0, none⟩) (by simp only []; omega)).trans z0, (hx.cell (p := ⟨w.heap.size, 1, none⟩) (by simp only []; omega)).trans z1, (hx.cell (p := ⟨w2.heap.size, 0, none⟩) (by simp only []; omega)).trans z2⟩)
        have SD := Lib.hid (show Below w3.heap.size w3 w3.drew from (Below.refl _ _).drew)
        refine wp_region_T (fun x : World => Below w3.heap.size w3 x) [0, 1, 2, 3, 4, 5, 8, 9, 10, 12, 13] [1, 2, 4, 9] (.lp 0 (.lp 5 (.lp 8 (.ls 1 (.ls 2 (.lp 3 (.ls 4 (.ls 9 (.hv 6 (.hv 7 (.lp 10 (.hv 11 (.lp 12 (.lp 13 (.done))))))))))))))) (by kernel_rfl) (by kernel_rfl) ?_
        generalize World.drew w3 = wd at SD ⊢
        have hsd := SD.out.size
        (repeat (refine T_lp rfl (fun K hK => ?_); go_simp; refine hK _ ?_; clear hK K))
        refine T_ls1 (v := .slice A q.ops.length c) rfl rfl SD.out (fun x hx => (by have h1 := (FX.out x hx).1; go_simp)) (fun K hK => ?_)
        (go_simp; refine hK _ ?_; clear hK K)
        refine T_ls1 (v := .agg #[.int .i64 (M : Int)]) rfl rfl SD.out (fun x hx => (by have h1 := (FX.out x hx).2.2; go_simp)) (fun K hK => ?_)
        (go_simp; refine hK _ ?_; clear hK K)
        (repeat (refine T_lp rfl (fun K hK => ?_); go_simp; refine hK _ ?_; clear hK K))
        refine T_ls1 (v := .agg #[.int .i64 (M : Int)]) rfl rfl SD.out (fun x hx => (by have h1 := (FX.out x hx).2.2; go_simp)) (fun K hK => ?_)
        (go_simp; refine hK _ ?_; clear hK K)
        refine T_ls1 (v := .int .i64 (i : Int)) rfl rfl SD.out (fun x hx => (by have h1 := (FX.out x hx).2.1; go_simp)) (fun K hK => ?_)
        (go_simp; refine hK _ ?_; clear hK K)
        refine T_hvS rfl (fun K hK => ?_)
        go_simp
        go_at_call 73
        refine (CN.out wd).mono ?_
        rintro e w4 ⟨rfl, hb4⟩
        have SB := Lib.hid (SD.out.trans (hb4.mono SD.out.size))
        have hs4 := SB.out.size
        clear hb4
        go_simp
        refine hK _ _ SB.out ?_
        clear hK K
        refine T_hvS rfl (fun K hK => ?_)
        go_simp
        go_at_call 72
        refine (VS.out w4 (HB3.out.trans (SB.out.mono (by omega)))).mono ?_
        rintro e w5 ⟨A3, c3, rfl, ho3, hb3⟩
        have SB2 := Lib.hid (SB.out.trans (hb3.mono SB.out.size))
        obtain ⟨g, rfl, hgB, hgs, hcs, hfs⟩ := own_at (show w5.ownsRow w4.heap.size 3 1 (.slice A3 (q.ops.length + 1) c3) (q.ops.length + 1) (V.map I) by have h : w5.ownsRow _ _ _ _ _ _ := ho3; rw [HGL.out] at h; exact h) (by omega)
        have hvx := HX.out
        have hil : i < V.length := by rw [HGL.out]; exact hin
        rw [vI_at hil] at hvx
        have hci : w5.cell? ⟨g, i, none⟩ = some (.int .i64 X) := by rw [hcs i (by omega), List.getElem?_map, List.getElem?_eq_getElem hil, hvx]; rfl
        clear hvx hil ho3 hb3 hcs hfs
        go_simp
        refine hK _ _ SB2.out ?_
        clear hK K
        (repeat (refine T_lp rfl (fun K hK => ?_); go_simp; refine hK _ ?_; clear hK K))
        (refine T_hv rfl (by kernel_rfl) (fun K hK => ?_); go_simp)
        refine hK _ _ ?_
        clear hK K
        (repeat (refine T_lp rfl (fun K hK => ?_); go_simp; refine hK _ ?_; clear hK K))
        refine T_done ?_
        go_wp2
        go_ret2
        exact ⟨by rw [E.out, G.out]; rfl, HB3.out.trans (SB2.out.mono (by omega))⟩
end Go.Proofs.Ytpopomcaknbhnaa
