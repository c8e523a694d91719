/- CanTurn: what both sides answer. -/
import Derived.Test.YtlkieebmfmiafaaJg
namespace Go.Proofs.Ytlkieebmfmiafaa
open Go.RowKit

set_option maxRecDepth 100000 in
set_option maxHeartbeats 1000000 in
theorem duCan_any (B N : Nat) (A1 A2 : Option Addr) (c1 c2 : Nat) (p : Pl) (w : World) (hpn : p.n = N) (h6 : N ≤ 6) (hs40 : p.s.length ≤ 40) (ho6 : p.o.length ≤ 6) (hB : B ≤ w.heap.size) (hok : OkS N p.s)
    (hout : ∀ x ∈ p.o, 0 ≤ x ∧ x < (N : Int) + p.s.length) (hr : RdP w B A1 A2 p) :
    Calls Try.prog 67 #[.agg #[.int .i64 p.n, .slice A1 p.s.length c1, .slice A2 p.o.length c2]] w fun e w' => e = .returned (.bool (canB p)) ∧ Below w.heap.size w w' := by
  have hn : p.n.toNat = N := by omega
  have H := Lib.hid hr
  by_cases hlt : 0 < p.o.length
  · have hcb : canB p = !hasI (cL p.s p.o (N + p.s.length) p.s.length p.o.length) 0 := by
      unfold canB usL
      rw [hn, decide_eq_true hlt, Bool.true_and]
    have CB := Lib.hid hcb
    have HC := Lib.hid (fun W hW hr => duUses_any B N (N + p.s.length) A1 A2 c1 c2 p W hpn h6 hs40 ho6 rfl hW hok hout hr)
    obtain ⟨L, hL⟩ : ∃ L, cL p.s p.o (N + p.s.length) p.s.length p.o.length = L := ⟨_, rfl⟩
    have hLl : L.length = N + p.s.length := by rw [← hL]; exact cL_length _ _ _ _ _
    rw [hL] at CB HC
    obtain ⟨z, hz⟩ : ∃ z, hasI L 0 = z := ⟨_, rfl⟩
    have HZ := Lib.hid hz
    rw [hz] at CB
    have i0 : (0 : Int) < (p.o.length : Int) := by omega
    have hLL := Lib.hid hLl
    clear hr hn hpn hok hout hcb hL hz hLl
    go_enter Try.func67, Try.ntmps67
    go_wp2_with fail
    go_at_call 59
    generalize hw1 : World.alloc w _ = w1
    obtain ⟨x0, x1, x2, xs, xb⟩ := box3 hw1
    clear hw1
    refine (HC.out w1 (by omega) (H.out.below' xb hB)).mono ?_
    rintro e w2 ⟨A3, c3, rfl, hown, hb2⟩
    have HB2 := Lib.hid (xb.trans (hb2.mono (show w.heap.size ≤ w1.heap.size by omega)))
    have hH := l1Has_any w2.heap.size A3 c3 L 0 w2 (by have := hLL.out; omega) (by have h := Rd.of_own hown; rw [hLL.out]; exact h)
    rw [HZ.out, hLL.out] at hH
    have HH := Lib.hid hH
    clear x0 x1 x2 xs xb hown hb2 hH
    go_wp2_with fail
    go_at_call 110
    refine HH.out.mono ?_
    rintro e w3 ⟨rfl, rfl⟩
    go_wp2
    go_ret
    exact ⟨by rw [CB.out]; rfl, HB2.out⟩
  · have hcb : canB p = false := by
      unfold canB
      rw [decide_eq_false hlt, Bool.false_and]
    have CB := Lib.hid hcb
    have i0 : ¬ (0 : Int) < (p.o.length : Int) := by omega
    clear hcb hr
    go_enter Try.func67, Try.ntmps67
    go_wp2
    go_ret
    exact ⟨by rw [CB.out]; rfl, (Below.refl _ _).alloc (Nat.le_refl _) _⟩

set_option maxRecDepth 100000 in
set_option maxHeartbeats 1000000 in
theorem specCan_any (B : Nat) (A1 A2 : Option Addr) (c1 c2 : Nat) (p : Pl) (w : World) (hB : B ≤ w.heap.size) (hls : p.s.length ≤ 2000000) (hlo : p.o.length ≤ 2000000) (hr : RdP w B A1 A2 p) :
    Calls Try.prog 24 #[.agg #[.int .i64 p.n, .slice A1 p.s.length c1, .slice A2 p.o.length c2]] w fun e w' => e = .returned (.tuple #[.bool (canR p), .bool (good p)]) ∧ Below w.heap.size w w' := by
  have H := Lib.hid hr
  clear hr
  obtain ⟨gd, hgd⟩ : ∃ x, good p = x := ⟨_, rfl⟩
  have HG := Lib.hid hgd
  go_enter Try.func24, Try.ntmps24
  go_wp2_with fail
  go_at_call 58
  generalize hw1 : World.alloc w _ = w1
  obtain ⟨x0, x1, x2, xs, xb⟩ := box3 hw1
  clear hw1
  have hC := plGood_any w.heap.size A1 A2 c1 c2 p w1 (by omega) hls hlo ((H.out.below' xb hB).more hB)
  rw [hgd] at hC
  refine hC.mono ?_
  rintro e w2 ⟨rfl, hb2⟩
  clear hC hgd
  have y0 := (hb2.cell (p := ⟨w.heap.size, 0, none⟩) (by simp only []; omega)).trans x0
  have y1 := (hb2.cell (p := ⟨w.heap.size, 1, none⟩) (by simp only []; omega)).trans x1
  have y2 := (hb2.cell (p := ⟨w.heap.size, 2, none⟩) (by simp only []; omega)).trans x2
  have HB2 := Lib.hid (xb.trans (hb2.mono (show w.heap.size ≤ w1.heap.size by omega)))
  have hs2 : w.heap.size + 1 ≤ w2.heap.size := by have := hb2.size; omega
  clear x0 x1 x2 xs xb hb2
  cases gd with
  | false =>
    have EA := Lib.hid (show canR p = false by unfold canR; rw [HG.out]; rfl)
    go_wp2
    go_ret2
    exact ⟨by rw [EA.out, HG.out]; rfl, HB2.out⟩
  | true =>
    obtain ⟨N, hN, n1, n6, hs40, ho6, hok, hout, _⟩ := good_facts HG.out
    have EA := Lib.hid (show canR p = canB p by unfold canR; rw [HG.out]; rfl)
    have HC := Lib.hid (duCan_any w.heap.size N A1 A2 c1 c2 p w2 hN n6 hs40 ho6 (by omega) hok hout ((H.out.below' HB2.out hB).more hB))
    clear hok hout hN
    go_wp2_with fail
    go_at_call 67
    refine HC.out.mono ?_
    rintro e w3 ⟨rfl, hb3⟩
    have HB3 := Lib.hid (HB2.out.trans (hb3.mono (show w.heap.size ≤ w2.heap.size by omega)))
    clear hb3
    go_wp2
    go_ret2
    exact ⟨by rw [EA.out, HG.out]; rfl, HB3.out⟩

set_option maxRecDepth 100000 in
set_option maxHeartbeats 2000000 in
theorem implCan_any (B : Nat) (A1 A2 : Option Addr) (c1 c2 : Nat) (p : Pl) (w : World) (hB : B ≤ w.heap.size) (hls : p.s.length ≤ 2000000) (hlo : p.o.length ≤ 2000000) (hr : RdP w B A1 A2 p) :
    Calls Try.prog 25 #[.agg #[.int .i64 p.n, .slice A1 p.s.length c1, .slice A2 p.o.length c2]] w fun e w' => e = .returned (.tuple #[.bool (canR p), .bool (good p)]) ∧ Below w.heap.size w w' := by
  have H := Lib.hid hr
  clear hr
  go_enter Try.func25, Try.ntmps25
  go_wp2_with fail
  go_at_call 62
  generalize hw1 : World.alloc w _ = w1
  obtain ⟨x0, x1, x2, xs, xb⟩ := box3 hw1
  clear hw1
  refine (withValues_any B A1 A2 c1 c2 p w1 (by omega) hls hlo (H.out.below' xb hB)).mono ?_
  rintro e w2 ⟨hb2, hpost⟩
  have HB2 := Lib.hid (xb.trans (hb2.mono (show w.heap.size ≤ w1.heap.size by omega)))
  clear x0 x1 x2 hb2
  rw [valsI_eq] at hpost
  by_cases hg : good p = true
  · rw [if_pos hg] at hpost
    simp only at hpost
    obtain ⟨A, c, rfl, _⟩ := hpost
    obtain ⟨N, hN, n1, n6, hs40, ho6, hok, _, _⟩ := good_facts hg
    have hn' : p.n.toNat = N := by omega
    have hcan := can_eq hN n1 hok
    have hel := exps_length N p.s
    obtain ⟨R, hR⟩ : ∃ R, N + p.s.length = R := ⟨_, rfl⟩
    rw [hn', List.length_map, hel, hR, hN]
    rw [hR] at hcan
    have hR46 : R ≤ 46 := by omega
    have CT := fun W hW hr => canTurn_any B N R A1 A2 A c1 c2 c p W hs40 ho6 hR46 hW hr
    rw [← hcan] at CT
    have CT := Lib.hid CT
    have HG := Lib.hid hg
    have EA := Lib.hid (show canR p = canB p by unfold canR; rw [hg]; rfl)
    clear hn' hN hg hel hR xs xb hcan hok
    go_wp2_with fail
    go_at_call 68
    generalize hw3 : World.alloc w2 _ = w3
    obtain ⟨_, xs, xb⟩ := box4v hw3
    clear hw3
    have hs2 := HB2.out.size
    have HB3 := Lib.hid (HB2.out.trans (xb.mono hs2))
    refine (CT.out w3 (by omega) (H.out.below' HB3.out hB)).mono ?_
    rintro e w4 ⟨rfl, hb4⟩
    have HB4 := Lib.hid (HB3.out.trans (hb4.mono (show w.heap.size ≤ w3.heap.size by omega)))
    clear hb4 xs xb
    go_wp2
    go_ret2
    exact ⟨by rw [EA.out, HG.out]; rfl, HB4.out⟩
  · rw [if_neg hg] at hpost
    simp only at hpost
    subst hpost
    have hg' : good p = false := by simpa using hg
    have EA := Lib.hid (show canR p = false by unfold canR; rw [hg']; rfl)
    have HG := Lib.hid hg'
    clear hg hg'
    go_wp2
    go_ret2
    exact ⟨by rw [EA.out, HG.out]; rfl, HB2.out.alloc HB2.out.size _⟩
end Go.Proofs.Ytlkieebmfmiafaa
