/- CountPaths, of the model and of the program. -/
import Derived.Test.YtlkieebmfmiafaaJh
import Derived.Test.YtlkieebmfmiafaaJz
import Derived.Test.YtlkieebmfmiafaaPe
namespace Go.Proofs.Ytlkieebmfmiafaa
open Go.RowKit

def cpB (p : Pl) (x y : Int) : Bool := good p && (hasB x (p.n.toNat + p.s.length) && hasB y (p.n.toNat + p.s.length))
def cpV (p : Pl) (x y : Int) : Int := if cpB p x y then pa p.n.toNat (p.n.toNat + p.s.length) x.toNat p.s y.toNat else 0
theorem cp_not {p : Pl} {x y : Int} (h : cpB p x y = false) : cpV p x y = 0 ∧ cpB p x y = false := ⟨by unfold cpV; rw [if_neg (by rw [h]; decide)], h⟩
theorem cp_bad {p : Pl} (x y : Int) (h : good p = false) : cpB p x y = false := by unfold cpB; rw [h]; rfl
theorem cp_good {p : Pl} {N R : Nat} (x y : Int) (h : good p = true) (hN : p.n = N) (hR : N + p.s.length = R) : cpB p x y = (hasB x R && hasB y R) := by
  have : p.n.toNat = N := by omega
  unfold cpB
  rw [h, this, hR, Bool.true_and]
theorem cp_yes {p : Pl} {N R a b : Nat} (h : cpB p (a : Int) (b : Int) = true) (hN : p.n = N) (hR : N + p.s.length = R) : cpV p (a : Int) (b : Int) = pa N R a p.s b := by
  have : p.n.toNat = N := by omega
  unfold cpV
  rw [if_pos h, this, hR, Int.toNat_natCast, Int.toNat_natCast]
theorem has_nat {x : Int} {R : Nat} (h : hasB x R = true) : ∃ a : Nat, x = a ∧ a < R := by
  unfold hasB at h
  simp only [Bool.and_eq_true, decide_eq_true_eq] at h
  exact ⟨x.toNat, by omega, by omega⟩
theorem inB_has {p : Pl} {N R : Nat} (z : Int) (hN : p.n = N) (hR : N + p.s.length = R) : inB z 0 (p.n + (p.s.length : Int) - 1) = hasB z R := by
  unfold inB hasB
  have : decide (z ≤ p.n + (p.s.length : Int) - 1) = decide (z < (R : Int)) := by
    apply decide_eq_decide.2
    omega
  rw [this]

set_option maxRecDepth 100000 in
set_option maxHeartbeats 2000000 in
theorem specPaths_any (B : Nat) (A1 A2 : Option Addr) (c1 c2 : Nat) (p : Pl) (x y : Int) (w : World) (hB : B ≤ w.heap.size) (hls : p.s.length ≤ 2000000) (hlo : p.o.length ≤ 2000000) (hr : RdP w B A1 A2 p) :
    Calls Try.prog 38 #[.agg #[.int .i64 p.n, .slice A1 p.s.length c1, .slice A2 p.o.length c2], .int .i64 x, .int .i64 y] w fun e w' => e = .returned (.tuple #[.int .i64 (cpV p x y), .bool (cpB p x y)]) ∧ Below w.heap.size w w' := by
  have H := Lib.hid hr
  clear hr
  obtain ⟨gd, hgd⟩ : ∃ x, good p = x := ⟨_, rfl⟩
  have HG := Lib.hid hgd
  go_enter Try.func38, Try.ntmps38
  go_wp2_with fail
  go_at_call 58
  generalize hw1 : World.alloc w _ = w1
  obtain ⟨x0, x1, x2, xs, xb⟩ := box3 hw1
  clear hw1
  have hC := plGood_any w.heap.size A1 A2 c1 c2 p w1 (by omega) hls hlo ((H.out.below' xb hB).more hB)
  rw [hgd] at hC
  refine hC.mono ?_
  rintro e w2 ⟨rfl, hb2⟩
  clear hC hgd
  have y0 := (hb2.cell (p := ⟨w.heap.size, 0, none⟩) (by simp only []; omega)).trans x0
  have y1 := (hb2.cell (p := ⟨w.heap.size, 1, none⟩) (by simp only []; omega)).trans x1
  have y2 := (hb2.cell (p := ⟨w.heap.size, 2, none⟩) (by simp only []; omega)).trans x2
  have HB2 := Lib.hid (xb.trans (hb2.mono (show w.heap.size ≤ w1.heap.size by omega)))
  have hs2 : w.heap.size + 1 ≤ w2.heap.size := by have := hb2.size; omega
  clear x0 x1 x2 xs xb hb2
  cases gd with
  | false =>
    have EA := Lib.hid (cp_not (cp_bad x y HG.out))
    go_wp2
    go_ret2
    exact ⟨by rw [EA.out.1, EA.out.2]; rfl, HB2.out⟩
  | true =>
    obtain ⟨N, hN, n1, n6, hs40, ho6, hok, hout, _⟩ := good_facts HG.out
    obtain ⟨R, hR⟩ : ∃ R, N + p.s.length = R := ⟨_, rfl⟩
    have hcb := cp_good x y HG.out hN hR
    have e1 := inB_has x hN hR
    have e2 := inB_has y hN hR
    have m1 : 1 ≤ p.n := by omega
    have m6 : p.n ≤ 6 := by omega
    have hR46 : R ≤ 46 := by omega
    have YES := Lib.hid (fun (a b : Nat) h => cp_yes (a := a) (b := b) (p := p) h hN hR)
    have DP := Lib.hid (fun a ha W hW hr => duPaths_any w.heap.size N R a A1 A2 c1 c2 p W hN n6 hs40 hR.symm ha hW hok hr)
    obtain ⟨ra, hra⟩ : ∃ q, hasB x R = q := ⟨_, rfl⟩
    obtain ⟨rb, hrb⟩ : ∃ q, hasB y R = q := ⟨_, rfl⟩
    rw [hra, hrb] at hcb
    rw [hra] at e1
    rw [hrb] at e2
    have E1 := Lib.hid e1
    have E2 := Lib.hid e2
    have HA := Lib.hid hra
    have HBb := Lib.hid hrb
    clear e1 e2 hra hrb hok hout hN hR n1 n6
    cases ra with
    | false =>
      have EA := Lib.hid (cp_not hcb)
      clear hcb
      go_wp2_with (go_at_call 73; refine (l1In_any _ _ _ _).mono ?_; rw [E1.out]; rintro e w' ⟨rfl, rfl⟩)
      go_ret2
      exact ⟨by rw [EA.out.1, EA.out.2]; rfl, HB2.out⟩
    | true =>
      cases rb with
      | false =>
        have EA := Lib.hid (cp_not hcb)
        clear hcb
        go_wp2_with (first
          | (go_at_call 73; refine (l1In_any _ _ _ _).mono ?_; rw [E1.out]; rintro e w' ⟨rfl, rfl⟩)
          | (go_at_call 73; refine (l1In_any _ _ _ _).mono ?_; rw [E2.out]; rintro e w' ⟨rfl, rfl⟩))
        go_ret2
        exact ⟨by rw [EA.out.1, EA.out.2]; rfl, HB2.out⟩
      | true =>
        obtain ⟨a, rfl, ha⟩ := has_nat HA.out
        obtain ⟨b, rfl, hb⟩ := has_nat HBb.out
        have hv := YES.out a b (by rw [hcb]; rfl)
        have EA := Lib.hid (And.intro hv (show cpB p (a : Int) (b : Int) = true by rw [hcb]; rfl))
        have ibR : (b : Int) < (R : Int) := by omega
        have hl := fw_len N R a p.s p.s.length
        have hd := DP.out a ha w2 (by omega) ((H.out.below' HB2.out hB).more hB)
        obtain ⟨L, hL⟩ : ∃ L, fw N R a p.s p.s.length = L := ⟨_, rfl⟩
        rw [hL] at hl hd
        have EL := Lib.hid (show pa N R a p.s b = L.getD b 0 by unfold pa; rw [hL])
        have HD := Lib.hid hd
        clear hcb hv hL hd
        go_wp2_with (first
          | (go_at_call 73; refine (l1In_any _ _ _ _).mono ?_; rw [E1.out]; rintro e w' ⟨rfl, rfl⟩)
          | (go_at_call 73; refine (l1In_any _ _ _ _).mono ?_; rw [E2.out]; rintro e w' ⟨rfl, rfl⟩)
          | fail)
        go_at_call 74
        refine HD.out.mono ?_
        rintro e w3 ⟨A', c', rfl, hown, hb3⟩
        have HB3 := Lib.hid (HB2.out.trans (hb3.mono (show w.heap.size ≤ w2.heap.size by omega)))
        have hrd := Rd.of_own hown
        rw [← hl] at hrd
        have hbl : b < L.length := by omega
        obtain ⟨ob, oo, rfl, hob, hoc⟩ := hrd.int hbl
        obtain ⟨v, hv⟩ : ∃ v, L[b] = v := ⟨_, rfl⟩
        rw [hv] at hoc
        have HV := Lib.hid ((show L.getD b 0 = L[b] by simp [hbl]).trans hv)
        clear hown hb3 hl hbl hv hrd
        go_wp2
        go_ret2
        exact ⟨by rw [EA.out.1, EA.out.2, EL.out, HV.out]; rfl, HB3.out⟩

set_option maxRecDepth 100000 in
set_option maxHeartbeats 2000000 in
theorem implPaths_any (B : Nat) (A1 A2 : Option Addr) (c1 c2 : Nat) (p : Pl) (x y : Int) (w : World) (hB : B ≤ w.heap.size) (hls : p.s.length ≤ 2000000) (hlo : p.o.length ≤ 2000000) (hr : RdP w B A1 A2 p) :
    Calls Try.prog 39 #[.agg #[.int .i64 p.n, .slice A1 p.s.length c1, .slice A2 p.o.length c2], .int .i64 x, .int .i64 y] w fun e w' => e = .returned (.tuple #[.int .i64 (cpV p x y), .bool (cpB p x y)]) ∧ Below w.heap.size w w' := by
  have H := Lib.hid hr
  clear hr
  go_enter Try.func39, Try.ntmps39
  go_wp2_with fail
  go_at_call 62
  generalize hw1 : World.alloc w _ = w1
  obtain ⟨x0, x1, x2, xs, xb⟩ := box3 hw1
  clear hw1
  refine (withValues_any B A1 A2 c1 c2 p w1 (by omega) hls hlo (H.out.below' xb hB)).mono ?_
  rintro e w2 ⟨hb2, hpost⟩
  have HB2 := Lib.hid (xb.trans (hb2.mono (show w.heap.size ≤ w1.heap.size by omega)))
  clear x0 x1 x2 hb2
  rw [valsI_eq] at hpost
  by_cases hg : good p = true
  · rw [if_pos hg] at hpost
    simp only at hpost
    obtain ⟨A, c, rfl, _⟩ := hpost
    obtain ⟨N, hN, n1, n6, hs40, ho6, hok, _, _⟩ := good_facts hg
    have hn' : p.n.toNat = N := by omega
    have hel := exps_length N p.s
    obtain ⟨R, hR⟩ : ∃ R, N + p.s.length = R := ⟨_, rfl⟩
    have YES := Lib.hid (fun (a b : Nat) h => cp_yes (a := a) (b := b) (p := p) h hN hR)
    have hcb := cp_good x y hg hN hR
    rw [hn', List.length_map, hel, hR, hN]
    have hR46 : R ≤ 46 := by omega
    have PT := Lib.hid (fun b hb W hW hr => pathsTo_any B N R b A1 A2 A c1 c2 c p W hs40 hR.symm n6 hb hW (okS_bfr hok) hok hr)
    have BP := Lib.hid (fun a b (ha : a < R) (hb : b < R) => bw_pa hR.symm (okS_bfr hok) hb ha)
    obtain ⟨ra, hra⟩ : ∃ q, hasB x R = q := ⟨_, rfl⟩
    obtain ⟨rb, hrb⟩ : ∃ q, hasB y R = q := ⟨_, rfl⟩
    rw [hra, hrb] at hcb
    have E1 := Lib.hid hra
    have E2 := Lib.hid hrb
    have HCB := Lib.hid hcb
    clear hn' hN hg hel hR xs xb hok hra hrb hcb n1 n6
    go_wp2_with fail
    go_at_call 75
    generalize hw3 : World.alloc w2 _ = w3
    obtain ⟨⟨z0, z1, z2, z3⟩, xs, xb⟩ := box4v hw3
    clear hw3
    have hs2 := HB2.out.size
    have HB3 := Lib.hid (HB2.out.trans (xb.mono hs2))
    have hs3 : w.heap.size ≤ w3.heap.size := by omega
    clear xs xb
    refine (has_any _ _ _ _ _ _ _ z3).mono ?_
    rw [E1.out]
    rintro e w' ⟨rfl, rfl⟩
    cases ra with
    | false =>
      have EA := Lib.hid (cp_not HCB.out)
      go_wp2
      go_ret2
      exact ⟨by rw [EA.out.1, EA.out.2]; rfl, HB3.out⟩
    | true =>
      go_wp2_with fail
      go_at_call 75
      refine (has_any _ _ _ _ _ _ _ z3).mono ?_
      rw [E2.out]
      rintro e w' ⟨rfl, rfl⟩
      cases rb with
      | false =>
        have EA := Lib.hid (cp_not HCB.out)
        go_wp2
        go_ret2
        exact ⟨by rw [EA.out.1, EA.out.2]; rfl, HB3.out⟩
      | true =>
        obtain ⟨a, rfl, ha⟩ := has_nat E1.out
        obtain ⟨b, rfl, hb⟩ := has_nat E2.out
        have hv := YES.out a b (by rw [HCB.out]; rfl)
        have EA := Lib.hid (And.intro hv (show cpB p (a : Int) (b : Int) = true by rw [HCB.out]; rfl))
        have iaR : (a : Int) < (R : Int) := by omega
        have hl := bw_len N R b p.s p.s.length
        have hd := PT.out b hb w3 (by omega) (H.out.below' HB3.out hB)
        have hv2 := BP.out a b ha hb
        obtain ⟨L, hL⟩ : ∃ L, bw N R b p.s p.s.length = L := ⟨_, rfl⟩
        rw [hL] at hl hd hv2
        have EL := Lib.hid hv2.symm
        have HD := Lib.hid hd
        clear hv hL hd hv2
        go_wp2_with fail
        go_at_call 76
        refine HD.out.mono ?_
        rintro e w4 ⟨A', c', rfl, hown, hb4⟩
        have HB4 := Lib.hid (HB3.out.trans (hb4.mono hs3))
        have hrd := Rd.of_own hown
        rw [← hl] at hrd
        have hal : a < L.length := by omega
        obtain ⟨ob, oo, rfl, hob, hoc⟩ := hrd.int hal
        obtain ⟨v, hv⟩ : ∃ v, L[a] = v := ⟨_, rfl⟩
        rw [hv] at hoc
        have HV := Lib.hid ((show L.getD a 0 = L[a] by simp [hal]).trans hv)
        clear hown hb4 hl hal hv hrd
        go_wp2
        go_ret2
        exact ⟨by rw [EA.out.1, EA.out.2, EL.out, HV.out]; rfl, HB4.out⟩
  · rw [if_neg hg] at hpost
    simp only at hpost
    subst hpost
    have hg' : good p = false := by simpa using hg
    have EA := Lib.hid (cp_not (cp_bad x y hg'))
    clear hg hg'
    go_wp2
    go_ret2
    exact ⟨by rw [EA.out.1, EA.out.2]; rfl, HB2.out.alloc HB2.out.size _⟩
end Go.Proofs.Ytlkieebmfmiafaa
