/- CountOps of both sides. -/
import Derived.Test.YtpopomcaknbhnaaH8k
namespace Go.Proofs.Ytpopomcaknbhnaa
open Go.RowKit
theorem cd4_bad {q : Cd} (h : cdB q = false) : cd4 q = [] := by unfold cd4; rw [h]; rfl
theorem cd4_good {q : Cd} (h : cdB q = true) : cd4 q = tb 4 (fun j => cnK q.ops (j : Int) q.ops.length) := by unfold cd4; rw [if_pos h]; rfl
theorem cd4_le (q : Cd) : (cd4 q).length ≤ 1000 := by
  unfold cd4
  split
  · simp [cn4]
  · simp
theorem kind_nat {o : Op3} {n : Nat} (h : opOk o n = true) : ∃ K : Nat, K < 4 ∧ o.1 = K := by
  rcases opOk_cases h with ⟨h0, _⟩ | ⟨h0, _⟩ | ⟨h0, _⟩ | ⟨h0, _⟩
  · exact ⟨0, by omega, h0⟩
  · exact ⟨1, by omega, h0⟩
  · exact ⟨2, by omega, h0⟩
  · exact ⟨3, by omega, h0⟩
theorem make4 : ∀ W : World, (Instr.makeSlice 36 (.int .i64 4) (.int .i64 4)).run Try.prog W = .ok (.slice (some ⟨W.heap.size, 0, none⟩) 4 4) (W.alloc (.cells (madeCells #[.int .i64 0] 4) 3)) := fun W => by
  have h := run_make_row' (P := Try.prog) 36 3 (.int .i64 0) 8 Try.underlying36 info_int rfl .i64 .i64 4 (by omega) (by omega) W
  exact h

set_option maxRecDepth 100000 in
set_option maxHeartbeats 4000000 in
theorem counts_any (B : Nat) (A : Option Addr) (c : Nat) (q : Cd) (w : World) (hB : B ≤ w.heap.size) (hl : q.ops.length ≤ 120) (hgood : opsG q.ops q.ops.length = true) (hr : RdD w B A q) :
    Calls Try.prog 77 #[.agg #[.slice A q.ops.length c, .int .i64 q.out]] w fun e w' => ∃ A' c', e = .returned (.slice A' 4 c') ∧ OwI w' w.heap.size (.slice A' 4 c') (tb 4 (fun j => cnK q.ops (j : Int) q.ops.length)) ∧ Below w.heap.size w w' := by
  have H := Lib.hid hr
  have GD := Lib.hid (fun k (hk : k < q.ops.length) => opsG_at hgood hk)
  have hmk := make4
  clear hr hgood
  go_enter Try.func77, Try.ntmps77
  go_wp2
  clear hmk
  generalize hw3 : World.alloc (World.alloc w _) _ = w4
  have own1 : w4.ownsRow (w.heap.size + 1) 3 1 (.slice (some ⟨w.heap.size + 1, 0, none⟩) 4 4) 4 ((tb 4 (fun j => cnK q.ops (j : Int) 0)).map I) := by
    rw [← hw3]
    have h := zeros_own8 (w := w.alloc (.cells #[.slice A q.ops.length c, .int .i64 q.out] 29)) (B := w.heap.size + 1) 4 (by omega) (by simp)
    have e : (tb 4 fun j => cnK q.ops (j : Int) 0) = tb 4 (fun _ => 0) := rfl
    rw [e]
    simpa using h
  have HBW := Lib.hid (show Below w.heap.size w w4 by rw [← hw3]; exact ((Below.refl _ _).alloc (Nat.le_refl _) _).alloc (by simp) _)
  obtain ⟨g, hg⟩ : ∃ g, w.heap.size + 1 = g := ⟨_, rfl⟩
  rw [hg] at own1 ⊢
  have O1 := Lib.hid own1
  have hg1 : w.heap.size ≤ g := by omega
  have hg2 : w4.heap.size = g + 1 := by rw [← hw3]; simp; omega
  have hBg : B ≤ g := by omega
  clear hw3 own1 hg
  go_loopw [10] (fun iv wr => ∃ k : Nat, k ≤ q.ops.length ∧ iv = .int .i64 (k : Int) ∧ wr.ownsRow g 3 1 (.slice (some ⟨g, 0, none⟩) 4 4) 4 ((tb 4 (fun j => cnK q.ops (j : Int) k)).map I) ∧ Below g w4 wr) (fun i _ => q.ops.length - (intOf i).toNat)
  case atStart => exact ⟨0, by omega, rfl, O1.out, Below.refl _ _⟩
  case round =>
    obtain ⟨k, hk, rfl, hown, hbel⟩ := hrel
    have hsz := hbel.size
    by_cases hlt : k < q.ops.length
    · obtain ⟨b, off, rfl, hb, hc1, hc2, hc3⟩ := (((H.out.below' HBW.out hB).below' hbel (by omega)).op hlt : ∃ b off, A = some ⟨b, off, none⟩ ∧ b < B ∧ _)
      have ik : (k : Int) < (q.ops.length : Int) := by omega
      have hgo : q.ops.getD k o0 = q.ops[k] := by simp [List.getD_eq_getElem?_getD, hlt]
      have hok := GD.out k hlt
      unfold opG at hok
      rw [Bool.and_eq_true] at hok
      obtain ⟨K, hK4, hK⟩ := kind_nat hok.1
      have SU := Lib.hid (show ∀ j : Nat, cnK q.ops (j : Int) (k + 1) = cnK q.ops (j : Int) k + (if j = K then 1 else 0) from fun j => by
        show cnK q.ops (j : Int) k + (if (q.ops.getD k o0).1 = (j : Int) then 1 else 0) = _
        rw [hK]
        by_cases e : j = K
        · rw [if_pos e, if_pos (by omega)]
        · rw [if_neg e, if_neg (by omega)])
      rw [hgo] at hK
      rw [hK] at hc1
      have hbd := cnK_bd q.ops (K : Int) k
      obtain ⟨N, hN⟩ : ∃ N, cnK q.ops (K : Int) k = N := ⟨_, rfl⟩
      have HN := Lib.hid hN
      rw [hN] at hbd
      have hd : wr.cell? ⟨g, K, none⟩ = some (.int .i64 N) := by rw [hown.cellAt K (by omega), tb_at _ hK4, hN]
      have hd2 := cell_kept hd
      have hfz : ∀ o, (wr.alloc o).frozen? ⟨g, K, none⟩ = false := fun o => (World.ownsRow.alloc hown o).frozenAt _
      have i4 : (K : Int) < 4 := by omega
      have OWN := Lib.hid hown
      have BEL := Lib.hid hbel
      clear hgo hok hK hN hd hown hbel
      go_wp2
      go_roundw
      case rel =>
        refine ⟨k + 1, by omega, by go_num, ?_, (BEL.out.alloc (by omega) _).setCell (by simp) _⟩
        have ts := tb_set (n := 4) (F := fun j => cnK q.ops (j : Int) k) (G := fun j => cnK q.ops (j : Int) (k + 1)) hK4 (by rw [SU.out, if_pos rfl, HN.out]) (fun j _ hne => by rw [SU.out, if_neg hne]; omega)
        rw [← ts]
        exact ((World.ownsRow.alloc OWN.out _).stored K (I (N + 1))).1
      case measure => simp [intOf]; omega
    · have hk' : k = q.ops.length := by omega
      subst hk'
      have BW := Lib.hid (HBW.out.trans (hbel.mono hg1))
      have OWN := Lib.hid hown
      clear hown hbel
      go_wp2
      go_ret
      exact ⟨_, _, rfl, own_base (show wr.ownsRow g 3 1 _ _ _ from OWN.out) hg1, BW.out⟩

set_option maxRecDepth 100000 in
set_option maxHeartbeats 4000000 in
theorem implCount8_any (B : Nat) (A : Option Addr) (c : Nat) (q : Cd) (w : World) (hB : B ≤ w.heap.size) (hl : q.ops.length ≤ 1048576) (hc : q.ops.length ≤ c) (hr : RdD w B A q) :
    Calls Try.prog 33 #[.agg #[.slice A q.ops.length c, .int .i64 q.out]] w fun e w' => ∃ A' c', e = .returned (.tuple #[.slice A' (cd4 q).length c', .bool (cdB q)]) ∧ OwI w' w.heap.size (.slice A' (cd4 q).length c') (cd4 q) ∧ Below w.heap.size w w' := by
  have IC := Lib.hid (fun (W : World) (hb : Below w.heap.size w W) => implIsCode8_any B A c q W (by have := hb.size; omega) hl hc (hr.below' hb hB))
  have H := Lib.hid hr
  clear hr
  cases hg : cdB q with
  | false =>
    have E := Lib.hid (cd4_bad hg)
    rw [hg] at IC
    clear hg
    go_enter Try.func33, Try.ntmps33
    go_wp2_with fail
    go_at_call 22
    generalize hw1 : World.alloc w _ = w1
    obtain ⟨⟨x0, x1⟩, xs, xb⟩ := bx2c hw1
    clear hw1
    refine (IC.out _ xb).mono ?_
    rintro e w2 ⟨rfl, hb2⟩
    have HB2 := Lib.hid (xb.trans (hb2.mono (by omega)))
    clear hb2 xb xs x0 x1
    go_wp2
    go_ret2
    exact ⟨none, 0, by rw [E.out]; rfl, by rw [E.out]; exact OwI.nil _ _, HB2.out⟩
  | true =>
    have E := Lib.hid (cd4_good hg)
    obtain ⟨f0, _, _, f4⟩ := cdB_facts hg
    have CT := Lib.hid (fun (W : World) (hb : Below w.heap.size w W) => counts_any B A c q W (by have := hb.size; omega) f0 f4 (H.out.below' hb hB))
    rw [hg] at IC
    clear hg
    go_enter Try.func33, Try.ntmps33
    go_wp2_with fail
    go_at_call 22
    generalize hw1 : World.alloc w _ = w1
    obtain ⟨⟨x0, x1⟩, xs, xb⟩ := bx2c hw1
    clear hw1
    refine (IC.out _ xb).mono ?_
    rintro e w2 ⟨rfl, hb2⟩
    have y0 := (hb2.cell (p := ⟨w.heap.size, 0, none⟩) (by simp only []; omega)).trans x0
    have y1 := (hb2.cell (p := ⟨w.heap.size, 1, none⟩) (by simp only []; omega)).trans x1
    have HB2 := Lib.hid (xb.trans (hb2.mono (by omega)))
    have hs2 : w.heap.size ≤ w2.heap.size := HB2.out.size
    clear hb2 xb xs x0 x1
    go_wp2_with fail
    go_at_call 77
    refine (CT.out _ HB2.out).mono ?_
    rintro e w3 ⟨A3, c3, rfl, ho3, hb3⟩
    go_wp2
    go_ret2
    exact ⟨A3, c3, by rw [E.out]; rfl, by rw [E.out]; exact ho3.base hs2, HB2.out.trans (hb3.mono hs2)⟩

set_option maxRecDepth 100000 in
set_option maxHeartbeats 4000000 in
theorem specCount8_any (B : Nat) (A : Option Addr) (c : Nat) (q : Cd) (w : World) (hB : B ≤ w.heap.size) (hl : q.ops.length ≤ 1048576) (_hc : q.ops.length ≤ c) (hr : RdD w B A q) :
    Calls Try.prog 32 #[.agg #[.slice A q.ops.length c, .int .i64 q.out]] w fun e w' => ∃ A' c', e = .returned (.tuple #[.slice A' (cd4 q).length c', .bool (cdB q)]) ∧ OwI w' w.heap.size (.slice A' (cd4 q).length c') (cd4 q) ∧ Below w.heap.size w w' := by
  have IC := Lib.hid (fun (W : World) (hb : Below w.heap.size w W) => poGood_any B A c q W (by have := hb.size; omega) hl (hr.below' hb hB))
  have H := Lib.hid hr
  clear hr
  cases hg : cdB q with
  | false =>
    have E := Lib.hid (cd4_bad hg)
    rw [hg] at IC
    clear hg
    go_enter Try.func32, Try.ntmps32
    go_wp2_with fail
    go_at_call 65
    generalize hw1 : World.alloc w _ = w1
    obtain ⟨⟨x0, x1⟩, xs, xb⟩ := bx2c hw1
    clear hw1
    refine (IC.out _ xb).mono ?_
    rintro e w2 ⟨rfl, hb2⟩
    have HB2 := Lib.hid (xb.trans (hb2.mono (by omega)))
    clear hb2 xb xs x0 x1
    go_wp2
    go_ret2
    exact ⟨none, 0, by rw [E.out]; rfl, by rw [E.out]; exact OwI.nil _ _, HB2.out⟩
  | true =>
    have E := Lib.hid (cd4_good hg)
    obtain ⟨f0, _, _, f4⟩ := cdB_facts hg
    have GD := Lib.hid (fun k (hk : k < q.ops.length) => opsG_at f4 hk)
    rw [hg] at IC
    have hmk := make4
    clear hg f4
    go_enter Try.func32, Try.ntmps32
    go_wp2_with fail
    go_at_call 65
    generalize hw1 : World.alloc w _ = w1
    obtain ⟨⟨x0, x1⟩, xs, xb⟩ := bx2c hw1
    clear hw1
    refine (IC.out _ xb).mono ?_
    rintro e w2 ⟨rfl, hb2⟩
    have y0 := (hb2.cell (p := ⟨w.heap.size, 0, none⟩) (by simp only []; omega)).trans x0
    have HB2 := Lib.hid (xb.trans (hb2.mono (by omega)))
    have k0 := cell_kept y0
    clear hb2 xb xs x0 x1
    go_wp2
    clear hmk k0 y0
    generalize hw3 : World.alloc w2 _ = w4
    have own1 : w4.ownsRow w2.heap.size 3 1 (.slice (some ⟨w2.heap.size, 0, none⟩) 4 4) 4 ((tb 4 (fun j => cnK q.ops (j : Int) 0)).map I) := by rw [← hw3]; exact zeros_own8 4 (by omega) (Nat.le_refl _)
    have HBW := Lib.hid (show Below w.heap.size w w4 by rw [← hw3]; exact HB2.out.alloc HB2.out.size _)
    have hsw := HB2.out.size
    obtain ⟨g, hg⟩ : ∃ g, w2.heap.size = g := ⟨_, rfl⟩
    rw [hg] at own1 hsw ⊢
    have O1 := Lib.hid own1
    have hg1 : w.heap.size ≤ g := hsw
    have hg2 : w4.heap.size = g + 1 := by rw [← hw3]; simp; omega
    have hBg : B ≤ g := by omega
    clear hw3 own1 hg hsw
    go_loopw [14] (fun iv wr => ∃ k : Nat, k ≤ q.ops.length ∧ iv = .int .i64 (k : Int) ∧ wr.ownsRow g 3 1 (.slice (some ⟨g, 0, none⟩) 4 4) 4 ((tb 4 (fun j => cnK q.ops (j : Int) k)).map I) ∧ Below g w4 wr) (fun i _ => q.ops.length - (intOf i).toNat)
    case atStart => exact ⟨0, by omega, rfl, O1.out, Below.refl _ _⟩
    case round =>
      obtain ⟨k, hk, rfl, hown, hbel⟩ := hrel
      have hsz := hbel.size
      by_cases hlt : k < q.ops.length
      · obtain ⟨b, off, rfl, hb, hc1, hc2, hc3⟩ := (((H.out.below' HBW.out hB).below' hbel (by omega)).op hlt : ∃ b off, A = some ⟨b, off, none⟩ ∧ b < B ∧ _)
        have ik : (k : Int) < (q.ops.length : Int) := by omega
        have hgo : q.ops.getD k o0 = q.ops[k] := by simp [List.getD_eq_getElem?_getD, hlt]
        have hok := GD.out k hlt
        unfold opG at hok
        rw [Bool.and_eq_true] at hok
        obtain ⟨K, hK4, hK⟩ := kind_nat hok.1
        have SU := Lib.hid (show ∀ j : Nat, cnK q.ops (j : Int) (k + 1) = cnK q.ops (j : Int) k + (if j = K then 1 else 0) from fun j => by
          show cnK q.ops (j : Int) k + (if (q.ops.getD k o0).1 = (j : Int) then 1 else 0) = _
          rw [hK]
          by_cases e : j = K
          · rw [if_pos e, if_pos (by omega)]
          · rw [if_neg e, if_neg (by omega)])
        rw [hgo] at hK
        rw [hK] at hc1
        have hbd := cnK_bd q.ops (K : Int) k
        obtain ⟨N, hN⟩ : ∃ N, cnK q.ops (K : Int) k = N := ⟨_, rfl⟩
        have HN := Lib.hid hN
        rw [hN] at hbd
        have hd : wr.cell? ⟨g, K, none⟩ = some (.int .i64 N) := by rw [hown.cellAt K (by omega), tb_at _ hK4, hN]
        have hd2 := cell_kept hd
        have hfz : ∀ o, (wr.alloc o).frozen? ⟨g, K, none⟩ = false := fun o => (World.ownsRow.alloc hown o).frozenAt _
        have i4 : (K : Int) < 4 := by omega
        have OWN := Lib.hid hown
        have BEL := Lib.hid hbel
        clear hgo hok hK hN hd hown hbel
        go_wp2
        go_roundw
        case rel =>
          refine ⟨k + 1, by omega, by go_num, ?_, (BEL.out.alloc (by omega) _).setCell (by simp) _⟩
          have ts := tb_set (n := 4) (F := fun j => cnK q.ops (j : Int) k) (G := fun j => cnK q.ops (j : Int) (k + 1)) hK4 (by rw [SU.out, if_pos rfl, HN.out]) (fun j _ hne => by rw [SU.out, if_neg hne]; omega)
          rw [← ts]
          exact ((World.ownsRow.alloc OWN.out _).stored K (I (N + 1))).1
        case measure => simp [intOf]; omega
      · have hk' : k = q.ops.length := by omega
        subst hk'
        have BW := Lib.hid (HBW.out.trans (hbel.mono hg1))
        have OWN := Lib.hid hown
        clear hown hbel
        go_wp2
        go_ret2
        exact ⟨_, _, by rw [E.out]; rfl, by rw [E.out]; exact own_base (show wr.ownsRow g 3 1 _ _ _ from OWN.out) hg1, BW.out⟩
end Go.Proofs.Ytpopomcaknbhnaa
