/- What PowersModulo and OrderModulo are drawn for. -/
import Derived.Test.YtbbfbccemonihabCub
import Derived.Test.YtbbfbccemonihabBase2
namespace Go.Proofs.Ytbbfbccemonihab
open Go.RowKit

theorem cur_new {w w1 : World} {B n c : Nat} {A : Option Addr} (h : w.alloc (.cells #[.slice A n c, .int .i64 0, .int .u64 0] 113) = w1) (hr : RB w B A n) (hB : B ≤ w.heap.size) :
    Cu w1 B w.heap.size 0 ∧ w1.heap.size = w.heap.size + 1 ∧ Below w.heap.size w w1 := by
  subst h
  have hb : Below w.heap.size w (w.alloc (.cells #[.slice A n c, .int .i64 0, .int .u64 0] 113)) := (Below.refl _ _).alloc (Nat.le_refl _) _
  exact ⟨⟨A, n, c, 0, 0, heap_alloc_new w _, Nat.le_refl _, hB, hr.keep fun p hp => hb.cell (by omega)⟩, by simp, hb⟩
theorem below_of_grown {w w1 w' : World} (hb : Below w.heap.size w w1) (hs : w1.heap.size = w.heap.size + 1) (hg : w1.grownBy w' (some w.heap.size)) : Below w.heap.size w w' :=
  below_grown hb hg (Nat.le_refl _) (by omega)

set_option maxRecDepth 100000 in
set_option maxHeartbeats 2000000 in
theorem drawOrder_any (B : Nat) (A : Option Addr) (n c : Nat) (w : World) (hB : B ≤ w.heap.size) (hr : RB w B A n) :
    Calls Try.prog 53 #[.slice A n c] w fun e w' => ∃ x m : Int, e = .returned (.tuple #[.int .i64 x, .int .i64 m]) ∧ Below w.heap.size w w' := by
  have H := Lib.hid hr
  clear hr
  go_enter Try.func53, Try.ntmps53
  go_wp2_with fail
  go_at_call 99
  generalize hw1 : World.alloc w _ = w1
  obtain ⟨hc, hs, hb⟩ := cur_new hw1 H.out hB
  clear hw1
  have HB := Lib.hid hb
  refine (curModulus_any B w.heap.size 0 w1 (by omega) hc).mono ?_
  rintro e w2 ⟨m, rfl, _, _, hc2, hg2⟩
  have G2 := Lib.hid hg2
  have R := Lib.hid (curResidue_any B w.heap.size (0 + 6) m w2 (by omega) hc2)
  clear hc hb hc2 hg2
  go_wp2_with fail
  go_at_call 115
  refine R.out.mono ?_
  rintro e w3 ⟨x, rfl, _, hg3⟩
  have B3 := Lib.hid (below_of_grown HB.out hs (grown_trans G2.out hg3))
  clear hg3
  go_wp2
  go_ret2
  exact ⟨x, m, rfl, B3.out⟩

set_option maxRecDepth 100000 in
set_option maxHeartbeats 4000000 in
theorem drawPowers_any (B : Nat) (A : Option Addr) (n c : Nat) (w : World) (hB : B ≤ w.heap.size) (hr : RB w B A n) :
    Calls Try.prog 50 #[.slice A n c] w fun e w' => ∃ (A1 A2 : Option Addr) (c1 c2 : Nat) (l1 l2 : List Int) (m : Int), e = .returned (.tuple #[.slice A1 l1.length c1, .int .i64 m, .slice A2 l2.length c2]) ∧ l1.length ≤ 101 ∧ l2.length ≤ 101 ∧ OwI w' w.heap.size (.slice A1 l1.length c1) l1 ∧ OwI w' w.heap.size (.slice A2 l2.length c2) l2 ∧ Below w.heap.size w w' := by
  have H := Lib.hid hr
  clear hr
  go_enter Try.func50, Try.ntmps50
  go_wp2_with fail
  go_at_call 110
  generalize hw1 : World.alloc w _ = w1
  obtain ⟨hc, hs, hb⟩ := cur_new hw1 H.out hB
  clear hw1
  have HB := Lib.hid hb
  have HS := Lib.hid hs
  have hsg : w.heap.size < w1.heap.size := by omega
  have PL := curLit_any B w.heap.size 0 [1, 2, 3, 6, 7, 0] w1 (by omega) (by decide) (by decide) hc
  rw [hs] at PL
  have PL := Lib.hid PL
  clear hs
  refine PL.out.mono ?_
  rintro e w2 ⟨N, rfl, hN, hc2, hg2⟩
  have hN2 : 0 ≤ N ∧ N ≤ 7 := by simp at hN; omega
  obtain ⟨q, rfl⟩ : ∃ q : Nat, N = q := ⟨N.toNat, by omega⟩
  have hq : q ≤ 7 := by omega
  have G2 := Lib.hid hg2
  have R := Lib.hid (curModulus_any B w.heap.size (0 + 2) w2 (by omega) hc2)
  have hs2 := hg2.size
  clear hc hb hc2 hg2 hN hN2
  go_wp2_with fail
  go_at_call 99
  refine R.out.mono ?_
  rintro e w3 ⟨m, rfl, _, _, hc3, hg3⟩
  have C3 := Lib.hid hc3
  have G3 := Lib.hid (grown_trans G2.out hg3)
  have hs3 := hg3.size
  clear hc3 hg3
  go_wp2
  go_loopw [8, 9] (fun ov iv wr => ∃ (j : Nat) (A : Option Addr) (c : Nat) (l : List Int), iv = .int .i64 (j : Int) ∧ ov = .slice A j c ∧ j ≤ q ∧ Hid (l.length = j) ∧ Hid (OwI wr (w.heap.size + 1) (.slice A j c) l) ∧ Hid (Cu wr B w.heap.size (8 + 6 * j)) ∧ Hid (w1.grownBy wr (some w.heap.size))) (fun _ iv _ => q - (intOf iv).toNat)
  case atStart => exact ⟨0, none, 0, [], rfl, rfl, by omega, Lib.hid rfl, Lib.hid (OwI.nil _ _), Lib.hid (C3.out.more (by omega)), G3⟩
  case round =>
    obtain ⟨j, A', c', l, rfl, rfl, hjq, hl, hown, hcu, hgr⟩ := hrel
    have hs4 := hgr.out.size
    clear C3 G3 G2
    by_cases hp : j < q
    · have ip : (j : Int) < (q : Int) := by omega
      have R := Lib.hid (curExponent_any B w.heap.size (8 + 6 * j) wr (by omega) hcu.out)
      go_wp2_with fail
      go_at_call 106
      refine R.out.mono ?_
      rintro e w5 ⟨u, rfl, hc5, hg5⟩
      have OWN := Lib.hid (show OwI w5 (w.heap.size + 1) (.slice A' j c') l from World.ownsRow.kept hown.out hg5 (by
        cases hb : (Value.slice A' j c').ownBlock with
        | none => exact .inl rfl
        | some z => right; intro e; injection e with e; have := (own_block hown.out z hb).1; omega))
      have C5 := Lib.hid hc5
      have G5 := Lib.hid (grown_trans hgr.out hg5)
      have hs5 := hg5.size
      clear hc5 hg5
      go_wp2_with (at_builtin; refine list_step (fun K hK => ?_); refine step_app_int rfl (.tmp 23) (.tmp 26) rfl (w.heap.size + 1) j _ l rfl (OWN.out.alloc _) hl.out w5.heap.size 1 u rfl (by simp) (by omega) (by simp; omega) ?_; intro A3 c3 w6 hown6 hg6 hbel6; go_simp; refine hK _ _ ?_; clear hK K)
      have hg7 : w1.grownBy w6 (some w.heap.size) := by
        have h1 := grown_trans G5.out (grown_below (some w.heap.size) ((Below.refl w5.heap.size w5).alloc (Nat.le_refl _) (Obj.cells #[Value.int .i64 u] 3)))
        exact ⟨hbel6.os.trans h1.os, hbel6.tape.trans h1.tape, hbel6.output.trans h1.output, Nat.le_trans h1.size hbel6.size, fun i hi hne => by
          by_cases hio : i < w.heap.size + 1
          · exact (hbel6.block i hio).trans (h1.block i hi hne)
          · have := HS.out; omega⟩
      have hc7 : Cu w6 B w.heap.size (8 + 6 * (j + 1)) := by
        have h1 := (C5.out.alloc (Obj.cells #[Value.int .i64 u] 3)).more (show 8 + 6 * j + 6 ≤ 8 + 6 * (j + 1) by omega)
        obtain ⟨A', n', c', a', s', e1, e2, e3, e4⟩ := h1
        exact ⟨A', n', c', a', s', (hbel6.block w.heap.size (by omega)).trans e1, e2, e3, e4.keep fun p hp => hbel6.cell (by omega)⟩
      have C7 := Lib.hid hc7
      have G7 := Lib.hid hg7
      clear hg7 hc7
      go_roundw
      case rel => exact ⟨j + 1, A3, c3, l ++ [u], by go_num, rfl, by omega, Lib.hid (by rw [List.length_append, hl.out]; rfl), Lib.hid hown6, C7, G7⟩
      case measure => simp [intOf]; omega
    · have hjq' : j = q := by omega
      subst hjq'
      have R := Lib.hid (curResidues_any B w.heap.size (8 + 6 * j) j m wr (by omega) (by omega) hcu.out)
      go_wp2_with fail
      go_at_call 111
      refine R.out.mono ?_
      rintro e w5 ⟨A5, c5, l5, rfl, hl5, ho5, _, hg5⟩
      have OWN := Lib.hid (show OwI w5 (w.heap.size + 1) (.slice A' j c') l from World.ownsRow.kept hown.out hg5 (by
        cases hb : (Value.slice A' j c').ownBlock with
        | none => exact .inl rfl
        | some z => right; intro e; injection e with e; have := (own_block hown.out z hb).1; omega))
      have O5 := Lib.hid (ho5.base (show w.heap.size ≤ wr.heap.size by omega))
      have B5 := Lib.hid (below_of_grown HB.out HS.out (grown_trans hgr.out hg5))
      clear ho5 hg5
      go_wp2
      go_ret3
      refine ⟨A', A5, c', c5, l, l5, m, by rw [hl.out]; rfl, by rw [hl.out]; omega, hl5, by rw [hl.out]; exact OWN.out.base (by omega), O5.out, B5.out⟩
end Go.Proofs.Ytbbfbccemonihab
