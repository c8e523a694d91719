/- The drawers of chapter 6's residues: moduli, residues, exponents, and what PowersModulo and OrderModulo are drawn for. -/
import Derived.Test.YtbbfbccemonihabCua
import Derived.Test.YtbbfbccemonihabQl
namespace Go.Proofs.Ytbbfbccemonihab
open Go.RowKit

theorem lit_rd (w : World) (l : List Int) (hl : l.length ≤ 1000) : Rd (w.alloc (.cells (l.map I).toArray 3)) (w.heap.size + 1) 1 (some ⟨w.heap.size, 0, none⟩) l.length (l.map I) := by
  have h := World.ownsRow_lit (base := w.heap.size) (e := 3) (size := 1) w (l.map I).toArray l.length (Nat.le_refl _) (by unfold maxLen; omega) (by simp)
  have h2 := Rd.of_own h
  simpa using h2
theorem curLit_any (B g K : Nat) (l : List Int) (w : World) (hK : K ≤ 100000) (h1 : 1 ≤ l.length) (hl : l.length ≤ 1000) (h : Cu w B g K) :
    Calls Try.prog 110 #[.pointer (some ⟨g, 0, none⟩), .slice (some ⟨w.heap.size, 0, none⟩) l.length l.length] (w.alloc (.cells (l.map I).toArray 3)) fun e w' => ∃ v : Int, e = .returned (.int .i64 v) ∧ v ∈ l ∧ Cu w' B g (K + 2) ∧ w.grownBy w' (some g) := by
  refine (curAmong_any B g K (w.heap.size + 1) _ _ l _ hK h1 hl (h.alloc _) (lit_rd w l hl) (by simp) (fun b off e => by injection e with e; injection e with e1 e2; have := h.lt; omega)).mono ?_
  rintro e w' ⟨v, rfl, hv, hc, hg⟩
  exact ⟨v, rfl, hv, hc, grown_trans (grown_below _ ((Below.refl _ _).alloc (Nat.le_refl _) _)) hg⟩

set_option maxRecDepth 100000 in
set_option maxHeartbeats 2000000 in
theorem curModulus_any (B g K : Nat) (w : World) (hK : K ≤ 10000) (h : Cu w B g K) :
    Calls Try.prog 99 #[.pointer (some ⟨g, 0, none⟩)] w fun e w' => ∃ v : Int, e = .returned (.int .i64 v) ∧ -1 ≤ v ∧ v ≤ 10001 ∧ Cu w' B g (K + 6) ∧ w.grownBy w' (some g) := by
  have P := Lib.hid (curOne_any B g K 12 w (by omega) (by omega) h)
  clear h
  go_enter Try.func99, Try.ntmps99
  go_wp2_with fail
  go_at_call 119
  refine P.out.mono ?_
  rintro e w2 ⟨b, rfl, hc2, hg2⟩
  have C2 := Lib.hid hc2
  have G2 := Lib.hid hg2
  clear hc2 hg2
  cases b with
  | true =>
    go_wp2_with fail
    go_at_call 110
    refine (curLit_any B g (K + 2) [-1, 0, 1, 2, 10000, 10001] w2 (by omega) (by decide) (by decide) C2.out).mono ?_
    rintro e w3 ⟨v, rfl, hv, hc3, hg3⟩
    have C3 := Lib.hid (hc3.more (show K + 2 + 2 ≤ K + 6 by omega))
    have G3 := Lib.hid (grown_trans G2.out hg3)
    have hv2 : -1 ≤ v ∧ v ≤ 10001 := by simp at hv; omega
    have HV := Lib.hid hv2
    clear hc3 hg3 hv hv2
    go_wp2
    go_ret
    exact ⟨v, rfl, HV.out.1, HV.out.2, C3.out, G3.out⟩
  | false =>
    go_wp2_with fail
    go_at_call 110
    refine (curLit_any B g (K + 2) [6, 30, 1000] w2 (by omega) (by decide) (by decide) C2.out).mono ?_
    rintro e w3 ⟨v, rfl, hv, hc3, hg3⟩
    have hv2 : 6 ≤ v ∧ v ≤ 1000 := by simp at hv; omega
    have P3 := Lib.hid (curPick_any B g (K + 2 + 2) v w3 (by omega) (by omega) hc3)
    have G3 := Lib.hid (grown_trans G2.out hg3)
    clear hc3 hg3 hv
    go_wp2_with fail
    go_at_call 159
    refine P3.out.mono ?_
    rintro e w4 ⟨u, rfl, hu, hc4, hg4⟩
    have C4 := Lib.hid (hc4.more (show K + 2 + 2 + 2 ≤ K + 6 by omega))
    have G4 := Lib.hid (grown_trans G3.out hg4)
    have hul : u ≤ 1000 := by omega
    have ew : wrap64 (2 + (u : Int)) = 2 + (u : Int) := by unfold wrap64; omega
    clear hc4 hg4 hu hv2
    go_wp2
    go_ret
    exact ⟨2 + (u : Int), rfl, by omega, by omega, C4.out, G4.out⟩

set_option maxRecDepth 100000 in
set_option maxHeartbeats 2000000 in
theorem curExponent_any (B g K : Nat) (w : World) (hK : K ≤ 10000) (h : Cu w B g K) :
    Calls Try.prog 106 #[.pointer (some ⟨g, 0, none⟩)] w fun e w' => ∃ v : Int, e = .returned (.int .i64 v) ∧ Cu w' B g (K + 6) ∧ w.grownBy w' (some g) := by
  have P := Lib.hid (curOne_any B g K 12 w (by omega) (by omega) h)
  clear h
  go_enter Try.func106, Try.ntmps106
  go_wp2_with fail
  go_at_call 119
  refine P.out.mono ?_
  rintro e w2 ⟨b, rfl, hc2, hg2⟩
  have C2 := Lib.hid hc2
  have G2 := Lib.hid hg2
  clear hc2 hg2
  cases b with
  | true =>
    go_wp2_with fail
    go_at_call 110
    refine (curLit_any B g (K + 2) [-1, 0, 1000000, 1000001] w2 (by omega) (by decide) (by decide) C2.out).mono ?_
    rintro e w3 ⟨v, rfl, hv, hc3, hg3⟩
    have C3 := Lib.hid (hc3.more (show K + 2 + 2 ≤ K + 6 by omega))
    have G3 := Lib.hid (grown_trans G2.out hg3)
    clear hc3 hg3 hv
    go_wp2
    go_ret
    exact ⟨v, rfl, C3.out, G3.out⟩
  | false =>
    go_wp2_with fail
    go_at_call 110
    refine (curLit_any B g (K + 2) [5, 40, 5000] w2 (by omega) (by decide) (by decide) C2.out).mono ?_
    rintro e w3 ⟨v, rfl, hv, hc3, hg3⟩
    have hv2 : 5 ≤ v ∧ v ≤ 5000 := by simp at hv; omega
    have P3 := Lib.hid (curPick_any B g (K + 2 + 2) v w3 (by omega) (by omega) hc3)
    have G3 := Lib.hid (grown_trans G2.out hg3)
    clear hc3 hg3 hv
    go_wp2_with fail
    go_at_call 159
    refine P3.out.mono ?_
    rintro e w4 ⟨u, rfl, hu, hc4, hg4⟩
    have C4 := Lib.hid (hc4.more (show K + 2 + 2 + 2 ≤ K + 6 by omega))
    have G4 := Lib.hid (grown_trans G3.out hg4)
    clear hc4 hg4 hu hv2
    go_wp2
    go_ret
    exact ⟨(u : Int), rfl, C4.out, G4.out⟩

set_option maxRecDepth 100000 in
set_option maxHeartbeats 2000000 in
theorem curResidue_any (B g K : Nat) (m : Int) (w : World) (hK : K ≤ 10000) (h : Cu w B g K) :
    Calls Try.prog 115 #[.pointer (some ⟨g, 0, none⟩), .int .i64 m] w fun e w' => ∃ v : Int, e = .returned (.int .i64 v) ∧ Cu w' B g (K + 6) ∧ w.grownBy w' (some g) := by
  have P := Lib.hid (curOne_any B g K 40 w (by omega) (by omega) h)
  clear h
  go_enter Try.func115, Try.ntmps115
  go_wp2_with fail
  go_at_call 119
  refine P.out.mono ?_
  rintro e w2 ⟨b, rfl, hc2, hg2⟩
  have C2 := Lib.hid hc2
  have G2 := Lib.hid hg2
  clear hc2 hg2
  cases b with
  | true =>
    go_wp2_with fail
    go_at_call 110
    refine (curLit_any B g (K + 2) [-1, m, 4611686018427387904] w2 (by omega) (by simp) (by simp) C2.out).mono ?_
    rintro e w3 ⟨v, rfl, hv, hc3, hg3⟩
    have C3 := Lib.hid (hc3.more (show K + 2 + 2 ≤ K + 6 by omega))
    have G3 := Lib.hid (grown_trans G2.out hg3)
    clear hc3 hg3 hv
    go_wp2
    go_ret
    exact ⟨v, rfl, C3.out, G3.out⟩
  | false =>
    have hb : mostI 1 (leastI m 20000) ≤ 2000000 := by unfold mostI leastI; split <;> split <;> omega
    have P3 := Lib.hid (curPick_any B g (K + 2) (mostI 1 (leastI m 20000)) w2 (by omega) hb C2.out)
    clear hb
    go_wp2_with fail
    go_at_call 153
    refine (l1Least_any _ _ _).mono ?_
    rintro e w3 ⟨rfl, rfl⟩
    obtain ⟨z, hz⟩ : ∃ z, leastI m 20000 = z := ⟨_, rfl⟩
    rw [hz] at P3
    rw [hz]
    clear hz
    go_wp2_with fail
    go_at_call 154
    refine (l1Most_any _ _ _).mono ?_
    rintro e w3 ⟨rfl, rfl⟩
    obtain ⟨y, hy⟩ : ∃ y, mostI 1 z = y := ⟨_, rfl⟩
    rw [hy] at P3
    rw [hy]
    clear hy
    go_wp2_with fail
    go_at_call 159
    refine P3.out.mono ?_
    rintro e w4 ⟨u, rfl, hu, hc4, hg4⟩
    have C4 := Lib.hid (hc4.more (show K + 2 + 2 ≤ K + 6 by omega))
    have G4 := Lib.hid (grown_trans G2.out hg4)
    clear hc4 hg4 hu
    go_wp2
    go_ret
    exact ⟨(u : Int), rfl, C4.out, G4.out⟩

set_option maxRecDepth 100000 in
set_option maxHeartbeats 4000000 in
theorem curResidues_any (B g K n : Nat) (m : Int) (w : World) (hn : n ≤ 100) (hK : K ≤ 1000) (h : Cu w B g K) :
    Calls Try.prog 111 #[.pointer (some ⟨g, 0, none⟩), .int .i64 (n : Int), .int .i64 m] w fun e w' => ∃ (A : Option Addr) (c : Nat) (l : List Int), e = .returned (.slice A l.length c) ∧ l.length ≤ 101 ∧ OwI w' w.heap.size (.slice A l.length c) l ∧ Cu w' B g (K + 700) ∧ w.grownBy w' (some g) := by
  have P := Lib.hid (curOne_any B g K 30 w (by omega) (by omega) h)
  have hglt := h.lt
  clear h
  go_enter Try.func111, Try.ntmps111
  go_wp2_with fail
  go_at_call 119
  refine P.out.mono ?_
  rintro e w2 ⟨b, rfl, hc2, hg2⟩
  have C2 := Lib.hid hc2
  have G2 := Lib.hid hg2
  clear hc2 hg2
  have key : ∀ q : Nat, q ≤ 101 → True := fun _ _ => trivial
  clear key
  cases b with
  | true =>
    have ew : wrap64 ((n : Int) + 1) = ((n + 1 : Nat) : Int) := by unfold wrap64; omega
    have hq : n + 1 ≤ 101 := by omega
    obtain ⟨q, hqe⟩ : ∃ q, n + 1 = q := ⟨_, rfl⟩
    have e2 : (n : Int) + 1 = (q : Int) := by omega
    rw [hqe] at ew hq
    clear hqe
    go_wp2
    go_loopw [1, 7] (fun nv ov wr => ∃ (k j : Nat) (A : Option Addr) (c : Nat) (l : List Int), nv = .int .i64 (k : Int) ∧ ov = .slice A j c ∧ k + j ≤ 101 ∧ Hid (l.length = j) ∧ Hid (OwI wr w.heap.size (.slice A j c) l) ∧ Hid (Cu wr B g (K + 2 + 6 * j)) ∧ Hid (w.grownBy wr (some g))) (fun nv _ _ => (intOf nv).toNat)
    case atStart => exact ⟨q, 0, none, 0, [], by first | rw [ew] | rw [e2] | rfl, rfl, by omega, Lib.hid rfl, Lib.hid (OwI.nil _ _), C2, G2⟩
    case round =>
      obtain ⟨k, j, A, c, l, rfl, rfl, hkj, hl, hown, hcu, hgr⟩ := hrel
      have hs := hgr.out.size
      clear C2 G2
      by_cases hp : 0 < k
      · have ip : (0 : Int) < (k : Int) := by omega
        have ew2 : wrap64 ((k : Int) - 1) = ((k - 1 : Nat) : Int) := by unfold wrap64; omega
        have ew3 : (k : Int) - 1 = ((k - 1 : Nat) : Int) := by omega
        have R := Lib.hid (curResidue_any B g (K + 2 + 6 * j) m wr (by omega) hcu.out)
        go_wp2_with fail
        go_at_call 115
        refine R.out.mono ?_
        rintro e w3 ⟨u, rfl, hc3, hg3⟩
        have OWN := Lib.hid (show OwI w3 w.heap.size (.slice A j c) l from World.ownsRow.kept hown.out hg3 (by
          cases hb : (Value.slice A j c).ownBlock with
          | none => exact .inl rfl
          | some z => right; intro e; injection e with e; have := (own_block hown.out z hb).1; omega))
        have C3 := Lib.hid hc3
        have G3 := Lib.hid (grown_trans hgr.out hg3)
        have hs3 := hg3.size
        clear hc3 hg3
        go_wp2_with (at_builtin; refine list_step (fun K hK => ?_); refine step_app_int rfl (.tmp 16) (.tmp 20) rfl w.heap.size j _ l rfl (OWN.out.alloc _) hl.out w3.heap.size 1 u rfl (by simp) (by omega) (by simp; omega) ?_; intro A3 c3 w4 hown4 hg4 hbel4; go_simp; refine hK _ _ ?_; clear hK K)
        have hab : Below w3.heap.size w3 (w3.alloc (Obj.cells #[Value.int .i64 u] 3)) := (Below.refl _ _).alloc (Nat.le_refl _) _
        have hg5 : w.grownBy w4 (some g) := by
          have h1 := grown_trans G3.out (grown_below (some g) hab)
          exact ⟨hbel4.os.trans h1.os, hbel4.tape.trans h1.tape, hbel4.output.trans h1.output, Nat.le_trans h1.size hbel4.size, fun i hi hne => (hbel4.block i hi).trans (h1.block i hi hne)⟩
        have hc5 : Cu w4 B g (K + 2 + 6 * (j + 1)) := by
          have h1 := (C3.out.alloc (Obj.cells #[Value.int .i64 u] 3)).more (show K + 2 + 6 * j + 6 ≤ K + 2 + 6 * (j + 1) by omega)
          obtain ⟨A', n', c', a', s', e1, e2, e3, e4⟩ := h1
          exact ⟨A', n', c', a', s', (hbel4.block g hglt).trans e1, e2, e3, e4.keep fun p hp => hbel4.cell (by omega)⟩
        have C5 := Lib.hid hc5
        have G5 := Lib.hid hg5
        clear hab hg5 hc5
        go_roundw
        case rel => exact ⟨k - 1, j + 1, A3, c3, l ++ [u], by first | rw [ew2] | rw [ew3] | rfl, rfl, by omega, Lib.hid (by rw [List.length_append, hl.out]; rfl), Lib.hid hown4, C5, G5⟩
        case measure => simp [intOf]; omega
      · have hk0 : k = 0 := by omega
        subst hk0
        have C5 := Lib.hid (hcu.out.more (show K + 2 + 6 * j ≤ K + 700 by omega))
        go_wp2
        go_ret
        refine ⟨A, c, l, ret_slice hl.out.symm, by rw [hl.out]; omega, by rw [hl.out]; exact hown.out, C5.out, hgr.out⟩
  | false =>
    obtain ⟨q, hqe⟩ : ∃ q, n = q := ⟨_, rfl⟩
    rw [hqe]
    have hq : q ≤ 101 := by omega
    clear hqe
    go_wp2
    go_loopw [1, 7] (fun nv ov wr => ∃ (k j : Nat) (A : Option Addr) (c : Nat) (l : List Int), nv = .int .i64 (k : Int) ∧ ov = .slice A j c ∧ k + j ≤ 101 ∧ Hid (l.length = j) ∧ Hid (OwI wr w.heap.size (.slice A j c) l) ∧ Hid (Cu wr B g (K + 2 + 6 * j)) ∧ Hid (w.grownBy wr (some g))) (fun nv _ _ => (intOf nv).toNat)
    case atStart => exact ⟨q, 0, none, 0, [], rfl, rfl, by omega, Lib.hid rfl, Lib.hid (OwI.nil _ _), C2, G2⟩
    case round =>
      obtain ⟨k, j, A, c, l, rfl, rfl, hkj, hl, hown, hcu, hgr⟩ := hrel
      have hs := hgr.out.size
      clear C2 G2
      by_cases hp : 0 < k
      · have ip : (0 : Int) < (k : Int) := by omega
        have ew2 : wrap64 ((k : Int) - 1) = ((k - 1 : Nat) : Int) := by unfold wrap64; omega
        have ew3 : (k : Int) - 1 = ((k - 1 : Nat) : Int) := by omega
        have R := Lib.hid (curResidue_any B g (K + 2 + 6 * j) m wr (by omega) hcu.out)
        go_wp2_with fail
        go_at_call 115
        refine R.out.mono ?_
        rintro e w3 ⟨u, rfl, hc3, hg3⟩
        have OWN := Lib.hid (show OwI w3 w.heap.size (.slice A j c) l from World.ownsRow.kept hown.out hg3 (by
          cases hb : (Value.slice A j c).ownBlock with
          | none => exact .inl rfl
          | some z => right; intro e; injection e with e; have := (own_block hown.out z hb).1; omega))
        have C3 := Lib.hid hc3
        have G3 := Lib.hid (grown_trans hgr.out hg3)
        have hs3 := hg3.size
        clear hc3 hg3
        go_wp2_with (at_builtin; refine list_step (fun K hK => ?_); refine step_app_int rfl (.tmp 16) (.tmp 20) rfl w.heap.size j _ l rfl (OWN.out.alloc _) hl.out w3.heap.size 1 u rfl (by simp) (by omega) (by simp; omega) ?_; intro A3 c3 w4 hown4 hg4 hbel4; go_simp; refine hK _ _ ?_; clear hK K)
        have hab : Below w3.heap.size w3 (w3.alloc (Obj.cells #[Value.int .i64 u] 3)) := (Below.refl _ _).alloc (Nat.le_refl _) _
        have hg5 : w.grownBy w4 (some g) := by
          have h1 := grown_trans G3.out (grown_below (some g) hab)
          exact ⟨hbel4.os.trans h1.os, hbel4.tape.trans h1.tape, hbel4.output.trans h1.output, Nat.le_trans h1.size hbel4.size, fun i hi hne => (hbel4.block i hi).trans (h1.block i hi hne)⟩
        have hc5 : Cu w4 B g (K + 2 + 6 * (j + 1)) := by
          have h1 := (C3.out.alloc (Obj.cells #[Value.int .i64 u] 3)).more (show K + 2 + 6 * j + 6 ≤ K + 2 + 6 * (j + 1) by omega)
          obtain ⟨A', n', c', a', s', e1, e2, e3, e4⟩ := h1
          exact ⟨A', n', c', a', s', (hbel4.block g hglt).trans e1, e2, e3, e4.keep fun p hp => hbel4.cell (by omega)⟩
        have C5 := Lib.hid hc5
        have G5 := Lib.hid hg5
        clear hab hg5 hc5
        go_roundw
        case rel => exact ⟨k - 1, j + 1, A3, c3, l ++ [u], by first | rw [ew2] | rw [ew3] | rfl, rfl, by omega, Lib.hid (by rw [List.length_append, hl.out]; rfl), Lib.hid hown4, C5, G5⟩
        case measure => simp [intOf]; omega
      · have hk0 : k = 0 := by omega
        subst hk0
        have C5 := Lib.hid (hcu.out.more (show K + 2 + 6 * j ≤ K + 700 by omega))
        go_wp2
        go_ret
        refine ⟨A, c, l, ret_slice hl.out.symm, by rw [hl.out]; omega, by rw [hl.out]; exact hown.out, C5.out, hgr.out⟩
end Go.Proofs.Ytbbfbccemonihab
