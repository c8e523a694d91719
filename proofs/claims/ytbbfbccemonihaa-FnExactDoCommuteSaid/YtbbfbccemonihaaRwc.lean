/- DoCommute: data; permutations alike, by the model and by the program. -/
import Derived.Test.YtbbfbccemonihaaRwb
import Derived.Test.YtbbfbccemonihaaMoq
import Derived.Test.YtbbfbccemonihaaPq
namespace Go.Proofs.Ytbbfbccemonihaa
open Go.RowKit

def okA (r : Rws) (i : Nat) : Bool := decide ((r.getD i []).length = (r.getD 0 []).length) && isPm (r.getD i [])
def allA (r : Rws) : Bool := (List.range r.length).all (okA r)
def alG (r : Rws) : Bool := decide (r.length ≤ 6) && allA r
theorem allA_bad {r : Rws} {k : Nat} (hk : k < r.length) (h : okA r k = false) : allA r = false := by
  unfold allA
  rw [List.all_eq_false]
  exact ⟨k, by simpa using hk, by rw [h]; decide⟩
theorem allA_good {r : Rws} (h : ∀ k, k < r.length → okA r k = true) : allA r = true := by
  unfold allA
  rw [List.all_eq_true]
  intro k hk
  exact h k (by simpa using hk)
theorem allA_at {r : Rws} (h : allA r = true) {k : Nat} (hk : k < r.length) : (r.getD k []).length = (r.getD 0 []).length ∧ isPm (r.getD k []) = true := by
  unfold allA at h
  rw [List.all_eq_true] at h
  have := h k (by simpa using hk)
  unfold okA at this
  rw [Bool.and_eq_true, decide_eq_true_eq] at this
  exact this
/-- Row k of what reads, at a world behind. -/
theorem RdW.row {w w' : World} {B : Nat} {A : Option Addr} {f : Nat → Option Addr × Nat} {r : Rws} (h : RdW w B A f r) (hb : Below w.heap.size w w') (hB : B ≤ w.heap.size) {k : Nat} (hk : k < r.length) : Rd w' B 1 (f k).1 (r.getD k []).length ((r.getD k []).map I) := ((h.below' hb hB).2 k hk).1

set_option maxRecDepth 100000 in
set_option maxHeartbeats 4000000 in
theorem moAlike_any (B : Nat) (A : Option Addr) (c : Nat) (f : Nat → Option Addr × Nat) (r : Rws) (w : World) (hB : B ≤ w.heap.size) (hR : r.length ≤ 1048576) (hrow : ∀ i, i < r.length → (r.getD i []).length ≤ 1048576) (hr : RdW w B A f r) :
    Calls Try.prog 95 #[.slice A r.length c] w fun e w' => e = .returned (.bool (alG r)) ∧ Below w.heap.size w w' := by
  have H := Lib.hid hr
  have HROW := Lib.hid hrow
  clear hr hrow
  go_enter Try.func95, Try.ntmps95
  go_wp2
  go_loopw [7] (fun iv wr => ∃ k : Nat, k ≤ r.length ∧ iv = .int .i64 (k : Int) ∧ Hid (∀ i, i < k → okA r i = true) ∧ Hid (Below w.heap.size w wr)) (fun iv _ => r.length - (intOf iv).toNat)
  case atStart => exact ⟨0, by omega, rfl, Lib.hid (fun i hi => absurd hi (by omega)), Lib.hid (Below.refl _ _)⟩
  case round =>
    obtain ⟨k, hk, rfl, hok, hbel⟩ := hrel
    have hsz := hbel.out.size
    by_cases hlt : k < r.length
    · obtain ⟨b, off, rfl, hb, hc⟩ := (H.out.below' hbel.out hB).at_ hlt
      obtain ⟨b', off', hbb, _, hc0⟩ := (H.out.below' hbel.out hB).at_ (show 0 < r.length by omega)
      obtain ⟨rfl, rfl⟩ : b = b' ∧ off = off' := by injection hbb with hbb; injection hbb with h1 h2; exact ⟨h1, h2⟩
      have IP := Lib.hid (specIsPm_any B (f k).1 (f k).2 (r.getD k []) wr (by omega) (HROW.out k hlt) ((H.out.2 k hlt).2) (H.out.row hbel.out hB hlt))
      have BAD := Lib.hid (fun h => allA_bad (r := r) hlt h)
      have OK := Lib.hid (show okA r k = (decide ((r.getD k []).length = (r.getD 0 []).length) && isPm (r.getD k [])) from rfl)
      have ik : (k : Int) < (r.length : Int) := by omega
      have i0 : (0 : Int) < (r.length : Int) := by omega
      obtain ⟨a1, ha1⟩ : ∃ a, (f k).1 = a := ⟨_, rfl⟩
      obtain ⟨a2, ha2⟩ : ∃ a, (f k).2 = a := ⟨_, rfl⟩
      obtain ⟨pm, hpm⟩ : ∃ a, isPm (r.getD k []) = a := ⟨_, rfl⟩
      obtain ⟨n, hn⟩ : ∃ a, (r.getD k []).length = a := ⟨_, rfl⟩
      obtain ⟨m, hm⟩ : ∃ a, (r.getD 0 []).length = a := ⟨_, rfl⟩
      rw [ha1, ha2, hn, hpm] at IP
      rw [ha1, ha2, hn] at hc
      rw [hm] at hc0
      rw [hn, hm, hpm] at OK
      rw [Nat.add_zero] at hc0
      clear ha1 ha2 hn hm hpm hbb
      cases pm with
      | false =>
        have E := Lib.hid (show alG r = false by unfold alG; rw [BAD.out (by rw [OK.out, Bool.and_false]), Bool.and_false])
        go_wp2_with fail
        go_at_call 42
        refine IP.out.mono ?_
        rintro e w2 ⟨rfl, hb2⟩
        have B2 := Lib.hid (hbel.out.trans (hb2.mono hsz))
        clear hb2
        go_wp2
        go_ret
        exact ⟨ret_bool E.out.symm, B2.out⟩
      | true =>
        by_cases hnm : n = m
        · have O := Lib.hid (show okA r k = true by rw [OK.out, decide_eq_true hnm]; rfl)
          subst hnm
          go_wp2_with fail
          go_at_call 42
          refine IP.out.mono ?_
          rintro e w2 ⟨rfl, hb2⟩
          have B2 := Lib.hid (hbel.out.trans (hb2.mono hsz))
          have hc02 := (hb2.cell (p := ⟨b, off, none⟩) (by simp only []; omega)).trans hc0
          clear hb2
          go_wp2
          go_roundw
          case rel => exact ⟨k + 1, by omega, by go_num, Lib.hid (fun i hi => by
            rcases Nat.lt_or_eq_of_le (show i ≤ k by omega) with h | rfl
            · exact hok.out i h
            · exact O.out), B2⟩
          case measure => simp [intOf]; omega
        · have E := Lib.hid (show alG r = false by unfold alG; rw [BAD.out (by rw [OK.out, decide_eq_false hnm]; rfl), Bool.and_false])
          have inm : ¬ (n : Int) = (m : Int) := by omega
          clear hnm
          go_wp2_with fail
          go_at_call 42
          refine IP.out.mono ?_
          rintro e w2 ⟨rfl, hb2⟩
          have B2 := Lib.hid (hbel.out.trans (hb2.mono hsz))
          have hc02 := (hb2.cell (p := ⟨b, off, none⟩) (by simp only []; omega)).trans hc0
          clear hb2
          go_wp2
          go_ret
          exact ⟨ret_bool E.out.symm, B2.out⟩
    · have hk' : k = r.length := by omega
      have E := Lib.hid (show alG r = decide ((r.length : Int) ≤ 6) by unfold alG; rw [allA_good (fun i hi => hok.out i (by omega)), Bool.and_true, decide_eq_decide]; omega)
      subst hk'
      go_wp2
      go_ret
      exact ⟨ret_bool E.out.symm, hbel.out⟩

set_option maxRecDepth 100000 in
set_option maxHeartbeats 2000000 in
theorem permsLike_any (B : Nat) (A : Option Addr) (c : Nat) (f : Nat → Option Addr × Nat) (r : Rws) (w : World) (hB : B ≤ w.heap.size) (hr : RdW w B A f r) :
    Calls Try.prog 96 #[.slice A r.length c] w fun e w' => e = .returned (.agg #[.int .i64 ((r.getD 0 []).length : Int)]) ∧ Below w.heap.size w w' := by
  have H := Lib.hid hr
  clear hr
  by_cases h0 : r.length = 0
  · have hnil : r = [] := List.length_eq_zero_iff.1 h0
    subst hnil
    go_enter Try.func96, Try.ntmps96
    go_wp2
    refine bodyPost_ret (v := .agg #[.int .i64 0]) (by simp [results, Try.results96, go_sem]) rfl ⟨rfl, ?_⟩
    exact (Below.refl _ _).alloc (Nat.le_refl _) _
  · obtain ⟨b, off, rfl, hb, hc⟩ := H.out.at_ (show 0 < r.length by omega)
    have i0 : ¬ (r.length : Int) = 0 := by omega
    have i1 : (0 : Int) < (r.length : Int) := by omega
    obtain ⟨n, hn⟩ : ∃ a, (r.getD 0 []).length = a := ⟨_, rfl⟩
    rw [hn] at hc
    rw [hn]
    rw [Nat.add_zero] at hc
    clear hn h0
    have hbw : b < w.heap.size := by omega
    have hcA : (w.alloc (Obj.cells #[Value.int .i64 0] 107)).cell? ⟨b, off, none⟩ = some (Value.slice (f 0).1 n (f 0).2) := (((Below.refl w.heap.size w).alloc (Nat.le_refl _) _).cell (p := ⟨b, off, none⟩) hbw).trans hc
    go_enter Try.func96, Try.ntmps96
    go_wp2
    refine bodyPost_ret (v := .agg #[.int .i64 (n : Int)]) (by simp [results, Try.results96, go_sem]) rfl ⟨rfl, ?_⟩
    exact (Below.refl _ _).alloc (Nat.le_refl _) _

set_option maxRecDepth 100000 in
set_option maxHeartbeats 2000000 in
theorem hasP1_any (B g n : Nat) (A : Option Addr) (c : Nat) (l : List Int) (w : World) (hB : B ≤ w.heap.size) (hl : l.length ≤ 1048576) (hcap : l.length ≤ c) (hg : w.cell? ⟨g, 0, none⟩ = some (.iface 107 (.agg #[.int .i64 (n : Int)]))) (hr : Rd w B 1 A l.length (l.map I)) :
    Calls Try.prog 114 #[.slice A l.length c, .pointer (some ⟨g, 0, none⟩)] w fun e w' => e = .returned (.bool (!(decide (l.length = n) && isPm l))) ∧ Below w.heap.size w w' := by
  have PH := Lib.hid (pmHas_any B n A c l w hB hl hcap hr)
  obtain ⟨t, ht⟩ : ∃ t, (decide (l.length = n) && isPm l) = t := ⟨_, rfl⟩
  rw [ht] at PH
  rw [ht]
  clear ht hr
  obtain ⟨k, hk⟩ : ∃ k, l.length = k := ⟨_, rfl⟩
  rw [hk] at PH
  rw [hk]
  clear hk
  go_enter Try.func114, Try.ntmps114
  go_wp2_with fail
  refine PH.out.mono ?_
  rintro e w2 ⟨rfl, hb2⟩
  have HB2 := Lib.hid hb2
  clear hb2
  go_wp2
  go_ret
  exact ⟨rfl, HB2.out⟩

set_option maxRecDepth 100000 in
set_option maxHeartbeats 4000000 in
theorem indexP_any (B g : Nat) (A : Option Addr) (c : Nat) (f : Nat → Option Addr × Nat) (r : Rws) (w : World) (hB : B ≤ w.heap.size) (hR : r.length ≤ 1048576) (hrow : ∀ i, i < r.length → (r.getD i []).length ≤ 1048576) (hgs : g < w.heap.size) (hg : w.cell? ⟨g, 0, none⟩ = some (.iface 107 (.agg #[.int .i64 ((r.getD 0 []).length : Int)]))) (hr : RdW w B A f r) :
    Calls Try.prog 122 #[.slice A r.length c, .func (.func 114) #[] #[.pointer (some ⟨g, 0, none⟩)]] w fun e w' => (∃ i : Int, e = .returned (.int .i64 i) ∧ decide (0 ≤ i) = !allA r) ∧ Below w.heap.size w w' := by
  have H := Lib.hid hr
  have HROW := Lib.hid hrow
  have HG := Lib.hid hg
  clear hr hrow hg
  go_enter Try.func122, Try.ntmps122
  go_wp2
  go_loopw [8] (fun iv wr => ∃ k : Nat, k ≤ r.length ∧ iv = .int .i64 (k : Int) ∧ Hid (∀ i, i < k → okA r i = true) ∧ Hid (Below w.heap.size w wr)) (fun iv _ => r.length - (intOf iv).toNat)
  case atStart => exact ⟨0, by omega, rfl, Lib.hid (fun i hi => absurd hi (by omega)), Lib.hid (Below.refl _ _)⟩
  case round =>
    obtain ⟨k, hk, rfl, hok, hbel⟩ := hrel
    have hsz := hbel.out.size
    by_cases hlt : k < r.length
    · obtain ⟨b, off, rfl, hb, hc⟩ := (H.out.below' hbel.out hB).at_ hlt
      have IP := Lib.hid (hasP1_any B g (r.getD 0 []).length (f k).1 (f k).2 (r.getD k []) wr (by omega) (HROW.out k hlt) ((H.out.2 k hlt).2) ((hbel.out.cell (p := ⟨g, 0, none⟩) hgs).trans HG.out) (H.out.row hbel.out hB hlt))
      have BAD := Lib.hid (fun h => allA_bad (r := r) hlt h)
      have OK := Lib.hid (show okA r k = (decide ((r.getD k []).length = (r.getD 0 []).length) && isPm (r.getD k [])) from rfl)
      have ik : (k : Int) < (r.length : Int) := by omega
      obtain ⟨a1, ha1⟩ : ∃ a, (f k).1 = a := ⟨_, rfl⟩
      obtain ⟨a2, ha2⟩ : ∃ a, (f k).2 = a := ⟨_, rfl⟩
      obtain ⟨t, ht⟩ : ∃ a, (decide ((r.getD k []).length = (r.getD 0 []).length) && isPm (r.getD k [])) = a := ⟨_, rfl⟩
      rw [ha1, ha2, ht] at IP
      rw [ha1, ha2] at hc
      rw [ht] at OK
      obtain ⟨n, hn⟩ : ∃ a, (r.getD k []).length = a := ⟨_, rfl⟩
      rw [hn] at IP hc
      clear ha1 ha2 ht hn
      go_wp2_with fail
      refine IP.out.mono ?_
      rintro e w2 ⟨rfl, hb2⟩
      have B2 := Lib.hid (hbel.out.trans (hb2.mono hsz))
      clear hb2
      cases t with
      | false =>
        have E := Lib.hid (BAD.out OK.out)
        go_wp2
        go_ret
        refine ⟨⟨_, rfl, ?_⟩, B2.out⟩
        rw [E.out]
        exact decide_eq_true (by omega)
      | true =>
        have O := Lib.hid OK.out
        go_wp2
        go_roundw
        case rel => exact ⟨k + 1, by omega, by go_num, Lib.hid (fun i hi => by
          rcases Nat.lt_or_eq_of_le (show i ≤ k by omega) with h | rfl
          · exact hok.out i h
          · exact O.out), B2⟩
        case measure => simp [intOf]; omega
    · have hk' : k = r.length := by omega
      have E := Lib.hid (allA_good (r := r) (fun i hi => hok.out i (by omega)))
      subst hk'
      go_wp2
      go_ret
      exact ⟨⟨_, rfl, by rw [E.out]; rfl⟩, hbel.out⟩

set_option maxRecDepth 100000 in
set_option maxHeartbeats 2000000 in
theorem hasAllP_any (B : Nat) (A : Option Addr) (c : Nat) (f : Nat → Option Addr × Nat) (r : Rws) (w : World) (hB : B ≤ w.heap.size) (hR : r.length ≤ 1048576) (hrow : ∀ i, i < r.length → (r.getD i []).length ≤ 1048576) (hr : RdW w B A f r) :
    Calls Try.prog 97 #[.iface 107 (.agg #[.int .i64 ((r.getD 0 []).length : Int)]), .slice A r.length c] w fun e w' => e = .returned (.bool (allA r)) ∧ Below w.heap.size w w' := by
  have H := Lib.hid hr
  clear hr
  obtain ⟨t, ht⟩ : ∃ t, allA r = t := ⟨_, rfl⟩
  have HC := Lib.hid (fun (W : World) g (hB : B ≤ W.heap.size) hgs hg hr => show Calls Try.prog 113 #[.slice A r.length c, .func (.func 114) #[] #[.pointer (some ⟨g, 0, none⟩)]] W fun e w' => e = .returned (.bool (!t)) ∧ Below W.heap.size W w' by
    have HI := Lib.hid (indexP_any B g A c f r W hB hR hrow hgs hg hr)
    rw [ht] at HI
    clear hg hr
    go_enter Try.func113, Try.ntmps113
    go_wp2_with fail
    go_at_call 122
    refine HI.out.mono ?_
    rintro e w2 ⟨⟨i, rfl, hi⟩, hb2⟩
    have HII := Lib.hid hi
    have HB2 := Lib.hid hb2
    clear hi hb2
    go_wp2
    go_ret
    exact ⟨by rw [← HII.out]; rfl, HB2.out⟩)
  rw [ht]
  clear ht hrow
  obtain ⟨n, hn⟩ : ∃ n, (r.getD 0 []).length = n := ⟨_, rfl⟩
  rw [hn] at HC
  rw [hn]
  clear hn
  go_enter Try.func97, Try.ntmps97
  go_wp2_with fail
  go_at_call 113
  generalize hw1 : World.alloc w _ = w1
  obtain ⟨x0, xs, xb⟩ := box1 hw1
  clear hw1
  refine (HC.out w1 w.heap.size (by omega) (by omega) x0 (H.out.below' xb hB)).mono ?_
  rintro e w2 ⟨rfl, hb2⟩
  have HB2 := Lib.hid (xb.trans (hb2.mono (by omega)))
  clear hb2 xb x0
  go_wp2
  go_ret
  exact ⟨by simp, HB2.out⟩
end Go.Proofs.Ytbbfbccemonihaa
