/- hasAll of the program over integers, for one kind of products. -/
import Derived.Test.YtbbfbccemonihabMod
namespace Go.Proofs.Ytbbfbccemonihab
open Go.RowKit

set_option maxRecDepth 100000 in
set_option maxHeartbeats 1000000 in
theorem hasR1_any (g : Nat) (m : Int) (x : Int) (w : World) (hg : w.cell? ⟨g, 0, none⟩ = some (.iface 117 (.agg #[.int .i64 m]))) :
    Calls Try.prog 161 #[.int .i64 x, .pointer (some ⟨g, 0, none⟩)] w fun e w' => e = .returned (.bool (!inR m x)) ∧ Below w.heap.size w w' := by
  go_enter Try.func161, Try.ntmps161
  go_wp2_with fail
  refine (resHas_any m x _).mono ?_
  rintro e w2 ⟨rfl, hb2⟩
  have HB2 := Lib.hid hb2
  clear hb2
  go_wp2
  go_ret
  exact ⟨rfl, HB2.out⟩

set_option maxRecDepth 100000 in
set_option maxHeartbeats 2000000 in
theorem indexR_any (B g : Nat) (A : Option Addr) (c : Nat) (m : Int) (l : List Int) (w : World) (hl : l.length ≤ 4000000) (hB : B ≤ w.heap.size) (hgs : g < w.heap.size) (hg : w.cell? ⟨g, 0, none⟩ = some (.iface 117 (.agg #[.int .i64 m]))) (hr : Rd w B 1 A l.length (l.map I)) :
    Calls Try.prog 178 #[.slice A l.length c, .func (.func 161) #[] #[.pointer (some ⟨g, 0, none⟩)]] w fun e w' => (∃ i : Int, e = .returned (.int .i64 i) ∧ decide (0 ≤ i) = !l.all (inR m)) ∧ Below w.heap.size w w' := by
  have H := Lib.hid hr
  have HG := Lib.hid hg
  clear hr hg
  go_enter Try.func178, Try.ntmps178
  go_wp2
  go_loopw [8] (fun iv wr => ∃ j : Nat, j ≤ l.length ∧ iv = .int .i64 j ∧ (l.take j).all (inR m) = true ∧ Below w.heap.size w wr) (fun i _ => l.length - (intOf i).toNat)
  case atStart => exact ⟨0, by omega, rfl, rfl, Below.refl _ _⟩
  case round =>
    obtain ⟨j, hj, rfl, hno, hbel⟩ := hrel
    by_cases hlt : j < l.length
    · have iqk : (j : Int) < (l.length : Int) := by omega
      obtain ⟨b, off, rfl, hb, hc⟩ := (H.out.below' hbel hB).int hlt
      have hno2 : (l.take (j + 1)).all (inR m) = inR m l[j] := by rw [List.take_succ_eq_append_getElem hlt, List.all_append, hno]; simp
      have hbad : inR m l[j] = false → l.all (inR m) = false := fun h => by rw [List.all_eq_false]; exact ⟨_, List.getElem_mem hlt, by rw [h]; decide⟩
      obtain ⟨x, hx⟩ : ∃ x, l[j] = x := ⟨_, rfl⟩
      rw [hx] at hc hno2 hbad
      obtain ⟨t, ht⟩ : ∃ t, inR m x = t := ⟨_, rfl⟩
      rw [ht] at hno2 hbad
      have HB := hasR1_any g m x wr ((hbel.cell (p := ⟨g, 0, none⟩) hgs).trans HG.out)
      rw [ht] at HB
      have HB := Lib.hid HB
      have NO2 := Lib.hid hno2
      have BAD := Lib.hid hbad
      have BEL := Lib.hid hbel
      have hsz := hbel.size
      clear hno hno2 hx ht hbad hbel
      go_wp2_with fail
      refine HB.out.mono ?_
      rintro e w5 ⟨rfl, hb5⟩
      have BEL5 := Lib.hid (BEL.out.trans (hb5.mono hsz))
      clear hb5
      cases t with
      | false =>
        go_wp2
        go_ret
        refine ⟨⟨_, rfl, ?_⟩, BEL5.out⟩
        rw [BAD.out (by simp)]
        exact decide_eq_true (by omega)
      | true =>
        go_wp2
        go_roundw
        case rel => exact ⟨j + 1, by omega, by go_num, NO2.out, BEL5.out⟩
        case measure => simp [intOf]; omega
    · have hj' : j = l.length := by omega
      subst hj'
      rw [List.take_length] at hno
      have NO := Lib.hid hno
      clear hno
      go_wp2
      go_ret
      exact ⟨⟨_, rfl, by rw [NO.out]; rfl⟩, hbel⟩

set_option maxRecDepth 100000 in
set_option maxHeartbeats 1000000 in
theorem containsR_any (B g : Nat) (A : Option Addr) (c : Nat) (m : Int) (l : List Int) (w : World) (hl : l.length ≤ 4000000) (hB : B ≤ w.heap.size) (hgs : g < w.heap.size) (hg : w.cell? ⟨g, 0, none⟩ = some (.iface 117 (.agg #[.int .i64 m]))) (hr : Rd w B 1 A l.length (l.map I)) :
    Calls Try.prog 160 #[.slice A l.length c, .func (.func 161) #[] #[.pointer (some ⟨g, 0, none⟩)]] w fun e w' => e = .returned (.bool (!l.all (inR m))) ∧ Below w.heap.size w w' := by
  have HI := Lib.hid (indexR_any B g A c m l w hl hB hgs hg hr)
  clear hr hg
  go_enter Try.func160, Try.ntmps160
  go_wp2_with fail
  go_at_call 178
  refine HI.out.mono ?_
  rintro e w2 ⟨⟨i, rfl, hi⟩, hb2⟩
  have HII := Lib.hid hi
  have HB2 := Lib.hid hb2
  clear hi hb2
  go_wp2
  go_ret
  exact ⟨by rw [← HII.out]; rfl, HB2.out⟩

set_option maxRecDepth 100000 in
set_option maxHeartbeats 1000000 in
/-- hasAll of this kind. -/
theorem hasAllR_any (B : Nat) (A : Option Addr) (c : Nat) (m : Int) (l : List Int) (w : World) (hl : l.length ≤ 4000000) (hB : B ≤ w.heap.size) (hr : Rd w B 1 A l.length (l.map I)) :
    Calls Try.prog 112 #[.iface 117 (.agg #[.int .i64 m]), .slice A l.length c] w fun e w' => e = .returned (.bool (l.all (inR m))) ∧ Below w.heap.size w w' := by
  have H := Lib.hid hr
  clear hr
  obtain ⟨t, ht⟩ : ∃ t, l.all (inR m) = t := ⟨_, rfl⟩
  have HC := Lib.hid (fun W g hB hgs hg hr => containsR_any B g A c m l W hl hB hgs hg hr)
  rw [ht] at HC
  rw [ht]
  clear ht
  go_enter Try.func112, Try.ntmps112
  go_wp2_with fail
  go_at_call 160
  generalize hw1 : World.alloc w _ = w1
  obtain ⟨x0, xs, xb⟩ := box1 hw1
  clear hw1
  refine (HC.out w1 w.heap.size (by omega) (by omega) x0 (H.out.below' xb hB)).mono ?_
  rintro e w2 ⟨rfl, hb2⟩
  have HB2 := Lib.hid (xb.trans (hb2.mono (by omega)))
  clear hb2 xb x0
  go_wp2
  go_ret
  exact ⟨by simp, HB2.out⟩
end Go.Proofs.Ytbbfbccemonihab
