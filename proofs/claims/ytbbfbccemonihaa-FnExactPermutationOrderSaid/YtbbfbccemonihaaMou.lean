/- PermutationOrder, of the model and of the program. -/
import Derived.Test.YtbbfbccemonihaaMot
namespace Go.Proofs.Ytbbfbccemonihaa
open Go.RowKit

def poV (a : List Int) : Int := if isPm a then (ordP a : Int) else 0

set_option maxRecDepth 100000 in
set_option maxHeartbeats 4000000 in
theorem specPO_any (B : Nat) (A0 : Option Addr) (c0 : Nat) (l : List Int) (w : World) (hB : B ≤ w.heap.size) (hl : l.length ≤ 1048576) (hc0 : l.length ≤ c0) (hr : Rd w B 1 A0 l.length (l.map I)) :
    Calls Try.prog 48 #[.slice A0 l.length c0] w fun e w' => e = .returned (.tuple #[.int .i64 (poV l), .bool (isPm l)]) ∧ Below w.heap.size w w' := by
  have H1 := Lib.hid (fun W hB hr => specIsPm_any B A0 c0 l W hB hl hc0 hr)
  have R1 := Lib.hid hr
  clear hr
  cases h1 : isPm l with
  | false =>
    have EV := Lib.hid (show poV l = 0 by unfold poV; rw [h1]; rfl)
    rw [h1] at H1
    clear h1
    go_enter Try.func48, Try.ntmps48
    go_wp2_with fail
    go_at_call 42
    refine (H1.out w hB R1.out).mono ?_
    rintro e w2 ⟨rfl, hb2⟩
    have HB := Lib.hid hb2
    clear hb2
    go_wp2
    go_ret2
    exact ⟨by rw [EV.out]; rfl, HB.out⟩
  | true =>
    rw [h1] at H1
    obtain ⟨k1, k8, hnd, hp1⟩ := isPm_facts h1
    obtain ⟨E, hE⟩ : ∃ E, ordP l = E := ⟨_, rfl⟩
    obtain ⟨e1, e2⟩ := ordP_pos hp1 hnd k8
    have EV := Lib.hid (show poV l = (E : Int) by unfold poV; rw [if_pos h1, hE])
    have IS := Lib.hid (show itr l E = itr l 0 by rw [← hE, itr_zero]; exact ordP_is (by omega))
    have NO := Lib.hid (show ∀ k, 1 ≤ k → k < E → eqI (itr l k) (itr l 0) = false from fun k a b => by
      unfold eqI
      rw [itr_zero]
      exact decide_eq_false (ordP_before (by omega) a))
    rw [hE] at e1 e2
    have EL := Lib.hid (fun k => itr_len l k)
    obtain ⟨n, hn⟩ : ∃ n, l.length = n := ⟨_, rfl⟩
    rw [hn] at hp1 H1 R1 EL k8 k1
    rw [hn]
    have MT := Lib.hid (fun k W hB (hk : k ≤ 1000000) hr => moRaise_any B n k A0 c0 l W k8 hB hp1 hk hr)
    have SM := Lib.hid (fun (k j : Nat) (A A' : Option Addr) (c c' : Nat) (W : World) (ha : Rd W W.heap.size 1 A n ((itr l k).map I)) (hb : Rd W W.heap.size 1 A' n ((itr l j).map I)) => by
      have h := l1Same_any W.heap.size A A' c c' (itr l k) (itr l j) W (by rw [EL.out]; omega) (by rw [EL.out]; omega) (by rw [EL.out]; exact ha) (by rw [EL.out]; exact hb)
      rw [EL.out, EL.out] at h
      exact h)
    clear h1 hn hp1 hE hnd
    go_enter Try.func48, Try.ntmps48
    go_wp2_with fail
    go_at_call 42
    refine (H1.out w hB R1.out).mono ?_
    rintro e w2 ⟨rfl, hb2⟩
    have HB := Lib.hid hb2
    clear hb2
    go_wp2
    go_loopw [4] (fun ev wr => ∃ e : Nat, 1 ≤ e ∧ e ≤ E ∧ ev = .int .i64 (e : Int) ∧ Below w.heap.size w wr) (fun ev _ => E - (intOf ev).toNat)
    case atStart => exact ⟨1, by omega, by omega, rfl, HB.out⟩
    case round =>
      obtain ⟨e, he1, he2, rfl, hbel⟩ := hrel
      have BEL := Lib.hid hbel
      have hsz := hbel.size
      clear hbel
      have C1 := Lib.hid (MT.out e wr (by omega) (by omega) (R1.out.below' BEL.out hB))
      go_wp2_with fail
      go_at_call 90
      refine C1.out.mono ?_
      rintro r w3 ⟨A3, c3, rfl, ho3, hb3⟩
      have BEL3 := Lib.hid (BEL.out.trans (hb3.mono hsz))
      have O3 := Lib.hid ho3
      have hs3 := hb3.size
      clear hb3 ho3
      have C2 := Lib.hid (MT.out 0 w3 (by omega) (by omega) (R1.out.below' BEL3.out hB))
      go_wp2_with fail
      go_at_call 90
      refine C2.out.mono ?_
      rintro r w4 ⟨A4, c4, rfl, ho4, hb4⟩
      have BEL4 := Lib.hid (BEL3.out.trans (hb4.mono (by omega)))
      have RO3 := Lib.hid (show Rd w4 w4.heap.size 1 A3 n ((itr l e).map I) by
        have h := OwI.rd (l := itr l e) (c := c3) (A := A3) (w := w4) (B := wr.heap.size) (by rw [EL.out]; exact O3.out.below hb4)
        rw [EL.out] at h
        exact h)
      have RO4 := Lib.hid (show Rd w4 w4.heap.size 1 A4 n ((itr l 0).map I) by
        have h := OwI.rd (l := itr l 0) (c := c4) (A := A4) (w := w4) (B := w3.heap.size) (by rw [EL.out]; exact ho4)
        rw [EL.out] at h
        exact h)
      clear hb4 ho4
      by_cases hlt : e < E
      · have S := SM.out e 0 A3 A4 c3 c4 w4 RO3.out RO4.out
        rw [NO.out e he1 hlt] at S
        have S := Lib.hid S
        go_wp2_with fail
        go_at_call 93
        refine S.out.mono ?_
        rintro r w5 ⟨rfl, hd⟩
        have BEL5 := Lib.hid (BEL4.out.trans ((hd.below w4.heap.size).mono (by have := BEL4.out.size; omega)))
        clear hd
        go_wp2
        go_roundw
        case rel => exact ⟨e + 1, by omega, by omega, by go_num, BEL5.out⟩
        case measure => simp [intOf]; omega
      · have he : e = E := by omega
        subst he
        have S := SM.out e 0 A3 A4 c3 c4 w4 RO3.out RO4.out
        rw [IS.out, show eqI (itr l 0) (itr l 0) = true by simp [eqI]] at S
        have S := Lib.hid S
        go_wp2_with fail
        go_at_call 93
        refine S.out.mono ?_
        rintro r w5 ⟨rfl, hd⟩
        have BEL5 := Lib.hid (BEL4.out.trans ((hd.below w4.heap.size).mono (by have := BEL4.out.size; omega)))
        clear hd
        go_wp2
        go_ret2
        exact ⟨by rw [EV.out]; rfl, BEL5.out⟩

set_option maxRecDepth 100000 in
set_option maxHeartbeats 4000000 in
theorem implPO_any (B : Nat) (A0 : Option Addr) (c0 : Nat) (l : List Int) (w : World) (hB : B ≤ w.heap.size) (hl : l.length ≤ 1048576) (hc0 : l.length ≤ c0) (hr : Rd w B 1 A0 l.length (l.map I)) :
    Calls Try.prog 49 #[.slice A0 l.length c0] w fun e w' => e = .returned (.tuple #[.int .i64 (poV l), .bool (isPm l)]) ∧ Below w.heap.size w w' := by
  have H1 := Lib.hid (fun W hB hr => implIsPm_any B A0 c0 l W hB hl hc0 hr)
  have R1 := Lib.hid hr
  clear hr
  cases h1 : isPm l with
  | false =>
    have EV := Lib.hid (show poV l = 0 by unfold poV; rw [h1]; rfl)
    rw [h1] at H1
    clear h1
    go_enter Try.func49, Try.ntmps49
    go_wp2_with fail
    go_at_call 43
    refine (H1.out w hB R1.out).mono ?_
    rintro e w2 ⟨rfl, hb2⟩
    have HB := Lib.hid hb2
    clear hb2
    go_wp2
    go_ret2
    exact ⟨by rw [EV.out]; rfl, HB.out⟩
  | true =>
    rw [h1] at H1
    obtain ⟨k1, k8, hnd, hp1⟩ := isPm_facts h1
    obtain ⟨E, hE⟩ : ∃ E, ordP l = E := ⟨_, rfl⟩
    obtain ⟨e1, e2⟩ := ordP_pos hp1 hnd k8
    have EV := Lib.hid (show poV l = (E : Int) by unfold poV; rw [if_pos h1, hE])
    have SR := fun k => srt_ups (itr_pt hp1 k) (itr_nodup hp1 hnd k)
    have YES := Lib.hid (show srtB (itr l E) = true by rw [SR, itr_len, ← hE]; exact ordP_is (by omega))
    have NO := Lib.hid (show ∀ k, 1 ≤ k → k < E → srtB (itr l k) = false from fun k a b => by
      cases hh : srtB (itr l k) with
      | false => rfl
      | true =>
        exfalso
        rw [SR, itr_len] at hh
        exact ordP_before (by omega) a hh)
    rw [hE] at e1 e2
    have EL := Lib.hid (fun k => itr_len l k)
    have I1 := Lib.hid (itr_one l)
    have PT := Lib.hid (fun k => itr_pt hp1 k)
    have NX := Lib.hid (itr_succ l)
    obtain ⟨n, hn⟩ : ∃ n, l.length = n := ⟨_, rfl⟩
    rw [hn] at hp1 H1 R1 EL k8 k1 PT
    rw [hn]
    have MT := Lib.hid (fun k A c W hr hr' => pmMul_any W.heap.size n (n : Int) A A0 c c0 (itr l k) l W k8 (Nat.le_refl _) (PT.out k) hp1 hr hr')
    have ST := Lib.hid (fun (k : Nat) (A : Option Addr) (c : Nat) (W : World) (ha : Rd W W.heap.size 1 A n ((itr l k).map I)) => by
      have h := isSorted_any W.heap.size A c (itr l k) W (by rw [EL.out]; omega) (by rw [EL.out]; omega) (by rw [EL.out]; exact ha)
      rw [EL.out] at h
      exact h)
    clear h1 hn hp1 hE hnd SR
    go_enter Try.func49, Try.ntmps49
    go_wp2_with fail
    go_at_call 43
    refine (H1.out w hB R1.out).mono ?_
    rintro e w2 ⟨rfl, hb2⟩
    have HB := Lib.hid hb2
    have RS := Lib.hid (show Rd w2 w2.heap.size 1 A0 n ((itr l 1).map I) by rw [I1.out]; exact (R1.out.below' hb2 hB).more (by have := hb2.size; omega))
    clear hb2
    go_wp2
    go_loopw [4, 5] (fun ev vv wr => ∃ (e : Nat) (A : Option Addr) (c : Nat), 1 ≤ e ∧ e ≤ E ∧ ev = .int .i64 (e : Int) ∧ vv = .slice A n c ∧ Hid (Rd wr wr.heap.size 1 A n ((itr l e).map I)) ∧ Hid (Below w.heap.size w wr)) (fun ev _ _ => E - (intOf ev).toNat)
    case atStart => exact ⟨1, A0, c0, by omega, by omega, rfl, rfl, RS, HB⟩
    case round =>
      obtain ⟨e, A, c, he1, he2, rfl, rfl, hrd, hbel⟩ := hrel
      have hsz := hbel.out.size
      clear RS HB
      by_cases hlt : e < E
      · have S := ST.out e A c wr hrd.out
        rw [NO.out e he1 hlt] at S
        have S := Lib.hid S
        go_wp2_with fail
        go_at_call 94
        refine S.out.mono ?_
        rintro r w5 ⟨rfl, hd⟩
        have hb5 := hd.below wr.heap.size
        have BEL5 := Lib.hid (hbel.out.trans (hb5.mono hsz))
        have RD5 := Lib.hid ((hrd.out.below hb5).more hb5.size)
        have hs5 := hb5.size
        clear hd hb5
        have M := Lib.hid (MT.out e A c w5 RD5.out ((R1.out.below' BEL5.out hB).more (by omega)))
        go_wp2_with fail
        go_at_call 89
        refine M.out.mono ?_
        rintro r w6 ⟨A6, c6, rfl, ho6, hb6⟩
        have BEL6 := Lib.hid (BEL5.out.trans (hb6.mono (by omega)))
        have O6 := Lib.hid ho6
        clear hb6 ho6
        go_wp2
        go_roundw
        case rel =>
          refine ⟨e + 1, A6, c6, by omega, by omega, by go_num, rfl, Lib.hid ?_, BEL6⟩
          have h := OwI.rd (l := itr l (e + 1)) (c := c6) (A := A6) (w := w6) (B := w5.heap.size) (by rw [EL.out, ← NX.out]; exact O6.out)
          rw [EL.out] at h
          exact h
        case measure => simp [intOf]; omega
      · have he : e = E := by omega
        subst he
        have S := ST.out e A c wr hrd.out
        rw [YES.out] at S
        have S := Lib.hid S
        go_wp2_with fail
        go_at_call 94
        refine S.out.mono ?_
        rintro r w5 ⟨rfl, hd⟩
        have BEL5 := Lib.hid (hbel.out.trans ((hd.below wr.heap.size).mono hsz))
        clear hd
        go_wp2
        go_ret2
        exact ⟨by rw [EV.out]; rfl, BEL5.out⟩
end Go.Proofs.Ytbbfbccemonihaa
