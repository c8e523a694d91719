/- Numbers read from digits, by the model. -/
import Derived.Test.YtodjnafalbbmjabFe
namespace Go.Proofs.Ytodjnafalbbmjab
open Go.RowKit

theorem fd_out {l : List Int} {b : Int} (h : fdQ l b = none) : fdV l b = 0 ∧ fdB l b = false := fdV_none h
theorem fd_len {l : List Int} {b : Int} (hb : 2 ≤ b) (h : inB l.length 1 20 = false) : fdV l b = 0 ∧ fdB l b = false := by
  by_cases h0 : l.length = 0
  · have hv : fdV l b = 0 := by
      unfold fdV fdQ
      split
      · have e : bwZ l l.length = [] := by unfold bwZ bwd; rw [h0]; rfl
        rw [e]
        rfl
      · rfl
    exact ⟨hv, by unfold fdB; rw [hv]; rfl⟩
  · have hl : 20 < l.length := by
      unfold inB at h
      simp only [Bool.and_eq_false_iff, decide_eq_false_iff_not] at h
      omega
    apply fdV_none
    unfold fdQ
    split
    · cases hq : fdF b (bwZ l l.length) with
      | none => rfl
      | some n =>
        obtain ⟨_, _, h3⟩ := fd_facts hb _ _ hq
        obtain ⟨_, h4, h5⟩ := h3 (by omega)
        have h6 : (2 : Int) ^ 20 ≤ 2 ^ (l.length - 1) := by
          have := Nat.pow_le_pow_right (n := 2) (by omega) (show 20 ≤ l.length - 1 by omega)
          exact_mod_cast this
        have : (2 : Int) ^ 20 = 1048576 := by decide
        omega
    · rfl
theorem fd_all {l : List Int} {b : Int} (hb : 2 ≤ b) (h : allB l 0 (b - 1) = false) : fdQ l b = none := by
  unfold fdQ
  split
  · cases hq : fdF b (bwZ l l.length) with
    | none => rfl
    | some n =>
      obtain ⟨h1, _, _⟩ := fd_facts hb _ _ hq
      exfalso
      have : allB l 0 (b - 1) = true := by
        unfold allB inB
        simp only [List.all_eq_true, Bool.and_eq_true, decide_eq_true_eq]
        intro x hx
        obtain ⟨i, hi, rfl⟩ := List.getElem_of_mem hx
        have := h1 (l.length - 1 - i) (by omega)
        unfold dgt at this
        rw [show l.length - 1 - (l.length - 1 - i) = i by omega] at this
        simp [hi] at this
        omega
      rw [this] at h
      cases h
  · rfl
theorem fd_last {l : List Int} {b : Int} (hb : 2 ≤ b) (h1 : 1 ≤ l.length) (h : dgt l 0 = 0) : fdQ l b = none := by
  unfold fdQ
  split
  · cases hq : fdF b (bwZ l l.length) with
    | none => rfl
    | some n =>
      obtain ⟨_, _, h3⟩ := fd_facts hb _ _ hq
      have := (h3 h1).1
      omega
  · rfl
theorem dgt_at {l : List Int} {j p : Nat} (hp : l.length - 1 - j = p) (h : p < l.length) : dgt l j = l[p] := by
  unfold dgt
  rw [hp]
  simp [h]

set_option maxRecDepth 100000 in
set_option maxHeartbeats 2000000 in
theorem specFrom_any (B : Nat) (A : Option Addr) (c : Nat) (l : List Int) (b : Int) (w : World) (hB : B ≤ w.heap.size) (hl : l.length ≤ 1048576) (_hcap : l.length ≤ c) (hr : Rd w B 1 A l.length (l.map I)) :
    Calls Try.prog 8 #[.slice A l.length c, .int .i64 b] w fun e w' => e = .returned (.tuple #[.int .i64 (fdV l b), .bool (fdB l b)]) ∧ Below w.heap.size w w' := by
  have H := Lib.hid hr
  clear hr
  obtain ⟨g1, h1⟩ : ∃ g, inB b 2 64 = g := ⟨_, rfl⟩
  obtain ⟨g2, h2⟩ : ∃ g, inB l.length 1 20 = g := ⟨_, rfl⟩
  have H1 := Lib.hid h1
  have H2 := Lib.hid h2
  cases g1 with
  | false =>
    obtain ⟨E1, E2⟩ := fdV_none (l := l) (b := b) (by unfold fdQ; rw [h1]; rfl)
    have e1 := Lib.hid E1
    have e2 := Lib.hid E2
    clear E1 E2 h1 h2
    go_enter Try.func8, Try.ntmps8
    go_wp2_with (go_at_call 29; refine (l1In_any _ _ _ _).mono ?_; rw [H1.out]; rintro e w' ⟨rfl, rfl⟩)
    go_ret2
    exact ⟨by rw [e1.out, e2.out]; rfl, Below.refl _ _⟩
  | true =>
  have hb2 : 2 ≤ b ∧ b ≤ 64 := by simpa [inB] using h1
  obtain ⟨hb2, hb64⟩ := hb2
  have EQ := Lib.hid (fdQ_of (l := l) h1)
  cases g2 with
  | false =>
    obtain ⟨E1, E2⟩ := fd_len hb2 h2
    have e1 := Lib.hid E1
    have e2 := Lib.hid E2
    clear E1 E2 h1 h2
    go_enter Try.func8, Try.ntmps8
    go_wp2_with (first
      | (go_at_call 29; refine (l1In_any _ _ _ _).mono ?_; rw [H1.out]; rintro e w' ⟨rfl, rfl⟩)
      | (go_at_call 29; refine (l1In_any _ _ _ _).mono ?_; rw [H2.out]; rintro e w' ⟨rfl, rfl⟩))
    go_ret2
    exact ⟨by rw [e1.out, e2.out]; rfl, Below.refl _ _⟩
  | true =>
  have hlen : 1 ≤ l.length ∧ l.length ≤ 20 := by
    have h := h2
    unfold inB at h
    simp only [Bool.and_eq_true, decide_eq_true_eq] at h
    omega
  obtain ⟨hl1, hl20⟩ := hlen
  obtain ⟨g3, h3⟩ : ∃ g, allB l 0 (b - 1) = g := ⟨_, rfl⟩
  have ALL := l1All_any w.heap.size A c l 0 (b - 1) w (by omega) (H.out.more hB)
  rw [h3] at ALL
  have HALL := Lib.hid ALL
  clear ALL
  cases g3 with
  | false =>
    obtain ⟨E1, E2⟩ := fdV_none (fd_all hb2 h3)
    have e1 := Lib.hid E1
    have e2 := Lib.hid E2
    clear E1 E2 h1 h2 h3
    go_enter Try.func8, Try.ntmps8
    go_wp2_with (first
      | (go_at_call 29; refine (l1In_any _ _ _ _).mono ?_; rw [H1.out]; rintro e w' ⟨rfl, rfl⟩)
      | (go_at_call 29; refine (l1In_any _ _ _ _).mono ?_; rw [H2.out]; rintro e w' ⟨rfl, rfl⟩)
      | (go_at_call 30; refine HALL.out.mono ?_; rintro e w' ⟨rfl, rfl⟩))
    go_ret2
    exact ⟨by rw [e1.out, e2.out]; rfl, Below.refl _ _⟩
  | true =>
  obtain ⟨q, hq⟩ : ∃ q : Nat, l.length - 1 = q := ⟨_, rfl⟩
  have eq : (l.length : Int) - 1 = (q : Int) := by omega
  have hql : q < l.length := by omega
  have iql : (q : Int) < (l.length : Int) := by omega
  have hlast := H.out.int hql
  obtain ⟨d0, hd0⟩ : ∃ d, l[q] = d := ⟨_, rfl⟩
  have hdg : dgt l 0 = d0 := by rw [← hd0]; exact dgt_at (by omega) hql
  rw [hd0] at hlast
  have HDIG := Lib.hid (show ∀ j, j < l.length → 0 ≤ dgt l j ∧ dgt l j < b from fun j hj => by
    have h := h3
    unfold allB inB at h
    simp only [List.all_eq_true, Bool.and_eq_true, decide_eq_true_eq] at h
    have hp : l.length - 1 - j < l.length := by omega
    rw [dgt_at rfl hp]
    have := h _ (List.getElem_mem hp)
    omega)
  by_cases hz : d0 = 0
  · obtain ⟨E1, E2⟩ := fdV_none (fd_last hb2 hl1 (hdg.trans hz))
    have e1 := Lib.hid E1
    have e2 := Lib.hid E2
    have hz' : (d0 == 0) = true := by simpa using hz
    clear E1 E2 h1 h2 h3 hz hd0 hdg hq
    obtain ⟨bb, off, rfl, hbb, hcell⟩ := hlast
    go_enter Try.func8, Try.ntmps8
    go_wp2_with (first
      | (go_at_call 29; refine (l1In_any _ _ _ _).mono ?_; rw [H1.out]; rintro e w' ⟨rfl, rfl⟩)
      | (go_at_call 29; refine (l1In_any _ _ _ _).mono ?_; rw [H2.out]; rintro e w' ⟨rfl, rfl⟩)
      | (go_at_call 30; refine HALL.out.mono ?_; rintro e w' ⟨rfl, rfl⟩))
    go_ret2
    exact ⟨by rw [e1.out, e2.out]; rfl, Below.refl _ _⟩
  · have hz' : (d0 == 0) = false := by simpa using hz
    have HD0 := Lib.hid (show 1 ≤ dgt l 0 by have := (HDIG.out 0 (by omega)).1; rw [hdg] at this ⊢; omega)
    have HQ := Lib.hid hq
    clear h1 h2 h3 hz hd0 hdg hq
    obtain ⟨bb, off, rfl, hbb, hcell⟩ := hlast
    go_enter Try.func8, Try.ntmps8
    go_wp2_with (first
      | (go_at_call 29; refine (l1In_any _ _ _ _).mono ?_; rw [H1.out]; rintro e w' ⟨rfl, rfl⟩)
      | (go_at_call 29; refine (l1In_any _ _ _ _).mono ?_; rw [H2.out]; rintro e w' ⟨rfl, rfl⟩)
      | (go_at_call 30; refine HALL.out.mono ?_; rintro e w' ⟨rfl, rfl⟩))
    clear hcell hz'
    go_loopw [6, 7] (fun nv kv wr => ∃ (j : Nat) (n : Int), j ≤ l.length ∧ kv = .int .i64 ((l.length : Int) - 1 - j) ∧ nv = .int .i64 n ∧ fdF b (bwZ l j) = some n ∧ 0 ≤ n ∧ n ≤ 1000000 ∧ (1 ≤ j → 1 ≤ n) ∧ wr = w) (fun _ kv _ => (intOf kv + 1).toNat)
    case atStart => exact ⟨0, 0, by omega, by rw [← eq]; go_num, rfl, rfl, by omega, by omega, fun h => by omega, rfl⟩
    case round =>
      obtain ⟨j, n, hj, rfl, rfl, hn, n0, n1, hjn, rfl⟩ := hrel
      have HN := Lib.hid hn
      have HJ := Lib.hid hjn
      clear hn hjn eq
      by_cases hlt : j < l.length
      · obtain ⟨p, hp⟩ : ∃ p : Nat, l.length - 1 - j = p := ⟨_, rfl⟩
        have ep : (l.length : Int) - 1 - (j : Int) = (p : Int) := by omega
        have ip : (0 : Int) ≤ (p : Int) := by omega
        have ipl : (p : Int) < (l.length : Int) := by omega
        have hpl : p < l.length := by omega
        obtain ⟨b2, off2, hA2, hb2', hcell⟩ := H.out.int hpl
        cases hA2
        have hdg := dgt_at hp hpl
        obtain ⟨d, hd⟩ : ∃ d, l[p] = d := ⟨_, rfl⟩
        rw [hd] at hcell hdg
        have hdr := HDIG.out j hlt
        rw [hdg] at hdr
        obtain ⟨hd0, hd1⟩ := hdr
        have hm0 : 0 ≤ n * b := Int.mul_nonneg n0 (by omega)
        have hm1 : n * b ≤ 1000000 * 64 := Int.mul_le_mul n1 hb64 (by omega) (by omega)
        have hmn : 1 ≤ n → 1 ≤ n * b := fun h => by
          have : 1 * 1 ≤ n * b := Int.mul_le_mul h (by omega) (by omega) (by omega)
          omega
        obtain ⟨m, hm⟩ : ∃ m, n * b = m := ⟨_, rfl⟩
        rw [hm] at hm0 hm1 hmn
        obtain ⟨r, hr⟩ : ∃ r, m + d = r := ⟨_, rfl⟩
        have hr1 : 1 ≤ r := by
          by_cases h : j = 0
          · subst h
            have := HD0.out
            rw [hdg] at this
            omega
          · have := hmn (HJ.out (by omega))
            omega
        have EF2 := Lib.hid (show fdF b (bwZ l (j + 1)) = if isNum r then some r else none by
          rw [bwZ_succ, fdF_snoc, HN.out, hdg]
          unfold fdS
          simp only [Option.bind_some]
          rw [if_neg (by omega), hm, hr])
        have ewm : IntKind.i64.wrap m = m := IntWalk.i64_in _ (by omega)
        have ewr : IntKind.i64.wrap r = r := IntWalk.i64_in _ (by omega)
        rw [ep]
        clear hd hdg hmn hp
        by_cases hbig : 1000000 < r
        · have EN : fdF b (bwZ l (j + 1)) = none := by
            rw [EF2.out, if_neg]
            intro h
            have := (isNum_rng h).2
            omega
          obtain ⟨E1, E2⟩ := fdV_none (l := l) (b := b) (by rw [EQ.out]; exact fdF_none (by omega) EN)
          have e1 := Lib.hid E1
          have e2 := Lib.hid E2
          clear E1 E2 EN
          go_wp2
          go_ret2
          exact ⟨by rw [e1.out, e2.out]; rfl, Below.refl _ _⟩
        · have EN := Lib.hid (show fdF b (bwZ l (j + 1)) = some r by
            rw [EF2.out, if_pos]
            unfold isNum inB
            rw [decide_eq_true hr1, decide_eq_true (show r ≤ 1000000 by omega)]
            rfl)
          go_wp2
          go_roundw
          case rel => exact ⟨j + 1, r, by omega, by rw [← ep]; go_num, rfl, EN.out, by omega, by omega, fun _ => hr1, by first | trivial | rfl⟩
          case measure => simp [intOf]
      · have e : j = l.length := by omega
        subst e
        have ip : ¬ (0 : Int) ≤ (l.length : Int) - 1 - (l.length : Int) := by omega
        have EV := Lib.hid (show fdV l b = n by unfold fdV; rw [EQ.out, HN.out]; rfl)
        have EB := Lib.hid (show fdB l b = true by unfold fdB; rw [EV.out]; have := HJ.out hl1; exact decide_eq_true (by omega))
        go_wp2
        go_ret2
        exact ⟨by rw [EV.out, EB.out]; rfl, Below.refl _ _⟩
end Go.Proofs.Ytodjnafalbbmjab
