/- Permutations: IsPermutation and products, of the model and of the program. -/
import Derived.Test.YtbbfbccemonihaaMob
import Derived.Test.YtbbfbccemonihaaMoj
namespace Go.Proofs.Ytbbfbccemonihaa
open Go.RowKit

theorem isPm_bad {l : List Int} (h : prmB l.length l = false) : isPm l = false := by simp [isPm, h]
theorem prmB_all {l : List Int} (h : prmK l.length l l.length = true) : isPm l = inB (l.length : Int) 1 8 := by
  have : prmB l.length l = true := by unfold prmB; rw [h]; simp
  rw [Bool.eq_iff_iff]
  simp only [isPm, this, inB, Bool.and_eq_true, decide_eq_true_eq, and_true]
  omega
theorem inB_hasB (x : Int) (m : Nat) : inB x 0 ((m : Int) - 1) = hasB x m := by
  rw [Bool.eq_iff_iff]
  simp only [inB, hasB, Bool.and_eq_true, decide_eq_true_eq]
  omega

set_option maxRecDepth 100000 in
set_option maxHeartbeats 2000000 in
theorem moPerm_any (B : Nat) (A : Option Addr) (c : Nat) (l : List Int) (w : World) (h8 : l.length ≤ 8) (hcap : l.length ≤ c) (hr : Rd w B 1 A l.length (l.map I)) :
    Calls Try.prog 85 #[.slice A l.length c] w fun e w' => e = .returned (.bool (isPm l)) ∧ w = w' := by
  have H := Lib.hid hr
  clear hr
  go_enter Try.func85, Try.ntmps85
  go_wp2
  go_loopw [7] (fun iv wr => ∃ k : Nat, k ≤ l.length ∧ iv = .int .i64 (k : Int) ∧ Hid (prmK l.length l k = true) ∧ w = wr) (fun i _ => l.length - (intOf i).toNat)
  case atStart => exact ⟨0, by omega, rfl, Lib.hid rfl, rfl⟩
  case round =>
    obtain ⟨k, hk, rfl, hq, rfl⟩ := hrel
    by_cases hlt : k < l.length
    · obtain ⟨lb, lo, rfl, hlb, hlc⟩ := H.out.int hlt
      have hpre := rd_take H.out (show k ≤ l.length by omega)
      have hPH := fun hrW n => l1Has_any B (some ⟨lb, lo, none⟩) c (l.take k) n w (by simp; omega) hrW
      rw [List.length_take, Nat.min_eq_left (show k ≤ l.length by omega), List.map_take] at hPH
      have HPH := Lib.hid (fun n => hPH hpre n)
      have NX := Lib.hid (prmK_succ l.length l k)
      have BD := Lib.hid (fun h => isPm_bad (prmB_bad (m := l.length) hlt h))
      have AT := Lib.hid (show prmAt l.length l k = (hasB l[k] l.length && !hasI (l.take k) l[k]) by unfold prmAt; rw [getD_at hlt])
      obtain ⟨x, hx⟩ : ∃ x, l[k] = x := ⟨_, rfl⟩
      rw [hx] at hlc AT
      have ikc : (k : Int) ≤ (c : Int) := by omega
      have ik : (k : Int) < (l.length : Int) := by omega
      have HI := Lib.hid (inB_hasB x l.length)
      clear hpre hPH hx
      cases h1 : hasB x l.length with
      | false =>
        have E := Lib.hid (BD.out (by rw [AT.out, h1]; rfl))
        rw [h1] at HI
        clear h1
        go_wp2_with (go_at_call 69; refine (l1In_any _ _ _ _).mono ?_; rw [HI.out]; rintro e w' ⟨rfl, rfl⟩)
        go_ret
        exact ⟨ret_bool E.out.symm, rfl⟩
      | true =>
        rw [h1] at HI
        cases h2 : hasI (l.take k) x with
        | true =>
          have E := Lib.hid (BD.out (by rw [AT.out, h1, h2]; rfl))
          have HP := HPH.out x
          rw [h2] at HP
          have HP := Lib.hid HP
          clear h1 h2
          go_wp2_with fail
          go_at_call 69
          refine (l1In_any _ _ _ _).mono ?_
          rw [HI.out]
          rintro e w' ⟨rfl, rfl⟩
          go_wp2_with fail
          go_at_call 110
          refine HP.out.mono ?_
          rintro e w' ⟨rfl, rfl⟩
          go_wp2
          go_ret
          exact ⟨ret_bool E.out.symm, rfl⟩
        | false =>
          have E := Lib.hid (show prmK l.length l (k + 1) = true by rw [NX.out, hq.out, AT.out, h1, h2]; rfl)
          have HP := HPH.out x
          rw [h2] at HP
          have HP := Lib.hid HP
          clear h1 h2
          go_wp2_with fail
          go_at_call 69
          refine (l1In_any _ _ _ _).mono ?_
          rw [HI.out]
          rintro e w' ⟨rfl, rfl⟩
          go_wp2_with fail
          go_at_call 110
          refine HP.out.mono ?_
          rintro e w' ⟨rfl, rfl⟩
          go_wp2
          go_roundw
          case rel => exact ⟨k + 1, by omega, by go_num, E, trivial⟩
          case measure => simp [intOf]; omega
    · have hk' : k = l.length := by omega
      have E := Lib.hid (prmB_all (l := l) (by have h := hq.out; rw [hk'] at h; exact h))
      clear hk'
      go_wp2_with (go_at_call 69; refine (l1In_any _ _ _ _).mono ?_; rintro e w' ⟨rfl, rfl⟩)
      go_ret
      exact ⟨ret_bool E.out.symm, rfl⟩

set_option maxRecDepth 100000 in
set_option maxHeartbeats 1000000 in
theorem specIsPm_any (B : Nat) (A : Option Addr) (c : Nat) (l : List Int) (w : World) (_hB : B ≤ w.heap.size) (hl : l.length ≤ 1048576) (hcap : l.length ≤ c) (hr : Rd w B 1 A l.length (l.map I)) :
    Calls Try.prog 42 #[.slice A l.length c] w fun e w' => e = .returned (.bool (isPm l)) ∧ Below w.heap.size w w' := by
  by_cases h8 : l.length ≤ 8
  · have HM := Lib.hid (moPerm_any B A c l w h8 hcap hr)
    have i8 : (l.length : Int) ≤ 8 := by omega
    clear hr
    go_enter Try.func42, Try.ntmps42
    go_wp2_with fail
    go_at_call 85
    refine HM.out.mono ?_
    rintro e w' ⟨rfl, rfl⟩
    go_wp2
    go_ret
    exact ⟨rfl, Below.refl _ _⟩
  · have i8 : ¬ (l.length : Int) ≤ 8 := by omega
    have E := Lib.hid (show isPm l = false by simp [isPm, h8])
    clear h8
    go_enter Try.func42, Try.ntmps42
    go_wp2
    go_ret
    exact ⟨ret_bool E.out.symm, Below.refl _ _⟩

set_option maxRecDepth 100000 in
set_option maxHeartbeats 1000000 in
theorem implIsPm_any (B : Nat) (A : Option Addr) (c : Nat) (l : List Int) (w : World) (hB : B ≤ w.heap.size) (hl : l.length ≤ 1048576) (_hcap : l.length ≤ c) (hr : Rd w B 1 A l.length (l.map I)) :
    Calls Try.prog 43 #[.slice A l.length c] w fun e w' => e = .returned (.bool (isPm l)) ∧ Below w.heap.size w w' := by
  by_cases h1 : 1 ≤ l.length
  · by_cases h8 : l.length ≤ 8
    · have HO := isOrderOf_any B l.length A c l w (by omega) hl hB hr
      have E := Lib.hid (show isPm l = prmB l.length l by simp [isPm, h1, h8])
      obtain ⟨t, ht⟩ : ∃ t, prmB l.length l = t := ⟨_, rfl⟩
      rw [ht] at HO E
      have HO := Lib.hid HO
      have i1 : (1 : Int) ≤ (l.length : Int) := by omega
      have i8 : (l.length : Int) ≤ 8 := by omega
      clear hr ht
      go_enter Try.func43, Try.ntmps43
      go_wp2_with fail
      go_at_call 86
      refine HO.out.mono ?_
      rintro e w2 ⟨rfl, hb2⟩
      have HB := Lib.hid hb2
      clear hb2
      go_wp2
      go_ret
      exact ⟨ret_bool E.out.symm, HB.out⟩
    · have i1 : (1 : Int) ≤ (l.length : Int) := by omega
      have i8 : ¬ (l.length : Int) ≤ 8 := by omega
      have E := Lib.hid (show isPm l = false by simp [isPm, h8])
      clear h8 h1
      go_enter Try.func43, Try.ntmps43
      go_wp2
      go_ret
      exact ⟨ret_bool E.out.symm, Below.refl _ _⟩
  · have i1 : ¬ (1 : Int) ≤ (l.length : Int) := by omega
    have E := Lib.hid (show isPm l = false by simp [isPm, h1])
    clear h1
    go_enter Try.func43, Try.ntmps43
    go_wp2
    go_ret
    exact ⟨ret_bool E.out.symm, Below.refl _ _⟩
end Go.Proofs.Ytbbfbccemonihaa
