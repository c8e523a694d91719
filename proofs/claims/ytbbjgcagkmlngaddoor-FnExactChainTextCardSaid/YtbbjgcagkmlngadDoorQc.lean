/- Whether a list is a chain, and its steps, by the model. -/
import Derived.Test.YtbbjgcagkmlngadDoorQb
namespace Go.Proofs.YtbbjgcagkmlngadDoor
open Go.RowKit

theorem sumsB_one (l : List Int) : sumsB l 1 = true := rfl
theorem isEmpty_ne {α : Type} {l : List α} (h : l ≠ []) : l.isEmpty = false := by cases l with | nil => exact absurd rfl h | cons => rfl

set_option maxRecDepth 100000 in
set_option maxHeartbeats 2000000 in
theorem chGood_any (B : Nat) (A : Option Addr) (c : Nat) (l : List Int) (w : World) (hl : l.length ≤ 1048576) (hB : B ≤ w.heap.size) (hr : Rd w B 1 A l.length (l.map I)) :
    Calls Tryd.prog 25 #[.slice A l.length c] w fun e w' => e = .returned (.bool (chG l)) ∧ Below w.heap.size w w' := by
  have H := Lib.hid hr
  clear hr
  by_cases h1 : inB (l.length : Nat) 1 41 = true
  case neg =>
    have h1' : inB (l.length : Nat) 1 41 = false := by simpa using h1
    have G := Lib.hid (show chG l = false by unfold chG chB; rw [h1']; rfl)
    clear h1
    go_enter Tryd.func25, Tryd.ntmps25
    go_wp2_with (go_at_call 54; refine (l1In_any _ _ _ _).mono ?_; rintro e w' ⟨rfl, rfl⟩)
    go_ret
    exact ⟨ret_bool G.out.symm, Below.refl _ _⟩
  case pos =>
  have hlen : 1 ≤ l.length ∧ l.length ≤ 41 := by unfold inB at h1; simp only [Bool.and_eq_true, decide_eq_true_eq] at h1; omega
  obtain ⟨b, off, rfl, hbB, hc⟩ := H.out.cells (by omega)
  have hc0 := hc 0 (by omega)
  rw [Nat.add_zero] at hc0
  obtain ⟨x, hx⟩ : ∃ x, l.getD 0 0 = x := ⟨_, rfl⟩
  rw [hx] at hc0
  clear hc
  have ip : (0 : Int) < (l.length : Int) := by omega
  by_cases h2 : x = 1
  case neg =>
    have G := Lib.hid (show chG l = false by unfold chG chB; rw [h1, hx]; simp [h2])
    have h2b : (x != 1) = true := by simpa using h2
    clear hx h2
    go_enter Tryd.func25, Tryd.ntmps25
    go_wp2_with (go_at_call 54; refine (l1In_any _ _ _ _).mono ?_; rintro e w' ⟨rfl, rfl⟩)
    go_ret
    exact ⟨ret_bool G.out.symm, Below.refl _ _⟩
  case pos =>
  subst h2
  cases h3 : risB l 1 1000000 l.length with
  | false =>
    have G := Lib.hid (show chG l = false by unfold chG chB; rw [h1, hx, h3]; rfl)
    have hR := l1Rising_any B (some ⟨b, off, none⟩) c l 1 1000000 w (by omega) H.out
    rw [h3] at hR
    have HR := Lib.hid hR
    clear h3 hR hx
    go_enter Tryd.func25, Tryd.ntmps25
    go_wp2_with (first
      | (go_at_call 54; refine (l1In_any _ _ _ _).mono ?_; rintro e w' ⟨rfl, rfl⟩)
      | (go_at_call 55; refine HR.out.mono ?_; rintro e w' ⟨rfl, rfl⟩))
    go_ret
    exact ⟨ret_bool G.out.symm, Below.refl _ _⟩
  | true =>
    have hB0 : chB l = true := by unfold chB; rw [h1, hx, h3]; rfl
    have G := Lib.hid (show ∀ b, sumsB l l.length = b → chG l = b from fun b hb => by unfold chG; rw [hB0, hb]; rfl)
    have CH := Lib.hid (chn_of hB0)
    have hR := l1Rising_any B (some ⟨b, off, none⟩) c l 1 1000000 w (by omega) H.out
    rw [h3] at hR
    have HR := Lib.hid hR
    clear h3 hR hx hB0
    go_enter Tryd.func25, Tryd.ntmps25
    go_wp2_with (first
      | (go_at_call 54; refine (l1In_any _ _ _ _).mono ?_; rintro e w' ⟨rfl, rfl⟩)
      | (go_at_call 55; refine HR.out.mono ?_; rintro e w' ⟨rfl, rfl⟩))
    go_loopw [3] (fun i wr => ∃ k : Nat, 1 ≤ k ∧ k ≤ l.length ∧ i = .int .i64 k ∧ sumsB l k = true ∧ Below w.heap.size w wr) (fun i _ => l.length - (intOf i).toNat)
    case atStart => exact ⟨1, by omega, by omega, rfl, sumsB_one l, Below.refl _ _⟩
    case round =>
      obtain ⟨k, hk1, hk, rfl, hq, hbel⟩ := hrel
      have Q := Lib.hid hq
      have BEL := Lib.hid hbel
      have hs : w.heap.size ≤ wr.heap.size := hbel.size
      clear hq hbel
      by_cases hlt : k < l.length
      · have ik : (k : Int) < (l.length : Int) := by omega
        have hP := chPairs_any B (some ⟨b, off, none⟩) c k l wr hlen.2 hlt CH.out.rng CH.out.asc (by omega) (H.out.below' BEL.out hB)
        by_cases he : prs l k k = []
        · have S := Lib.hid (sumsB_false l.length hlt (by omega) he)
          rw [he] at hP
          have HP := Lib.hid hP
          clear hP he
          go_wp2_with (go_at_call 56; refine HP.out.mono ?_; rintro e w2 ⟨A', c', rfl, _, hb2⟩)
          go_ret
          exact ⟨ret_bool (G.out _ S.out).symm, BEL.out.trans (hb2.mono hs)⟩
        · have S := Lib.hid (show sumsB l (k + 1) = true by rw [sumsB_succ, Q.out, isEmpty_ne he]; simp)
          have hpos := List.length_pos_iff.2 he
          obtain ⟨P, hP'⟩ : ∃ P, prs l k k = P := ⟨_, rfl⟩
          rw [hP'] at hP hpos
          have HP := Lib.hid hP
          have hz : ¬ ((P.length : Int) = 0) := by omega
          clear hP he hP'
          go_wp2_with (go_at_call 56; refine HP.out.mono ?_; rintro e w2 ⟨A', c', rfl, _, hb2⟩)
          go_roundw
          case rel => exact ⟨k + 1, by omega, by omega, by go_num, S.out, BEL.out.trans (hb2.mono hs)⟩
          case measure => simp [intOf]; omega
      · have e : k = l.length := by omega
        subst e
        go_wp2
        go_ret
        exact ⟨ret_bool (G.out _ Q.out).symm, BEL.out⟩
end Go.Proofs.YtbbjgcagkmlngadDoor
