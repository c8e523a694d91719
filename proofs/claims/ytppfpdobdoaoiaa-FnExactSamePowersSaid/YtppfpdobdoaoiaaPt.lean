/- Lists of lists compared, of the library. -/
import Derived.Test.YtppfpdobdoaoiaaPs
namespace Go.Proofs.Ytppfpdobdoaoiaa
open Go.RowKit

set_option maxRecDepth 100000 in
set_option maxHeartbeats 2000000 in
theorem equalFunc_any (B B' : Nat) (A A' : Option Addr) (c c' N R R' : Nat) (f f' : Nat → Option Addr × Nat) (r r' : Nat → List Int) (w : World) (hN : N ≤ 1000) (hR : R ≤ 1000) (h : OwL w B A c f N R r) (h' : OwL w B' A' c' f' N R' r') :
    Calls Try.prog 78 #[.slice A R c, .slice A' R' c', .func (.func 79) #[] #[]] w fun e w' => e = .returned (.bool (sameB R R' r r')) ∧ Dr w w' := by
  have H := Lib.hid h
  have H' := Lib.hid h'
  clear h h'
  by_cases hl : R = R'
  case neg =>
    have hlb : ((R : Int) != (R' : Int)) = true := by rw [bne_iff_ne]; omega
    have L := Lib.hid (sameB_len (r := r) (r' := r') hl)
    clear hl
    go_enter Try.func78, Try.ntmps78
    go_wp2
    go_ret
    exact ⟨ret_bool L.out.symm, Dr.refl _⟩
  case pos =>
  have hlb : ((R : Int) != (R' : Int)) = false := by simp [hl]
  have L := Lib.hid hl
  clear hl
  go_enter Try.func78, Try.ntmps78
  go_wp2
  go_loopw [17] (fun i wr => ∃ k n : Nat, k ≤ R ∧ i = .int .i64 k ∧ wr = w.drewN n ∧ ∀ j, j < k → eqI (r j) (r' j) = true) (fun i _ => R - (intOf i).toNat)
  case atStart => exact ⟨0, 0, by omega, rfl, rfl, fun j hj => absurd hj (by omega)⟩
  case round =>
    obtain ⟨k, n, hk, rfl, rfl, hall⟩ := hrel
    have ALL := Lib.hid hall
    clear hall
    by_cases hlt : k < R
    · have hlt' : k < R' := by have := L.out; omega
      obtain ⟨g, rfl, _, _, hc, hrd, hrl⟩ := H.out.at_ hlt
      obtain ⟨g', rfl, _, _, hc', hrd', hrl'⟩ := H'.out.at_ hlt'
      have hE := fun W hr1 hr2 => sliceEqual_any w.heap.size (f k).1 (f' k).1 (f k).2 (f' k).2 (r k) (r' k) W (by omega) (by omega) hr1 hr2
      rw [hrl, hrl'] at hE
      have ikR : (k : Int) < (R : Int) := by omega
      have ikR' : (k : Int) < (R' : Int) := by omega
      obtain ⟨q, hq⟩ : ∃ q, eqI (r k) (r' k) = q := ⟨_, rfl⟩
      rw [hq] at hE
      obtain ⟨a1, ha1⟩ : ∃ a, (f k).1 = a := ⟨_, rfl⟩
      obtain ⟨a2, ha2⟩ : ∃ a, (f k).2 = a := ⟨_, rfl⟩
      obtain ⟨b1, hb1⟩ : ∃ a, (f' k).1 = a := ⟨_, rfl⟩
      obtain ⟨b2, hb2⟩ : ∃ a, (f' k).2 = a := ⟨_, rfl⟩
      rw [ha1, ha2, hb1, hb2] at hE
      rw [ha1] at hrd
      rw [hb1] at hrd'
      rw [ha1, ha2] at hc
      rw [hb1, hb2] at hc'
      have HE2 := Lib.hid hE
      have HR1 := Lib.hid hrd
      have HR2 := Lib.hid hrd'
      have QQ := Lib.hid hq
      clear hE hrd hrd' hrl hrl' ha1 ha2 hb1 hb2 hq
      cases q with
      | true =>
        go_wp2_with fail
        go_at_call 79
        refine (HE2.out (w.drewN n) (HR1.out.drewN _) (HR2.out.drewN _)).mono ?_
        rintro e w5 ⟨rfl, ⟨nd, rfl⟩⟩
        go_wp2
        go_roundw
        case rel => exact ⟨k + 1, _, by omega, by go_num, rfl, fun j hj => (by
          by_cases hjk : j = k
          · subst hjk; exact QQ.out
          · exact ALL.out j (by omega))⟩
        case measure => simp [intOf]; omega
      | false =>
        have MS := Lib.hid (sameB_miss (R' := R') hlt QQ.out)
        go_wp2_with fail
        go_at_call 79
        refine (HE2.out (w.drewN n) (HR1.out.drewN _) (HR2.out.drewN _)).mono ?_
        rintro e w5 ⟨rfl, ⟨nd, rfl⟩⟩
        go_wp2
        go_ret
        exact ⟨ret_bool MS.out.symm, Dr.mk _ _⟩
    · have hk' : k = R := by omega
      have SA := Lib.hid (sameB_all (r := r) (r' := r') L.out (fun i hi => ALL.out i (by omega)))
      clear hk'
      go_wp2
      go_ret
      exact ⟨ret_bool SA.out.symm, Dr.mk _ _⟩
end Go.Proofs.Ytppfpdobdoaoiaa
