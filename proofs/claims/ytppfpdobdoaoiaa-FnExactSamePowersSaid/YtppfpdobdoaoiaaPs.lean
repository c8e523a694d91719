/- Lists of lists compared, of the model and of the program. -/
import Derived.Test.YtppfpdobdoaoiaaOc
namespace Go.Proofs.Ytppfpdobdoaoiaa
open Go.RowKit

set_option maxHeartbeats 400000 in
theorem sliceEqual_any (B : Nat) (A A' : Option Addr) (c c' : Nat) (a b : List Int) (w : World) (hm : a.length ≤ 4000000) (_hm' : b.length ≤ 4000000) (hr : Rd w B 1 A a.length (a.map I)) (hr' : Rd w B 1 A' b.length (b.map I)) :
    Calls Try.prog 79 #[.slice A a.length c, .slice A' b.length c'] w fun e w' => e = .returned (.bool (eqI a b)) ∧ Dr w w' := by
  have H := Lib.hid hr
  have H' := Lib.hid hr'
  clear hr hr'
  by_cases hl : a.length = b.length
  · have hlb : ((a.length : Int) == (b.length : Int)) = true := by simp [hl]
    have L := Lib.hid hl
    clear hl
    go_enter Try.func79, Try.ntmps79
    go_wp2
    go_loopw [13] (fun i wr => ∃ k n : Nat, k ≤ a.length ∧ i = .int .i64 k ∧ a.take k = b.take k ∧ wr = w.drewN n) (fun i _ => a.length - (intOf i).toNat)
    case atStart => exact ⟨0, 0, by omega, rfl, rfl, rfl⟩
    case round =>
      obtain ⟨k, n, hk, rfl, hq, rfl⟩ := hrel
      have Q := Lib.hid hq
      clear hq
      by_cases hlt : k < a.length
      · have hlt' : k < b.length := by have := L.out; omega
        obtain ⟨b1, off, rfl, hb, hcell⟩ := H.out.int hlt
        obtain ⟨b2, off2, rfl, hb2, hcell2⟩ := H'.out.int hlt'
        have i1 : (k : Int) < (a.length : Int) := by omega
        have i2 : (k : Int) < (b.length : Int) := by omega
        have i0 : (0 : Int) ≤ (k : Int) := by omega
        go_wp2
        go_quiet (fail)
        go_wp2
        · go_ret
          exact ⟨ret_bool (eqI_miss hlt hlt' (by assumption)).symm, Dr.mk2 _ _ _⟩
        · have he : (a[k] != b[k]) = false := by assumption
          go_roundw
          case rel => exact ⟨k + 1, _, by omega, by go_num, same_take hlt hlt' Q.out (by simpa using he), rfl⟩
          case measure => simp [intOf]; omega
      · go_wp2
        go_ret
        exact ⟨ret_bool (eqI_end L.out hlt Q.out).symm, Dr.mk _ _⟩
  · have hlb : ((a.length : Int) != (b.length : Int)) = true := by rw [bne_iff_ne]; omega
    have L := Lib.hid hl
    clear hl
    go_enter Try.func79, Try.ntmps79
    go_wp2
    go_ret
    exact ⟨ret_bool (eqI_len L.out).symm, Dr.refl _⟩

def sameB (R R' : Nat) (r r' : Nat → List Int) : Bool := decide (R = R') && (List.range R).all fun i => eqI (r i) (r' i)
theorem sameB_len {R R' : Nat} {r r' : Nat → List Int} (h : ¬ R = R') : sameB R R' r r' = false := by simp [sameB, h]
theorem sameB_miss {R R' k : Nat} {r r' : Nat → List Int} (hk : k < R) (h : eqI (r k) (r' k) = false) : sameB R R' r r' = false := by
  unfold sameB
  rw [Bool.and_eq_false_iff]
  right
  rw [List.all_eq_false]
  exact ⟨k, by simpa using hk, by rw [h]; decide⟩
theorem sameB_all {R R' : Nat} {r r' : Nat → List Int} (h : R = R') (ha : ∀ i, i < R → eqI (r i) (r' i) = true) : sameB R R' r r' = true := by
  unfold sameB
  rw [Bool.and_eq_true, decide_eq_true_eq, List.all_eq_true]
  exact ⟨h, fun i hi => ha i (by simpa using hi)⟩

set_option maxRecDepth 100000 in
set_option maxHeartbeats 2000000 in
theorem plSame_any (B B' : Nat) (A A' : Option Addr) (c c' N R R' : Nat) (f f' : Nat → Option Addr × Nat) (r r' : Nat → List Int) (w : World) (hN : N ≤ 1000) (hR : R ≤ 1000) (h : OwL w B A c f N R r) (h' : OwL w B' A' c' f' N R' r') :
    Calls Try.prog 77 #[.slice A R c, .slice A' R' c'] w fun e w' => e = .returned (.bool (sameB R R' r r')) ∧ Dr w w' := by
  have H := Lib.hid h
  have H' := Lib.hid h'
  clear h h'
  by_cases hl : R = R'
  case neg =>
    have hlb : ((R : Int) != (R' : Int)) = true := by rw [bne_iff_ne]; omega
    have L := Lib.hid (sameB_len (r := r) (r' := r') hl)
    clear hl
    go_enter Try.func77, Try.ntmps77
    go_wp2
    go_ret
    exact ⟨ret_bool L.out.symm, Dr.refl _⟩
  case pos =>
  have hlb : ((R : Int) != (R' : Int)) = false := by simp [hl]
  have L := Lib.hid hl
  clear hl
  go_enter Try.func77, Try.ntmps77
  go_wp2
  go_loopw [13] (fun i wr => ∃ k n : Nat, k ≤ R ∧ i = .int .i64 k ∧ wr = w.drewN n ∧ ∀ j, j < k → eqI (r j) (r' j) = true) (fun i _ => R - (intOf i).toNat)
  case atStart => exact ⟨0, 0, by omega, rfl, rfl, fun j hj => absurd hj (by omega)⟩
  case round =>
    obtain ⟨k, n, hk, rfl, rfl, hall⟩ := hrel
    have ALL := Lib.hid hall
    clear hall
    by_cases hlt : k < R
    · have hlt' : k < R' := by have := L.out; omega
      obtain ⟨g, rfl, _, _, hc, hrd, hrl⟩ := H.out.at_ hlt
      obtain ⟨g', rfl, _, _, hc', hrd', hrl'⟩ := H'.out.at_ hlt'
      have hE := fun W hr1 hr2 => l1Same_any w.heap.size (f k).1 (f' k).1 (f k).2 (f' k).2 (r k) (r' k) W (by omega) (by omega) hr1 hr2
      rw [hrl, hrl'] at hE
      have ikR : (k : Int) < (R : Int) := by omega
      have ikR' : (k : Int) < (R' : Int) := by omega
      obtain ⟨q, hq⟩ : ∃ q, eqI (r k) (r' k) = q := ⟨_, rfl⟩
      rw [hq] at hE
      obtain ⟨a1, ha1⟩ : ∃ a, (f k).1 = a := ⟨_, rfl⟩
      obtain ⟨a2, ha2⟩ : ∃ a, (f k).2 = a := ⟨_, rfl⟩
      obtain ⟨b1, hb1⟩ : ∃ a, (f' k).1 = a := ⟨_, rfl⟩
      obtain ⟨b2, hb2⟩ : ∃ a, (f' k).2 = a := ⟨_, rfl⟩
      rw [ha1, ha2, hb1, hb2] at hE
      rw [ha1] at hrd
      rw [hb1] at hrd'
      rw [ha1, ha2] at hc
      rw [hb1, hb2] at hc'
      have HE2 := Lib.hid hE
      have HR1 := Lib.hid hrd
      have HR2 := Lib.hid hrd'
      have QQ := Lib.hid hq
      clear hE hrd hrd' hrl hrl' ha1 ha2 hb1 hb2 hq
      cases q with
      | true =>
        go_wp2
        refine wp_region_Tw [0, 1, 2, 3, 4, 5, 6, 7, 9] [3, 7] (.lp 0 (.lp 1 (.lp 2 (.lp 4 (.lp 5 (.lp 6 (.ls 3 (.ls 7 (.hv 8 (.lp 9 (.done))))))))))) (by kernel_rfl) (by kernel_rfl) ?_
        (repeat (first | (refine T_lp rfl (fun K hK => ?_); go_simp; refine hK _ ?_; clear hK K) | (refine T_ls rfl rfl (fun K hK => ?_); go_simp; refine hK _ ?_; clear hK K)))
        (refine T_hv rfl (by kernel_rfl) (fun K hK => ?_); go_simp)
        go_at_call 102
        refine (HE2.out (w.drewN (n + 1)) (HR1.out.drewN _) (HR2.out.drewN _)).mono ?_
        rintro e w5 ⟨rfl, ⟨nd, rfl⟩⟩
        (go_simp; refine hK _ _ ?_; clear hK K)
        (repeat (first | (refine T_lp rfl (fun K hK => ?_); go_simp; refine hK _ ?_; clear hK K) | (refine T_ls rfl rfl (fun K hK => ?_); go_simp; refine hK _ ?_; clear hK K)))
        refine T_done ?_
        go_wp2
        go_roundw
        case rel => exact ⟨k + 1, _, by omega, by go_num, rfl, fun j hj => (by
          by_cases hjk : j = k
          · subst hjk; exact QQ.out
          · exact ALL.out j (by omega))⟩
        case measure => simp [intOf]; omega
      | false =>
        have MS := Lib.hid (sameB_miss (R' := R') hlt QQ.out)
        go_wp2
        refine wp_region_Tw [0, 1, 2, 3, 4, 5, 6, 7, 9] [3, 7] (.lp 0 (.lp 1 (.lp 2 (.lp 4 (.lp 5 (.lp 6 (.ls 3 (.ls 7 (.hv 8 (.lp 9 (.done))))))))))) (by kernel_rfl) (by kernel_rfl) ?_
        (repeat (first | (refine T_lp rfl (fun K hK => ?_); go_simp; refine hK _ ?_; clear hK K) | (refine T_ls rfl rfl (fun K hK => ?_); go_simp; refine hK _ ?_; clear hK K)))
        (refine T_hv rfl (by kernel_rfl) (fun K hK => ?_); go_simp)
        go_at_call 102
        refine (HE2.out (w.drewN (n + 1)) (HR1.out.drewN _) (HR2.out.drewN _)).mono ?_
        rintro e w5 ⟨rfl, ⟨nd, rfl⟩⟩
        (go_simp; refine hK _ _ ?_; clear hK K)
        (repeat (first | (refine T_lp rfl (fun K hK => ?_); go_simp; refine hK _ ?_; clear hK K) | (refine T_ls rfl rfl (fun K hK => ?_); go_simp; refine hK _ ?_; clear hK K)))
        refine T_done ?_
        go_wp2
        go_ret
        exact ⟨ret_bool MS.out.symm, Dr.mk _ _⟩
    · have hk' : k = R := by omega
      have SA := Lib.hid (sameB_all (r := r) (r' := r') L.out (fun i hi => ALL.out i (by omega)))
      clear hk'
      go_wp2
      go_ret
      exact ⟨ret_bool SA.out.symm, Dr.mk _ _⟩
end Go.Proofs.Ytppfpdobdoaoiaa
