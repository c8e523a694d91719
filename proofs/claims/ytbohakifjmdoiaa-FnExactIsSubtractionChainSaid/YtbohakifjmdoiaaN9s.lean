/- IsSubtractionChain of the model. -/
import Derived.Test.YtbohakifjmdoiaaN9r
namespace Go.Proofs.Ytbohakifjmdoiaa
open Go.RowKit

set_option maxRecDepth 100000 in
set_option maxHeartbeats 4000000 in
theorem specIsSubtractionChain_any (B : Nat) (A : Option Addr) (c : Nat) (l : List Int) (w : World) (hB : B ≤ w.heap.size) (hl : l.length ≤ 1048576) (hcap : l.length ≤ c) (hr : Rd w B 1 A l.length (l.map I)) :
    Calls Try.prog 33 #[.slice A l.length c] w fun e w' => e = .returned (.bool (isS l)) ∧ Below w.heap.size w w' := by
  have H := Lib.hid hr
  obtain ⟨g1, h1⟩ : ∃ g, inB (l.length : Int) 1 41 = g := ⟨_, rfl⟩
  have L1 := Lib.hid (fun W => (show Calls Try.prog 65 #[.int .i64 (l.length : Int), .int .i64 1, .int .i64 41] W fun e w' => e = .returned (.bool g1) ∧ W = w' by rw [← h1]; exact l1In_any _ _ _ _))
  cases g1 with
  | false =>
    have E := Lib.hid (isS_len h1)
    clear hr h1
    go_enter Try.func33, Try.ntmps33
    go_wp2_with (go_at_call 65; refine (L1.out _).mono ?_; rintro e w' ⟨rfl, rfl⟩)
    go_ret
    exact ⟨ret_bool (by rw [E.out]), Below.refl _ _⟩
  | true =>
  have LA := l1All_any B A c l 1 1000000 w (by omega) hr
  obtain ⟨g2, h2⟩ : ∃ g, allB l 1 1000000 = g := ⟨_, rfl⟩
  rw [h2] at LA
  have LA := Lib.hid LA
  cases g2 with
  | false =>
    have E := Lib.hid (isS_all h2)
    clear hr h1 h2
    go_enter Try.func33, Try.ntmps33
    go_wp2_with (first
      | (go_at_call 65; refine (L1.out _).mono ?_; rintro e w' ⟨rfl, rfl⟩)
      | (go_at_call 63; refine LA.out.mono ?_; rintro e w' ⟨rfl, rfl⟩))
    go_ret
    exact ⟨ret_bool (by rw [E.out]), Below.refl _ _⟩
  | true =>
  have hall : ∀ v ∈ l, 1 ≤ v ∧ v ≤ 1000000 := by
    intro v hv
    unfold allB at h2
    rw [List.all_eq_true] at h2
    simpa [inB] using h2 v hv
  have HALL := Lib.hid hall
  have hp : 0 < l.length := by
    have : 1 ≤ (l.length : Int) ∧ (l.length : Int) ≤ 41 := by simpa [inB] using h1
    omega
  have h41 : l.length ≤ 41 := by
    have : 1 ≤ (l.length : Int) ∧ (l.length : Int) ≤ 41 := by simpa [inB] using h1
    omega
  obtain ⟨b, off, eA, hb, hc0⟩ := hr.int hp
  have SH := Lib.hid (isS_head hp)
  have SE := Lib.hid (isS_end h1 hp)
  obtain ⟨a0, ha0⟩ : ∃ a, l[0] = a := ⟨_, rfl⟩
  rw [ha0] at hc0 SH SE
  rw [Nat.add_zero] at hc0
  have ip : (0 : Int) < (l.length : Int) := by omega
  clear hr ha0 h1 h2 hall
  by_cases h0 : a0 = 1
  · have SE := Lib.hid (SE.out h0)
    have q0 : (a0 != 1) = false := by simp [h0]
    subst eA
    clear h0
    go_enter Try.func33, Try.ntmps33
    go_wp2_with (first
      | (go_at_call 65; refine (L1.out _).mono ?_; rintro e w' ⟨rfl, rfl⟩)
      | (go_at_call 63; refine LA.out.mono ?_; rintro e w' ⟨rfl, rfl⟩))
    go_loopw [3] (fun iv wr => ∃ k : Nat, k + 1 ≤ l.length ∧ iv = .int .i64 ((k : Int) + 1) ∧ isK l k = true ∧ Below w.heap.size w wr) (fun iv _ => l.length - (intOf iv).toNat)
    case atStart => exact ⟨0, by omega, rfl, rfl, Below.refl _ _⟩
    case round =>
      obtain ⟨k, hk, rfl, hq, hbel⟩ := hrel
      have BEL := Lib.hid hbel
      have hs := hbel.size
      clear hbel
      have Q := Lib.hid hq
      clear hq
      by_cases hlt : k + 1 < l.length
      · have hr2 : Rd wr B 1 (some ⟨b, off, none⟩) l.length (l.map I) := H.out.below' BEL.out hB
        obtain ⟨b2, off2, e2, hb2, hc2⟩ := hr2.int hlt
        cases e2
        have KS := Lib.hid (isK_succ hlt)
        have KM := Lib.hid (isK_miss hlt)
        have HTL := Lib.hid (show (l.take (k + 1)).length = k + 1 by rw [List.length_take]; omega)
        have HRT := Lib.hid (show Rd wr.drew B 1 (some ⟨b, off, none⟩) (l.take (k + 1)).length ((l.take (k + 1)).map I) by rw [HTL.out]; exact hr2.take9 (by omega))
        have HAL := Lib.hid (show ∀ v ∈ l.take (k + 1), 1 ≤ v ∧ v ≤ 1000000 from fun v hv => HALL.out v (List.mem_of_mem_take hv))
        have hnr := HALL.out _ (List.getElem_mem hlt)
        obtain ⟨n, hn⟩ : ∃ n, l[k + 1] = n := ⟨_, rfl⟩
        rw [hn] at hc2 KS KM hnr
        obtain ⟨s, hsd⟩ : ∃ s, l.take (k + 1) = s := ⟨_, rfl⟩
        rw [hsd] at KS KM HAL HTL HRT
        have hin : inB n 1 1000000 = true := by simp [inB, hnr]
        rw [hin, Bool.true_and] at KS KM
        rw [Q.out, Bool.true_and] at KS
        have hc3 : wr.cell? ⟨b, off + (k + 1), none⟩ = some (.int .i64 n) := hc2
        have ik : (k : Int) + 1 < (l.length : Int) := by omega
        have ik0 : (0 : Int) ≤ (k : Int) + 1 := by omega
        have ikc : (k : Int) + 1 ≤ (c : Int) := by omega
        have LH := l1Has_any B (some ⟨b, off, none⟩) c s n wr.drew (by rw [HTL.out]; omega) HRT.out
        have SM := siMade_any B (some ⟨b, off, none⟩) c s n wr.drew (by rw [HTL.out]; omega) hnr HAL.out HRT.out
        rw [HTL.out] at LH SM
        rw [madeM_eq] at SM
        obtain ⟨g3, hg3⟩ : ∃ g, hasI s n = g := ⟨_, rfl⟩
        obtain ⟨g4, hg4⟩ : ∃ g, madeP s n = g := ⟨_, rfl⟩
        rw [hg3] at LH KM KS
        rw [hg4] at SM KM KS
        have LH := Lib.hid LH
        have SM := Lib.hid SM
        clear hn hsd hin hg3 hg4 hnr hr2 hc2
        cases g3 with
        | true =>
          have E := Lib.hid (KM.out rfl)
          go_wp2
          refine wp_region_Tw [0, 1, 2, 3, 4, 5, 6, 8, 9, 10, 11, 12, 13, 14, 15, 17, 18] [6, 15] (.lp 0 (.lp 1 (.lp 2 (.lp 3 (.lp 4 (.lp 5 (.ls 6 (.hv 7 (.lp 8 (.lp 9 (.lp 10 (.lp 11 (.lp 12 (.lp 13 (.lp 14 (.ls 15 (.hv 16 (.lp 17 (.lp 18 (.done)))))))))))))))))))) (by kernel_rfl) (by kernel_rfl) ?_
          (repeat (first | (refine T_lp rfl (fun K hK => ?_); go_simp; refine hK _ ?_; clear hK K) | (refine T_ls rfl rfl (fun K hK => ?_); go_simp; refine hK _ ?_; clear hK K)))
          (refine T_hv rfl (by kernel_rfl) (fun K hK => ?_); go_simp)
          go_at_call 71
          refine LH.out.mono ?_
          rintro e w' ⟨rfl, rfl⟩
          (go_simp; refine hK _ _ ?_; clear hK K)
          (repeat (first | (refine T_lp rfl (fun K hK => ?_); go_simp; refine hK _ ?_; clear hK K) | (refine T_ls rfl rfl (fun K hK => ?_); go_simp; refine hK _ ?_; clear hK K)))
          (refine T_hv rfl (by kernel_rfl) (fun K hK => ?_); go_simp; refine hK _ _ ?_; clear hK K)
          (repeat (first | (refine T_lp rfl (fun K hK => ?_); go_simp; refine hK _ ?_; clear hK K) | (refine T_ls rfl rfl (fun K hK => ?_); go_simp; refine hK _ ?_; clear hK K)))
          refine T_done ?_
          go_wp2
          go_ret
          exact ⟨ret_bool (by rw [E.out]), BEL.out.drew⟩
        | false =>
        cases g4 with
        | false =>
          have E := Lib.hid (KM.out rfl)
          go_wp2
          refine wp_region_Tw [0, 1, 2, 3, 4, 5, 6, 8, 9, 10, 11, 12, 13, 14, 15, 17, 18] [6, 15] (.lp 0 (.lp 1 (.lp 2 (.lp 3 (.lp 4 (.lp 5 (.ls 6 (.hv 7 (.lp 8 (.lp 9 (.lp 10 (.lp 11 (.lp 12 (.lp 13 (.lp 14 (.ls 15 (.hv 16 (.lp 17 (.lp 18 (.done)))))))))))))))))))) (by kernel_rfl) (by kernel_rfl) ?_
          (repeat (first | (refine T_lp rfl (fun K hK => ?_); go_simp; refine hK _ ?_; clear hK K) | (refine T_ls rfl rfl (fun K hK => ?_); go_simp; refine hK _ ?_; clear hK K)))
          (refine T_hv rfl (by kernel_rfl) (fun K hK => ?_); go_simp)
          go_at_call 71
          refine LH.out.mono ?_
          rintro e w' ⟨rfl, rfl⟩
          (go_simp; refine hK _ _ ?_; clear hK K)
          (repeat (first | (refine T_lp rfl (fun K hK => ?_); go_simp; refine hK _ ?_; clear hK K) | (refine T_ls rfl rfl (fun K hK => ?_); go_simp; refine hK _ ?_; clear hK K)))
          (refine T_hv rfl (by kernel_rfl) (fun K hK => ?_); go_simp)
          go_at_call 72
          refine SM.out.mono ?_
          rintro e w' ⟨rfl, rfl⟩
          (go_simp; refine hK _ _ ?_; clear hK K)
          (repeat (first | (refine T_lp rfl (fun K hK => ?_); go_simp; refine hK _ ?_; clear hK K) | (refine T_ls rfl rfl (fun K hK => ?_); go_simp; refine hK _ ?_; clear hK K)))
          refine T_done ?_
          go_wp2
          go_ret
          exact ⟨ret_bool (by rw [E.out]), BEL.out.drew⟩
        | true =>
          have KS := Lib.hid (show isK l (k + 1) = true from KS.out)
          go_wp2
          refine wp_region_Tw [0, 1, 2, 3, 4, 5, 6, 8, 9, 10, 11, 12, 13, 14, 15, 17, 18] [6, 15] (.lp 0 (.lp 1 (.lp 2 (.lp 3 (.lp 4 (.lp 5 (.ls 6 (.hv 7 (.lp 8 (.lp 9 (.lp 10 (.lp 11 (.lp 12 (.lp 13 (.lp 14 (.ls 15 (.hv 16 (.lp 17 (.lp 18 (.done)))))))))))))))))))) (by kernel_rfl) (by kernel_rfl) ?_
          (repeat (first | (refine T_lp rfl (fun K hK => ?_); go_simp; refine hK _ ?_; clear hK K) | (refine T_ls rfl rfl (fun K hK => ?_); go_simp; refine hK _ ?_; clear hK K)))
          (refine T_hv rfl (by kernel_rfl) (fun K hK => ?_); go_simp)
          go_at_call 71
          refine LH.out.mono ?_
          rintro e w' ⟨rfl, rfl⟩
          (go_simp; refine hK _ _ ?_; clear hK K)
          (repeat (first | (refine T_lp rfl (fun K hK => ?_); go_simp; refine hK _ ?_; clear hK K) | (refine T_ls rfl rfl (fun K hK => ?_); go_simp; refine hK _ ?_; clear hK K)))
          (refine T_hv rfl (by kernel_rfl) (fun K hK => ?_); go_simp)
          go_at_call 72
          refine SM.out.mono ?_
          rintro e w' ⟨rfl, rfl⟩
          (go_simp; refine hK _ _ ?_; clear hK K)
          (repeat (first | (refine T_lp rfl (fun K hK => ?_); go_simp; refine hK _ ?_; clear hK K) | (refine T_ls rfl rfl (fun K hK => ?_); go_simp; refine hK _ ?_; clear hK K)))
          refine T_done ?_
          go_wp2
          go_roundw
          case rel => exact ⟨k + 1, by omega, by go_num, KS.out, BEL.out.drew⟩
          case measure => simp [intOf]; omega
      · have E := Lib.hid (SE.out (by rw [show l.length - 1 = k by omega]; exact Q.out))
        have ik : ¬ (k : Int) + 1 < (l.length : Int) := by omega
        go_wp2
        go_ret
        exact ⟨ret_bool (by rw [E.out]), BEL.out⟩
  · have E := Lib.hid (SH.out h0)
    have q0 : (a0 != 1) = true := by simpa using h0
    subst eA
    clear h0
    go_enter Try.func33, Try.ntmps33
    go_wp2_with (first
      | (go_at_call 65; refine (L1.out _).mono ?_; rintro e w' ⟨rfl, rfl⟩)
      | (go_at_call 63; refine LA.out.mono ?_; rintro e w' ⟨rfl, rfl⟩))
    go_ret
    exact ⟨ret_bool (by rw [E.out]), Below.refl _ _⟩
end Go.Proofs.Ytbohakifjmdoiaa
