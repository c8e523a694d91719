/- Numbers that are live. -/
import Derived.Test.YtppahohakiidmaaHg
namespace Go.Proofs.Ytppahohakiidmaa
open Go.RowKit

theorem liveNumbers_any (n L : Nat) (w : World) : Calls Try.prog 58 #[.int .i64 (n : Int), .int .i64 (L : Int)] w fun e w' =>
    e = .returned (.func (.func 81) #[] #[.pointer (some ⟨w.heap.size + 1, 0, none⟩), .pointer (some ⟨w.heap.size, 0, none⟩)]) ∧ w' = (w.alloc (.cells #[.int .i64 (n : Int)] 3)).alloc (.cells #[.int .i64 (L : Int)] 3) := by
  go_enter Try.func58, Try.ntmps58
  go_wp2
  go_ret
  exact ⟨by simp, rfl⟩

theorem fitN_no1 {n L s i : Nat} (h : ¬ i ≤ L) : fitN n L s i = false := by unfold fitN; rw [decide_eq_false_iff_not]; exact fun h' => h h'.1
theorem fitN_no2 {n L s i : Nat} (h : ¬ s ≤ n) : fitN n L s i = false := by unfold fitN; rw [decide_eq_false_iff_not]; exact fun h' => h h'.2.1
theorem fitN_val {n L s i : Nat} (h : i ≤ L) (h2 : s ≤ n) : fitN n L s i = decide (n ≤ s * 2 ^ (L - i)) := by
  unfold fitN
  rw [Bool.eq_iff_iff, decide_eq_true_eq, decide_eq_true_eq]
  exact ⟨fun h' => h'.2.2, fun h' => ⟨h, h2, h'⟩⟩
set_option maxRecDepth 100000 in
set_option maxHeartbeats 2000000 in
theorem live_any (n L s i bL bn : Nat) (W : World) (hL : L ≤ 12) (hn : n ≤ 100) (hi : i ≤ L + 1) (cL : W.cell? ⟨bL, 0, none⟩ = some (.int .i64 (L : Int))) (cn : W.cell? ⟨bn, 0, none⟩ = some (.int .i64 (n : Int))) :
    Calls Try.prog 81 #[.int .i64 (s : Int), .int .i64 (i : Int), .pointer (some ⟨bL, 0, none⟩), .pointer (some ⟨bn, 0, none⟩)] W fun e w' => e = .returned (.bool (fitN n L s i)) ∧ Dr W w' := by
  by_cases h1 : i ≤ L
  case neg =>
    have G := Lib.hid (fitN_no1 (n := n) (s := s) h1)
    have i1 : ¬ (i : Int) ≤ (L : Int) := by omega
    have i1' : L < i := by omega
    go_enter Try.func81, Try.ntmps81
    go_wp2
    refine wp_region_Tw [0, 1, 2, 3, 4, 5, 6, 7, 8, 9, 10, 11, 12, 13, 14, 15, 16, 17] [1, 5, 10, 14] (.lp 0 (.ls 1 (.lp 2 (.lp 3 (.lp 4 (.ls 5 (.lp 6 (.lp 7 (.lp 8 (.lp 9 (.lp 11 (.ls 10 (.lp 12 (.lp 13 (.ls 14 (.lp 15 (.lp 16 (.lp 17 (.done))))))))))))))))))) (by kernel_rfl) (by kernel_rfl) ?_
    (repeat (first | (refine T_lp rfl (fun K hK => ?_); go_simp; refine hK _ ?_; clear hK K) | (refine T_ls rfl rfl (fun K hK => ?_); go_simp; refine hK _ ?_; clear hK K)))
    refine T_done ?_
    go_wp2
    go_ret
    exact ⟨ret_bool G.out.symm, ⟨1, rfl⟩⟩
  by_cases h2 : s ≤ n
  case neg =>
    have G := Lib.hid (fitN_no2 (L := L) (i := i) h2)
    have i2 : ¬ (s : Int) ≤ (n : Int) := by omega
    have i2' : n < s := by omega
    go_enter Try.func81, Try.ntmps81
    go_wp2
    refine wp_region_Tw [0, 1, 2, 3, 4, 5, 6, 7, 8, 9, 10, 11, 12, 13, 14, 15, 16, 17] [1, 5, 10, 14] (.lp 0 (.ls 1 (.lp 2 (.lp 3 (.lp 4 (.ls 5 (.lp 6 (.lp 7 (.lp 8 (.lp 9 (.lp 11 (.ls 10 (.lp 12 (.lp 13 (.ls 14 (.lp 15 (.lp 16 (.lp 17 (.done))))))))))))))))))) (by kernel_rfl) (by kernel_rfl) ?_
    (repeat (first | (refine T_lp rfl (fun K hK => ?_); go_simp; refine hK _ ?_; clear hK K) | (refine T_ls rfl rfl (fun K hK => ?_); go_simp; refine hK _ ?_; clear hK K)))
    refine T_done ?_
    go_wp2
    go_ret
    exact ⟨ret_bool G.out.symm, ⟨1, rfl⟩⟩
  obtain ⟨d, hd⟩ : ∃ d, L - i = d := ⟨_, rfl⟩
  obtain ⟨P, hP⟩ : ∃ P, s * 2 ^ d = P := ⟨_, rfl⟩
  have G := Lib.hid (show fitN n L s i = decide (n ≤ P) by rw [fitN_val h1 h2, hd, hP])
  have hd12 : 2 ^ d ≤ 4096 := Nat.pow_le_pow_right (n := 2) (by decide) (show d ≤ 12 by omega)
  have hP1 : P ≤ 1000000 := by
    rw [← hP]
    have := Nat.mul_le_mul (show s ≤ 100 by omega) hd12
    omega
  have hw1 : IntKind.i64.wrap ((L : Int) - (i : Int)) = (d : Int) := by rw [IntWalk.i64_in _ (by omega)]; omega
  have hPI : (s : Int) * 2 ^ d = (P : Int) := by rw [← hP]; push_cast; rfl
  have hw2 : IntKind.i64.wrap (P : Int) = (P : Int) := IntWalk.i64_in _ (by omega)
  clear hd12 hP
  by_cases h3 : n ≤ P
  · have G2 := Lib.hid (show fitN n L s i = true by rw [G.out]; simpa using h3)
    have i3 : (n : Int) ≤ (P : Int) := by omega
    go_enter Try.func81, Try.ntmps81
    go_wp2
    refine wp_region_Tw [0, 1, 2, 3, 4, 5, 6, 7, 8, 9, 10, 11, 12, 13, 14, 15, 16, 17] [1, 5, 10, 14] (.lp 0 (.ls 1 (.lp 2 (.lp 3 (.lp 4 (.ls 5 (.lp 6 (.lp 7 (.lp 8 (.lp 9 (.lp 11 (.ls 10 (.lp 12 (.lp 13 (.ls 14 (.lp 15 (.lp 16 (.lp 17 (.done))))))))))))))))))) (by kernel_rfl) (by kernel_rfl) ?_
    (repeat (first | (refine T_lp rfl (fun K hK => ?_); go_simp; refine hK _ ?_; clear hK K) | (refine T_ls rfl rfl (fun K hK => ?_); go_simp; refine hK _ ?_; clear hK K)))
    refine T_done ?_
    go_wp2
    go_ret
    exact ⟨ret_bool G2.out.symm, ⟨1, rfl⟩⟩
  · have G2 := Lib.hid (show fitN n L s i = false by rw [G.out]; simpa using h3)
    have i3 : ¬ (n : Int) ≤ (P : Int) := by omega
    go_enter Try.func81, Try.ntmps81
    go_wp2
    refine wp_region_Tw [0, 1, 2, 3, 4, 5, 6, 7, 8, 9, 10, 11, 12, 13, 14, 15, 16, 17] [1, 5, 10, 14] (.lp 0 (.ls 1 (.lp 2 (.lp 3 (.lp 4 (.ls 5 (.lp 6 (.lp 7 (.lp 8 (.lp 9 (.lp 11 (.ls 10 (.lp 12 (.lp 13 (.ls 14 (.lp 15 (.lp 16 (.lp 17 (.done))))))))))))))))))) (by kernel_rfl) (by kernel_rfl) ?_
    (repeat (first | (refine T_lp rfl (fun K hK => ?_); go_simp; refine hK _ ?_; clear hK K) | (refine T_ls rfl rfl (fun K hK => ?_); go_simp; refine hK _ ?_; clear hK K)))
    refine T_done ?_
    go_wp2
    go_ret
    exact ⟨ret_bool G2.out.symm, ⟨1, rfl⟩⟩
end Go.Proofs.Ytppahohakiidmaa
