/- The program's sums of a number. -/
import Derived.Test.YtbbjgcagkmlngadDoorQe
import Derived.Test.YtbbjgcagkmlngadDoorQl
namespace Go.Proofs.YtbbjgcagkmlngadDoor
open Go.RowKit

theorem Rd.take {w : World} {B : Nat} {A : Option Addr} {l : List Int} (h : Rd w B 1 A l.length (l.map I)) {n : Nat} (hn : n ≤ l.length) : Rd w B 1 A n ((l.take n).map I) := by
  refine ⟨by simp; omega, fun h0 => ?_⟩
  obtain ⟨b, off, e, hb, hc⟩ := h.2 (by omega)
  refine ⟨b, off, e, hb, fun j hj => ?_⟩
  rw [hc j (by omega), List.map_take, List.getElem?_take]
  simp [show j < n by omega]
theorem asc_take {l : List Int} (h : Asc l) (n : Nat) : Asc (l.take n) := by
  intro i j hij hj
  rw [List.length_take] at hj
  have e : ∀ t, t < n → t < l.length → (l.take n).getD t 0 = l.getD t 0 := fun t h1 h2 => by simp [h1, h2]
  rw [e i (by omega) (by omega), e j (by omega) (by omega)]
  exact h i j hij (by omega)

set_option maxRecDepth 100000 in
set_option maxHeartbeats 2000000 in
theorem sumsOf_any (B : Nat) (A : Option Addr) (c k : Nat) (l : List Int) (w : World) (hch : Chn l) (hk : k < l.length) (hcap : l.length ≤ c) (hB : B ≤ w.heap.size) (hr : Rd w B 1 A l.length (l.map I)) :
    Calls Tryd.prog 76 #[.slice A l.length c, .int .i64 k] w fun e w' =>
      ∃ A' c', e = .returned (.slice A' (prs l k k).length c') ∧ OwS w' w.heap.size (.slice A' (prs l k k).length c') (prs l k k) ∧ Below w.heap.size w w' := by
  obtain ⟨b, off, rfl, hbB, hc⟩ := hr.cells (by omega)
  have H := Lib.hid hr
  have CH := Lib.hid hch
  have HC := Lib.hid hc
  have hl41 := hch.most
  clear hr hch hc
  obtain ⟨z, hz⟩ : ∃ z, l.getD k 0 = z := ⟨_, rfl⟩
  have hzr := CH.out.rng k hk
  rw [hz] at hzr
  have HZ := Lib.hid hz
  clear hz
  go_enter Tryd.func76, Tryd.ntmps76
  go_wp2
  go_loopw [5, 10] (fun ov jv wr => ∃ (j n : Nat) (A1 : Option Addr) (c1 : Nat), j ≤ k ∧ jv = .int .i64 j ∧ ov = .slice A1 n c1 ∧ n = (prs l k j).length ∧ OwS wr w.heap.size (.slice A1 n c1) (prs l k j) ∧ Below w.heap.size w wr) (fun _ j _ => k - (intOf j).toNat)
  case atStart => exact ⟨0, 0, none, 0, by omega, rfl, rfl, rfl, OwS.nil _ _, Below.refl _ _⟩
  case round =>
    obtain ⟨j, n, A1, c1, hj, rfl, rfl, hn, hown, hbel⟩ := hrel
    have OWN := Lib.hid hown
    have BEL := Lib.hid hbel
    have HN := Lib.hid hn
    have hs : w.heap.size ≤ wr.heap.size := hbel.size
    clear hown hbel hn
    by_cases hlt : j < k
    · obtain ⟨y, hy⟩ : ∃ y, l.getD j 0 = y := ⟨_, rfl⟩
      have hyr := CH.out.rng j (by omega)
      rw [hy] at hyr
      have ck := (BEL.out.cell (p := ⟨b, off + k, none⟩) (by simp only []; omega)).trans (HC.out k hk)
      have cj := (BEL.out.cell (p := ⟨b, off + j, none⟩) (by simp only []; omega)).trans (HC.out j (by omega))
      rw [HZ.out] at ck
      rw [hy] at cj
      have ij : (j : Int) < (l.length : Int) := by omega
      have ik : (k : Int) < (l.length : Int) := by omega
      have ic : (j : Int) + 1 ≤ (c : Int) := by omega
      have hdif : IntKind.i64.wrap (z - y) = z - y := IntWalk.i64_in _ (by omega)
      have hj1 : IntKind.i64.wrap ((j : Int) + 1) = (j : Int) + 1 := IntWalk.i64_in _ (by omega)
      have htn : ((j : Int) + 1).toNat = j + 1 := by omega
      have hj0 : (0 : Int) ≤ (j : Int) + 1 := by omega
      have hS := prs_succ l k j
      rw [prsJ_eq CH.out.asc k j (by omega), HZ.out, hy] at hS
      have hF := fun (W : World) (hb : Below w.heap.size w W) => find_any B (some ⟨b, off, none⟩) c (l.take (j + 1)) (z - y) W (by simp; omega) (asc_take CH.out.asc _) (by
        rw [List.length_take, Nat.min_eq_left (show j + 1 ≤ l.length by omega)]
        exact (H.out.below' hb hB).take (by omega))
      rw [List.length_take, Nat.min_eq_left (show j + 1 ≤ l.length by omega)] at hF
      have hcb : cnt (l.take (j + 1)) (z - y) ≤ 41 := by
        unfold cnt
        refine Nat.le_trans List.countP_le_length ?_
        simp; omega
      have e0 : (l.take (j + 1)).countP (fun y_1 => decide (y_1 < z - y)) = cnt (l.take (j + 1)) (z - y) := rfl
      rw [e0] at hS
      obtain ⟨a, ha⟩ : ∃ a, cnt (l.take (j + 1)) (z - y) = a := ⟨_, rfl⟩
      rw [ha] at hF hS hcb
      have hnb := prs_le CH.out.asc k j (by omega)
      rw [← HN.out] at hnb
      by_cases hq : z - y ∈ l.take (j + 1)
      · rw [if_pos hq] at hS
        rw [decide_eq_true hq] at hF
        have HS := Lib.hid hS
        have HF := Lib.hid hF
        clear hS hF hq e0 ha hy
        go_wp2
        refine wp_region_Tw [0, 1, 2, 3, 4, 5, 6, 7, 8, 9, 10, 11, 12, 14, 15, 16, 17, 18] [7, 11] (.lp 0 (.lp 1 (.lp 2 (.lp 3 (.lp 4 (.lp 5 (.lp 6 (.lp 8 (.lp 9 (.lp 10 (.ls 7 (.ls 11 (.lp 12 (.hv 13 (.lp 14 (.lp 15 (.lp 16 (.lp 17 (.lp 18 (.done)))))))))))))))))))) (by kernel_rfl) (by kernel_rfl) ?_
        (repeat (first | (refine T_lp rfl (fun K hK => ?_); go_simp; refine hK _ ?_; clear hK K) | (refine T_ls rfl rfl (fun K hK => ?_); go_simp; refine hK _ ?_; clear hK K)))
        (refine T_hv rfl (by kernel_rfl) (fun K hK => ?_); go_simp)
        go_at_call 101
        refine (HF.out wr.drew BEL.out.drew).mono ?_
        rintro e w2 ⟨rfl, ⟨nd, rfl⟩⟩
        (go_simp; refine hK _ _ ?_; clear hK K)
        (repeat (first | (refine T_lp rfl (fun K hK => ?_); go_simp; refine hK _ ?_; clear hK K) | (refine T_ls rfl rfl (fun K hK => ?_); go_simp; refine hK _ ?_; clear hK K)))
        refine T_done ?_
        go_wp2_with (at_builtin; refine list_step (fun K hK => ?_); refine step_app2 Tryd.underlying32 info_step rfl (by omega) rfl (.tmp 31) (.tmp 35) rfl w.heap.size n _ (fl (prs l k j)) rfl (World.ownsRow.alloc (by have h := OWN.out; unfold OwS at h; rw [← HN.out] at h; exact (own_below h (bDrewN (Below.refl _ wr) _))) _) (wr.drewN (1 + nd)).heap.size 1 (I (a : Int)) (I (j : Int)) rfl (by rw [World.cell?_alloc_at _ _ _ _ rfl]; rfl) (by rw [World.cell?_alloc_at _ _ _ _ rfl]; rfl) rfl rfl (by omega) (by simp; omega) ?_; intro A3 c3 w3 hown3 hg3 hbel3; go_simp; refine hK _ _ ?_; clear hK K)
        go_roundw
        case rel =>
          refine ⟨j + 1, n + 1, A3, c3, by omega, by go_num, rfl, ?_, ?_, ?_⟩
          · rw [HS.out, List.length_append, ← HN.out]; rfl
          · rw [HS.out]
            unfold OwS
            rw [fl_snoc, List.length_append, ← HN.out]
            exact hown3
          · exact ((bDrewN BEL.out (1 + nd)).alloc (by simp; omega) _).trans hbel3
        case measure => simp [intOf]; omega
      · rw [if_neg hq, List.append_nil] at hS
        rw [decide_eq_false hq] at hF
        have HS := Lib.hid hS
        have HF := Lib.hid hF
        clear hS hF hq e0 ha hy
        go_wp2
        refine wp_region_Tw [0, 1, 2, 3, 4, 5, 6, 7, 8, 9, 10, 11, 12, 14, 15, 16, 17, 18] [7, 11] (.lp 0 (.lp 1 (.lp 2 (.lp 3 (.lp 4 (.lp 5 (.lp 6 (.lp 8 (.lp 9 (.lp 10 (.ls 7 (.ls 11 (.lp 12 (.hv 13 (.lp 14 (.lp 15 (.lp 16 (.lp 17 (.lp 18 (.done)))))))))))))))))))) (by kernel_rfl) (by kernel_rfl) ?_
        (repeat (first | (refine T_lp rfl (fun K hK => ?_); go_simp; refine hK _ ?_; clear hK K) | (refine T_ls rfl rfl (fun K hK => ?_); go_simp; refine hK _ ?_; clear hK K)))
        (refine T_hv rfl (by kernel_rfl) (fun K hK => ?_); go_simp)
        go_at_call 101
        refine (HF.out wr.drew BEL.out.drew).mono ?_
        rintro e w2 ⟨rfl, ⟨nd, rfl⟩⟩
        (go_simp; refine hK _ _ ?_; clear hK K)
        (repeat (first | (refine T_lp rfl (fun K hK => ?_); go_simp; refine hK _ ?_; clear hK K) | (refine T_ls rfl rfl (fun K hK => ?_); go_simp; refine hK _ ?_; clear hK K)))
        refine T_done ?_
        go_wp2
        go_roundw
        case rel => exact ⟨j + 1, n, A1, c1, by omega, by go_num, rfl, by rw [HS.out]; exact HN.out, by rw [HS.out]; exact OWN.out, bDrewN BEL.out _⟩
        case measure => simp [intOf]; omega
    · have e : j = k := by omega
      subst e
      have hn := HN.out
      subst hn
      go_wp2
      go_ret
      exact ⟨A1, c1, rfl, OWN.out, BEL.out⟩
end Go.Proofs.YtbbjgcagkmlngadDoor
