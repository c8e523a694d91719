/- Numbers in decimal, by the model. -/
import Derived.Test.YtbbjgcagkmlngadDoorBase2
import Derived.Laws.BytesArg
import Derived.Lib.ItoaNum
namespace Go.Proofs.YtbbjgcagkmlngadDoor
open Go.RowKit

theorem conv_at {w : World} {b : Nat} {x : Int} (h : w.cell? ⟨b, 0, none⟩ = some (.int .u8 x)) :
    (convert 87 9 (.slice (some ⟨b, 0, none⟩) 1 1)).run Tryd.prog w = .ok (.string ⟨#[UInt8.ofNat x.toNat]⟩) w := by
  have h1 := run_convert_bytes_arg (P := Tryd.prog) w 87 5 Tryd.underlying87 Tryd.underlying5 b 0 1 1 [x] rfl (fun i hi => by
    obtain rfl : i = 0 := by omega
    exact h) 9 Tryd.underlying9
  rw [h1]
  rfl
theorem conv_one (W : World) (x : Int) : (convert 87 9 (.slice (some ⟨W.heap.size, 0, none⟩) 1 1)).run Tryd.prog (W.alloc (.cells #[.int .u8 x] 5)) = .ok (.string ⟨#[UInt8.ofNat x.toNat]⟩) (W.alloc (.cells #[.int .u8 x] 5)) :=
  conv_at (by rw [World.cell?_alloc_at _ _ _ _ rfl]; rfl)
theorem ba_app (l m : List UInt8) : (⟨l.toArray⟩ : ByteArray) ++ ⟨m.toArray⟩ = ⟨(l ++ m).toArray⟩ := by
  rw [ByteArray.mk_append_mk]
theorem ret_str {l m : List UInt8} (h : l = m) : Ending.returned (.string ⟨l.toArray⟩) = .returned (.string ⟨m.toArray⟩) := by rw [h]

theorem dd_len : ∀ (k n : Nat), n < 10 ^ (k + 1) → (Lib.decDigits n).length ≤ k + 1 := by
  intro k
  induction k with
  | zero => intro n h; rw [Lib.decDigits_one (by simpa using h)]; simp
  | succ k ih =>
    intro n h
    by_cases h10 : n < 10
    · rw [Lib.decDigits_one h10]; simp
    · rw [Lib.decDigits, dif_neg h10, List.length_append]
      have := ih (n / 10) (by rw [Nat.pow_succ] at h; omega)
      simp
      exact this
theorem dd_len7 {n : Nat} (h : n ≤ 1000000) : (Lib.decDigits n).length ≤ 7 := dd_len 6 n (by omega)
set_option maxRecDepth 100000 in
set_option maxHeartbeats 2000000 in
theorem l1Num_any (k : Nat) : ∀ (n : Nat) (w : World), n ≤ k → n ≤ 1000000 → Calls Tryd.prog 57 #[.int .i64 (n : Int)] w fun e w' => e = .returned (.string ⟨(Lib.decDigits n).toArray⟩) ∧ Below w.heap.size w w' := by
  induction k with
  | zero =>
    intro n w hk _
    have hn : n = 0 := by omega
    subst hn
    have hcv := fun W => conv_one W 48
    go_enter Tryd.func57, Tryd.ntmps57
    go_wp2_with fail
    go_ret
    exact ⟨by rw [Lib.decDigits_one (by omega)]; rfl, (Below.refl _ _).alloc (Nat.le_refl _) _⟩
  | succ k ih =>
    intro n w hk hn
    by_cases h10 : n < 10
    · have i10 : (n : Int) < 10 := by omega
      have hcv := fun W => conv_one W (48 + (n : Int))
      have E := Lib.hid (Lib.decDigits_one h10)
      go_enter Tryd.func57, Tryd.ntmps57
      go_wp2_with fail
      go_ret
      exact ⟨by rw [E.out]; rfl, (Below.refl _ _).alloc (Nat.le_refl _) _⟩
    · have i10 : ¬ (n : Int) < 10 := by omega
      have E := Lib.hid (show Lib.decDigits n = Lib.decDigits (n / 10) ++ [UInt8.ofNat (48 + n % 10)] by rw [Lib.decDigits, dif_neg h10])
      have hIH := fun W => ih (n / 10) W (by omega) (by omega)
      obtain ⟨q, hq⟩ : ∃ q, n / 10 = q := ⟨_, rfl⟩
      obtain ⟨r, hr⟩ : ∃ r, n % 10 = r := ⟨_, rfl⟩
      rw [hq] at E hIH
      rw [hr] at E
      have hr10 : r < 10 := by omega
      have ip : (0 : Int) ≤ (n : Int) := by omega
      have w1 : (n : Int).tdiv 10 = (q : Int) := by rw [Int.tdiv_eq_ediv_of_nonneg ip]; omega
      have w2 : (n : Int).tmod 10 = (r : Int) := by rw [Int.tmod_eq_emod_of_nonneg ip]; omega
      have w3 : IntKind.i64.wrap (q : Int) = (q : Int) := IntWalk.i64_in _ (by omega)
      have w4 : IntKind.i64.wrap (r : Int) = (r : Int) := IntWalk.i64_in _ (by omega)
      have w5 : IntKind.i64.wrap (48 + (r : Int)) = 48 + (r : Int) := IntWalk.i64_in _ (by omega)
      have w6 : IntKind.u8.wrap (48 + (r : Int)) = 48 + (r : Int) := IntWalk.u8_in _ (by omega)
      have hD7 := dd_len7 (n := q) (by omega)
      obtain ⟨D, hD⟩ : ∃ D, Lib.decDigits q = D := ⟨_, rfl⟩
      rw [hD] at E hIH hD7
      have hDs : ¬ 9223372036854775807 < D.length + 1 := by omega
      have HIH := Lib.hid hIH
      clear hIH hq hr ih h10 hk hn hD
      go_enter Tryd.func57, Tryd.ntmps57
      go_wp2_with fail
      refine wp_region_Tw [0, 1, 3, 4, 5, 6, 9, 10] [] (.lp 0 (.lp 1 (.lp 3 (.lp 4 (.lp 5 (.lp 6 (.hv2 2 (.hv 7 (.hv 8 (.lp 9 (.lp 10 (.done))))) 7 (.hv2 2 (.hv 8 (.lp 9 (.lp 10 (.done)))) 8 (.hv 2 (.lp 9 (.lp 10 (.done)))))))))))) (by kernel_rfl) (by kernel_rfl) ?_
      have sd : Below w.heap.size w w.drew := (Below.refl _ _).drew
      have SD := Lib.hid sd
      have sz : w.drew.heap.size = w.heap.size := rfl
      generalize World.drew w = wd at sd SD sz ⊢
      clear sd sz
      (repeat (refine T_lp rfl (fun K hK => ?_); go_simp; refine hK _ ?_; clear hK K))
      refine T_hv2 ?_ ?_
      · (refine T_hv rfl (by kernel_rfl) (fun K hK => ?_); go_simp)
        go_at_call 57
        refine (HIH.out _).mono ?_
        rintro e W1 ⟨rfl, hb1⟩
        have HB := Lib.hid (show Below w.heap.size w (W1.alloc (.cells #[.int .u8 (48 + (r : Int))] 5)) from (SD.out.trans (hb1.mono SD.out.size)).alloc (by have := SD.out.size; have := hb1.size; omega) _)
        clear hb1
        (go_simp; refine hK _ _ ?_; clear hK K)
        have hcv := conv_one W1 (48 + (r : Int))
        (refine T_hv rfl (by kernel_rfl) (fun K hK => ?_); go_simp; refine hK _ _ ?_; clear hK K)
        (refine T_hv rfl (by kernel_rfl) (fun K hK => ?_); go_simp; refine hK _ _ ?_; clear hK K)
        (repeat (refine T_lp rfl (fun K hK => ?_); go_simp; refine hK _ ?_; clear hK K))
        refine T_done ?_
        go_wp2
        go_ret
        exact ⟨by rw [E.out]; exact ret_str rfl, HB.out⟩
      · refine T_hv rfl (by kernel_rfl) (fun K hK => ?_)
        go_simp
        refine hK _ _ ?_
        clear hK K
        refine T_hv2 ?_ ?_
        · (refine T_hv rfl (by kernel_rfl) (fun K hK => ?_); go_simp)
          go_at_call 57
          refine (HIH.out _).mono ?_
          rintro e W1 ⟨rfl, hb1⟩
          have HB := Lib.hid ((SD.out.alloc SD.out.size (.cells #[.int .u8 (48 + (r : Int))] 5)).trans (hb1.mono (by have := SD.out.size; simp; omega)))
          have hc1 := (hb1.cell (p := ⟨wd.heap.size, 0, none⟩) (by simp)).trans (show _ = some (Value.int .u8 (48 + (r : Int))) by simp)
          have hcv := conv_at hc1
          clear hb1 hc1
          (go_simp; refine hK _ _ ?_; clear hK K)
          (refine T_hv rfl (by kernel_rfl) (fun K hK => ?_); go_simp; refine hK _ _ ?_; clear hK K)
          (repeat (refine T_lp rfl (fun K hK => ?_); go_simp; refine hK _ ?_; clear hK K))
          refine T_done ?_
          go_wp2
          go_ret
          exact ⟨by rw [E.out]; exact ret_str rfl, HB.out⟩
        · have hcv := fun W => conv_one W (48 + (r : Int))
          refine T_hv rfl (by kernel_rfl) (fun K hK => ?_)
          go_simp
          refine hK _ _ ?_
          clear hK K
          (refine T_hv rfl (by kernel_rfl) (fun K hK => ?_); go_simp)
          go_at_call 57
          refine (HIH.out _).mono ?_
          rintro e W1 ⟨rfl, hb1⟩
          have HB := Lib.hid ((SD.out.alloc SD.out.size (.cells #[.int .u8 (48 + (r : Int))] 5)).trans (hb1.mono (by have := SD.out.size; simp; omega)))
          clear hb1
          (go_simp; refine hK _ _ ?_; clear hK K)
          (repeat (refine T_lp rfl (fun K hK => ?_); go_simp; refine hK _ ?_; clear hK K))
          refine T_done ?_
          go_wp2
          go_ret
          exact ⟨by rw [E.out]; exact ret_str rfl, HB.out⟩
end Go.Proofs.YtbbjgcagkmlngadDoor
