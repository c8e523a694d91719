/- The model's sums of a number of a list. -/
import Derived.Test.YtbbjgcagkmlngadDoorQa
import Derived.Test.YtbbjgcagkmlngadDoorLa
namespace Go.Proofs.YtbbjgcagkmlngadDoor
open Go.RowKit

theorem OwS.nil (w : World) (B : Nat) : OwS w B (.slice none 0 0) [] := World.ownsRow_nil _ _ _ _
theorem OwS.below {w w' : World} {B : Nat} {v : Value} {s : List (Int × Int)} (h : OwS w B v s) (hb : Below w.heap.size w w') : OwS w' B v s := own_below h hb
theorem OwS.base {w : World} {B B' : Nat} {v : Value} {s : List (Int × Int)} (h : OwS w B v s) (hB : B' ≤ B) : OwS w B' v s := own_base h hB
theorem OwS.rd {w : World} {B : Nat} {A : Option Addr} {c : Nat} {s : List (Int × Int)} (h : OwS w B (.slice A s.length c) s) : Rd w w.heap.size 2 A s.length (fl s) := Rd.of_own h

set_option maxRecDepth 100000 in
set_option maxHeartbeats 2000000 in
theorem chPairs_any (B : Nat) (A : Option Addr) (c k : Nat) (l : List Int) (w : World) (hl : l.length ≤ 41) (hk : k < l.length) (hrng : ∀ i, i < l.length → 1 ≤ l.getD i 0 ∧ l.getD i 0 ≤ 1000000) (hasc : Asc l) (hB : B ≤ w.heap.size) (hr : Rd w B 1 A l.length (l.map I)) :
    Calls Tryd.prog 56 #[.slice A l.length c, .int .i64 k] w fun e w' =>
      ∃ A' c', e = .returned (.slice A' (prs l k k).length c') ∧ OwS w' w.heap.size (.slice A' (prs l k k).length c') (prs l k k) ∧ Below w.heap.size w w' := by
  obtain ⟨b, off, rfl, hbB, hc⟩ := hr.cells (by omega)
  have RNG := Lib.hid hrng
  have ASC := Lib.hid hasc
  have HC := Lib.hid hc
  clear hr hrng hc hasc
  obtain ⟨z, hz⟩ : ∃ z, l.getD k 0 = z := ⟨_, rfl⟩
  have hzr := RNG.out k hk
  rw [hz] at hzr
  have HZ := Lib.hid hz
  clear hz
  go_enter Tryd.func56, Tryd.ntmps56
  go_wp2
  go_loopw [5, 6] (fun ov jv wr => ∃ (j n : Nat) (A1 : Option Addr) (c1 : Nat), j ≤ k ∧ jv = .int .i64 j ∧ ov = .slice A1 n c1 ∧ n = (prs l k j).length ∧ OwS wr w.heap.size (.slice A1 n c1) (prs l k j) ∧ Below w.heap.size w wr) (fun _ j _ => k - (intOf j).toNat)
  case atStart => exact ⟨0, 0, none, 0, by omega, rfl, rfl, rfl, OwS.nil _ _, Below.refl _ _⟩
  case round =>
    obtain ⟨j, n, A1, c1, hj, rfl, rfl, hn, hown, hbel⟩ := hrel
    have OWN := Lib.hid hown
    have BEL := Lib.hid hbel
    have HN := Lib.hid hn
    clear hown hbel hn
    by_cases hlt : j < k
    · obtain ⟨y, hy⟩ : ∃ y, l.getD j 0 = y := ⟨_, rfl⟩
      have hyr := RNG.out j (by omega)
      rw [hy] at hyr
      have HY := Lib.hid hy
      clear hy
      go_wp2
      go_loopw [5, 7] (fun ov iv wq => ∃ (i m : Nat) (A2 : Option Addr) (c2 : Nat), i ≤ j + 1 ∧ iv = .int .i64 i ∧ ov = .slice A2 m c2 ∧ m = (prs l k j ++ prsI l k j i).length ∧ OwS wq w.heap.size (.slice A2 m c2) (prs l k j ++ prsI l k j i) ∧ Below w.heap.size w wq) (fun _ i _ => j + 1 - (intOf i).toNat)
      case atStart => exact ⟨0, n, A1, c1, by omega, rfl, rfl, by rw [prsI_zero, List.append_nil]; exact HN.out, by rw [prsI_zero, List.append_nil]; exact OWN.out, BEL.out⟩
      case round =>
        obtain ⟨i, m, A2, c2, hi, rfl, rfl, hm, hown2, hbel2⟩ := hrel
        have OW2 := Lib.hid hown2
        have BE2 := Lib.hid hbel2
        have HM := Lib.hid hm
        have hs2 : w.heap.size ≤ wr.heap.size := hbel2.size
        have hmb : m ≤ 100 := by
          rw [hm, List.length_append]
          have h1 := prs_le ASC.out k j (by omega)
          have h2 := prsI_le l k j i
          omega
        clear hown2 hbel2 hm
        by_cases hle : i ≤ j
        · obtain ⟨x, hx⟩ : ∃ x, l.getD i 0 = x := ⟨_, rfl⟩
          have hxr := RNG.out i (by omega)
          rw [hx] at hxr
          have HX := Lib.hid hx
          clear hx
          have ci := (BE2.out.cell (p := ⟨b, off + i, none⟩) (by simp only []; omega)).trans (HC.out i (by omega))
          have cj := (BE2.out.cell (p := ⟨b, off + j, none⟩) (by simp only []; omega)).trans (HC.out j (by omega))
          have ck := (BE2.out.cell (p := ⟨b, off + k, none⟩) (by simp only []; omega)).trans (HC.out k (by omega))
          rw [HX.out] at ci
          rw [HY.out] at cj
          rw [HZ.out] at ck
          have ii : (i : Int) < (l.length : Int) := by omega
          have ij : (j : Int) < (l.length : Int) := by omega
          have ik : (k : Int) < (l.length : Int) := by omega
          have hsum : IntKind.i64.wrap (x + y) = x + y := IntWalk.i64_in _ (by omega)
          by_cases hq : x + y = z
          · replace hsum := hsum.trans hq
            have HQ := Lib.hid (prsI_hit (l := l) (k := k) (j := j) (n := i) (by rw [HX.out, HY.out, HZ.out]; exact hq))
            clear hq
            go_wp2
            refine wp_region_Tw [0, 1, 2, 3, 4, 5, 6, 7, 8, 9, 10, 11, 12, 13] [3, 7, 12] (.lp 0 (.lp 1 (.lp 2 (.lp 4 (.lp 5 (.lp 6 (.lp 9 (.lp 10 (.lp 11 (.ls 3 (.ls 7 (.lp 8 (.ls 12 (.lp 13 (.done))))))))))))))) (by kernel_rfl) (by kernel_rfl) ?_
            (repeat (first | (refine T_lp rfl (fun K hK => ?_); go_simp; refine hK _ ?_; clear hK K) | (refine T_ls rfl rfl (fun K hK => ?_); go_simp; refine hK _ ?_; clear hK K)))
            refine T_done ?_
            go_wp2_with (at_builtin; refine list_step (fun K hK => ?_); refine step_app2 Tryd.underlying32 info_step rfl (by omega) rfl (.tmp 32) (.tmp 36) rfl w.heap.size m _ (fl (prs l k j ++ prsI l k j i)) rfl (World.ownsRow.alloc (by have h := OW2.out; unfold OwS at h; rw [← HM.out] at h; exact h) _) wr.heap.size 1 (I (i : Int)) (I (j : Int)) rfl (by simp) (by simp) rfl rfl (by omega) (by simp; omega) ?_; intro A3 c3 w3 hown3 hg3 hbel3; go_simp; refine hK _ _ ?_; clear hK K)
            go_roundw
            case rel =>
              refine ⟨i + 1, m + 1, A3, c3, by omega, by go_num, rfl, ?_, ?_, ((BE2.out.alloc hs2 _).drew).trans hbel3⟩
              · rw [HQ.out, ← List.append_assoc, List.length_append, ← HM.out]; rfl
              · rw [HQ.out, ← List.append_assoc]
                unfold OwS
                rw [fl_snoc, List.length_append, ← HM.out]
                exact hown3
            case measure => simp [intOf]; omega
          · have HQ := Lib.hid (prsI_miss (l := l) (k := k) (j := j) (n := i) (by rw [HX.out, HY.out, HZ.out]; exact hq))
            have hqb : (x + y == z) = false := by simpa using hq
            go_wp2
            refine wp_region_Tw [0, 1, 2, 3, 4, 5, 6, 7, 8, 9, 10, 11, 12, 13] [3, 7, 12] (.lp 0 (.lp 1 (.lp 2 (.lp 4 (.lp 5 (.lp 6 (.lp 9 (.lp 10 (.lp 11 (.ls 3 (.ls 7 (.lp 8 (.ls 12 (.lp 13 (.done))))))))))))))) (by kernel_rfl) (by kernel_rfl) ?_
            (repeat (first | (refine T_lp rfl (fun K hK => ?_); go_simp; refine hK _ ?_; clear hK K) | (refine T_ls rfl rfl (fun K hK => ?_); go_simp; refine hK _ ?_; clear hK K)))
            refine T_done ?_
            go_wp2
            go_roundw
            case rel => exact ⟨i + 1, m, A2, c2, by omega, by go_num, rfl, by rw [HQ.out]; exact HM.out, by rw [HQ.out]; exact OW2.out, BE2.out.drew⟩
            case measure => simp [intOf]; omega
        · have e : i = j + 1 := by omega
          subst e
          go_wp2
          go_roundw
          case rel => exact ⟨j + 1, m, A2, c2, by omega, by go_num, rfl, by rw [prs_succ]; exact HM.out, by rw [prs_succ]; exact OW2.out, BE2.out⟩
          case measure => simp [intOf]; omega
    · have e : j = k := by omega
      subst e
      go_wp2
      go_ret
      have hn := HN.out
      subst hn
      exact ⟨A1, c1, rfl, OWN.out, BEL.out⟩
end Go.Proofs.YtbbjgcagkmlngadDoor
