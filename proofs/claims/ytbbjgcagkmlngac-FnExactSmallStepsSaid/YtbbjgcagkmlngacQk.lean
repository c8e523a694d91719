/- Small steps of a chain. -/
import Derived.Test.YtbbjgcagkmlngacQg
import Derived.Test.YtbbjgcagkmlngacQj
namespace Go.Proofs.Ytbbjgcagkmlngac
open Go.RowKit

def smK (l : List Int) (k : Nat) : Nat := ((List.range k).filter fun i => bl (l.getD (i + 1) 0) == bl (l.getD i 0)).length
theorem smK_hit {l : List Int} {k : Nat} (h : bl (l.getD (k + 1) 0) = bl (l.getD k 0)) : smK l (k + 1) = smK l k + 1 := by
  unfold smK
  have e : (bl (l.getD (k + 1) 0) == bl (l.getD k 0)) = true := by simpa only [beq_iff_eq] using h
  rw [List.range_succ, List.filter_append, List.length_append]
  simp only [List.filter_cons, List.filter_nil, e]
  rfl
theorem smK_miss {l : List Int} {k : Nat} (h : ¬ bl (l.getD (k + 1) 0) = bl (l.getD k 0)) : smK l (k + 1) = smK l k := by
  unfold smK
  have e : (bl (l.getD (k + 1) 0) == bl (l.getD k 0)) = false := by simpa only [beq_eq_false_iff_ne] using h
  rw [List.range_succ, List.filter_append, List.length_append]
  simp only [List.filter_cons, List.filter_nil, e]
  simp
theorem smK_le (l : List Int) (k : Nat) : smK l k ≤ k := by
  unfold smK
  exact Nat.le_trans (List.length_filter_le _ _) (by simp)
def smS (l : List Int) : Int := if chG l then (smK l (l.length - 1) : Int) else 0
theorem smS_true {l : List Int} (h : chG l = true) : smS l = (smK l (l.length - 1) : Int) := by unfold smS; rw [if_pos h]
theorem smS_false {l : List Int} (h : chG l = false) : smS l = 0 := by unfold smS; rw [h]; rfl

set_option maxRecDepth 100000 in
set_option maxHeartbeats 2000000 in
theorem specSmall_any (B : Nat) (A : Option Addr) (c : Nat) (l : List Int) (w : World) (hB : B ≤ w.heap.size) (hl : l.length ≤ 1048576) (_hcap : l.length ≤ c) (hr : Rd w B 1 A l.length (l.map I)) :
    Calls Try.prog 30 #[.slice A l.length c] w fun e w' => e = .returned (.tuple #[.int .i64 (smS l), .bool (chG l)]) ∧ Below w.heap.size w w' := by
  have hS := chGood_any B A c l w hl hB hr
  cases hg : chG l with
  | false =>
    rw [hg] at hS
    have HS := Lib.hid hS
    have GG := Lib.hid hg
    clear hS hr hg
    go_enter Try.func30, Try.ntmps30
    go_wp2_with (go_at_call 49; refine HS.out.mono ?_; rintro e w2 ⟨rfl, hb2⟩)
    go_ret2
    exact ⟨by rw [smS_false GG.out]; rfl, hb2⟩
  | true =>
    rw [hg] at hS
    have HS := Lib.hid hS
    have GG := Lib.hid hg
    have CH := Lib.hid (chG_chn hg)
    have hl1 := CH.out.pos
    have hl2 := CH.out.most
    obtain ⟨b, off, rfl, hbB, hc⟩ := hr.cells (by omega)
    have HC := Lib.hid hc
    clear hS hr hg hc
    go_enter Try.func30, Try.ntmps30
    go_wp2_with (go_at_call 49; refine HS.out.mono ?_; rintro e w2 ⟨rfl, hb2⟩)
    have HB2 := Lib.hid hb2
    clear hb2
    go_loopw [4, 5] (fun nv iv wr => ∃ (k n : Nat), k + 1 ≤ l.length ∧ iv = .int .i64 ((k : Int) + 1) ∧ nv = .int .i64 n ∧ n = smK l k ∧ Below w.heap.size w wr) (fun _ i _ => l.length - (intOf i).toNat)
    case atStart => exact ⟨0, 0, by omega, rfl, rfl, rfl, HB2.out⟩
    case round =>
      obtain ⟨k, n, hk, rfl, rfl, hn, hbel⟩ := hrel
      have BEL := Lib.hid hbel
      have HN := Lib.hid hn
      have hs : w.heap.size ≤ wr.heap.size := hbel.size
      have hnb : n ≤ 41 := by rw [hn]; exact Nat.le_trans (smK_le l k) (by omega)
      clear hbel hn
      have ik0 : (0 : Int) ≤ (k : Int) + 1 := by omega
      have htn : ((k : Int) + 1).toNat = k + 1 := by omega
      by_cases hlt : k + 1 < l.length
      · have ik : (k : Int) + 1 < (l.length : Int) := by omega
        have ik' : (k : Int) < (l.length : Int) := by omega
        have ck1 := (BEL.out.cell (p := ⟨b, off + (k + 1), none⟩) (by simp only []; omega)).trans (HC.out (k + 1) hlt)
        have ck := (BEL.out.cell (p := ⟨b, off + k, none⟩) (by simp only []; omega)).trans (HC.out k (by omega))
        have r1 := CH.out.rng (k + 1) hlt
        have r2 := CH.out.rng k (by omega)
        have hh := smK_hit (l := l) (k := k)
        have hm := smK_miss (l := l) (k := k)
        obtain ⟨y, hy⟩ : ∃ y, l.getD (k + 1) 0 = y := ⟨_, rfl⟩
        obtain ⟨x, hx⟩ : ∃ x, l.getD k 0 = x := ⟨_, rfl⟩
        rw [hy] at ck1 r1 hh hm
        rw [hx] at ck r2 hh hm
        have C1 := Lib.hid (fun W => chLength_any y W (by omega) r1.2)
        have C2 := Lib.hid (fun W => chLength_any x W (by omega) r2.2)
        have b1 : bl y ≤ 20 := bl_bd (by omega)
        have b2 : bl x ≤ 20 := bl_bd (by omega)
        clear hy hx r1 r2
        obtain ⟨p, hp⟩ : ∃ p, bl y = p := ⟨_, rfl⟩
        obtain ⟨q, hq⟩ : ∃ q, bl x = q := ⟨_, rfl⟩
        have C1' := C1.out
        have C2' := C2.out
        rw [hp] at C1' b1 hh hm
        rw [hq] at C2' b2 hh hm
        have D1 := Lib.hid C1'
        have D2 := Lib.hid C2'
        have hw0 : IntKind.i64.wrap ((k : Int) + 1 - 1) = (k : Int) := by rw [IntWalk.i64_in _ (by omega)]; omega
        have hw0' : IntKind.i64.wrap (k : Int) = (k : Int) := IntWalk.i64_in _ (by omega)
        clear hp hq C1 C2 C1' C2'
        by_cases he : p = q
        · have S := Lib.hid (hh he)
          subst he
          clear hh hm
          go_wp2
          refine wp_region_Tw [0, 1, 2, 3, 5, 6, 7, 8, 9, 11] [3, 9] (.lp 0 (.lp 1 (.lp 2 (.lp 5 (.lp 6 (.lp 7 (.lp 8 (.ls 3 (.ls 9 (.hv 4 (.hv 10 (.lp 11 (.done))))))))))))) (by kernel_rfl) (by kernel_rfl) ?_
          (repeat (first | (refine T_lp rfl (fun K hK => ?_); go_simp; refine hK _ ?_; clear hK K) | (refine T_ls rfl rfl (fun K hK => ?_); go_simp; refine hK _ ?_; clear hK K)))
          refine T_hvS rfl (fun K hK => ?_)
          go_simp
          go_at_call 56
          refine (D1.out _).mono ?_
          rintro e w' ⟨rfl, rfl⟩
          go_simp
          refine hK _ _ rfl ?_
          clear hK K
          (refine T_hv rfl (by kernel_rfl) (fun K hK => ?_); go_simp)
          go_at_call 56
          refine (D2.out _).mono ?_
          rintro e w' ⟨rfl, rfl⟩
          (go_simp; refine hK _ _ ?_; clear hK K)
          (repeat (first | (refine T_lp rfl (fun K hK => ?_); go_simp; refine hK _ ?_; clear hK K) | (refine T_ls rfl rfl (fun K hK => ?_); go_simp; refine hK _ ?_; clear hK K)))
          refine T_done ?_
          go_wp2
          go_roundw
          case rel => exact ⟨k + 1, n + 1, by omega, by go_num, by go_num, by rw [S.out, ← HN.out], BEL.out.drew⟩
          case measure => simp [intOf]; omega
        · have S := Lib.hid (hm he)
          have hne : ((p : Int) == (q : Int)) = false := by simp; omega
          clear hh hm he
          go_wp2
          refine wp_region_Tw [0, 1, 2, 3, 5, 6, 7, 8, 9, 11] [3, 9] (.lp 0 (.lp 1 (.lp 2 (.lp 5 (.lp 6 (.lp 7 (.lp 8 (.ls 3 (.ls 9 (.hv 4 (.hv 10 (.lp 11 (.done))))))))))))) (by kernel_rfl) (by kernel_rfl) ?_
          (repeat (first | (refine T_lp rfl (fun K hK => ?_); go_simp; refine hK _ ?_; clear hK K) | (refine T_ls rfl rfl (fun K hK => ?_); go_simp; refine hK _ ?_; clear hK K)))
          refine T_hvS rfl (fun K hK => ?_)
          go_simp
          go_at_call 56
          refine (D1.out _).mono ?_
          rintro e w' ⟨rfl, rfl⟩
          go_simp
          refine hK _ _ rfl ?_
          clear hK K
          (refine T_hv rfl (by kernel_rfl) (fun K hK => ?_); go_simp)
          go_at_call 56
          refine (D2.out _).mono ?_
          rintro e w' ⟨rfl, rfl⟩
          (go_simp; refine hK _ _ ?_; clear hK K)
          (repeat (first | (refine T_lp rfl (fun K hK => ?_); go_simp; refine hK _ ?_; clear hK K) | (refine T_ls rfl rfl (fun K hK => ?_); go_simp; refine hK _ ?_; clear hK K)))
          refine T_done ?_
          go_wp2
          go_roundw
          case rel => exact ⟨k + 1, n, by omega, by go_num, rfl, by rw [S.out, ← HN.out], BEL.out.drew⟩
          case measure => simp [intOf]; omega
      · have e : k + 1 = l.length := by omega
        have ik : ¬ (k : Int) + 1 < (l.length : Int) := by omega
        have E := Lib.hid (show smS l = (n : Int) by rw [smS_true GG.out, ← e, HN.out]; rfl)
        clear e
        go_wp2
        go_ret2
        exact ⟨by rw [E.out]; rfl, BEL.out⟩

set_option maxRecDepth 100000 in
set_option maxHeartbeats 2000000 in
theorem implSmall_any (B : Nat) (A : Option Addr) (c : Nat) (l : List Int) (w : World) (hB : B ≤ w.heap.size) (hl : l.length ≤ 1048576) (hcap : l.length ≤ c) (hr : Rd w B 1 A l.length (l.map I)) :
    Calls Try.prog 31 #[.slice A l.length c] w fun e w' => e = .returned (.tuple #[.int .i64 (smS l), .bool (chG l)]) ∧ Below w.heap.size w w' := by
  have hS := implIsChain_any B A c l w hB hl hcap hr
  cases hg : chG l with
  | false =>
    rw [hg] at hS
    have HS := Lib.hid hS
    have GG := Lib.hid hg
    clear hS hr hg
    go_enter Try.func31, Try.ntmps31
    go_wp2_with (go_at_call 17; refine HS.out.mono ?_; rintro e w2 ⟨rfl, hb2⟩)
    go_ret2
    exact ⟨by rw [smS_false GG.out]; rfl, hb2⟩
  | true =>
    rw [hg] at hS
    have HS := Lib.hid hS
    have GG := Lib.hid hg
    have CH := Lib.hid (chG_chn hg)
    have hl1 := CH.out.pos
    have hl2 := CH.out.most
    obtain ⟨b, off, rfl, hbB, hc⟩ := hr.cells (by omega)
    have HC := Lib.hid hc
    clear hS hr hg hc
    obtain ⟨N, hN⟩ : ∃ N, l.length = N + 1 := ⟨l.length - 1, by omega⟩
    have hsub : IntKind.i64.wrap ((l.length : Int) - 1) = (N : Int) := by rw [IntWalk.i64_in _ (by omega)]; omega
    have hN40 : N ≤ 40 := by omega
    have HNN := Lib.hid hN
    clear hN
    go_enter Try.func31, Try.ntmps31
    go_wp2_with (go_at_call 17; refine HS.out.mono ?_; rintro e w2 ⟨rfl, hb2⟩)
    have HB2 := Lib.hid hb2
    clear hb2
    go_loopw [4, 12] (fun nv iv wr => ∃ (k n : Nat), k ≤ N ∧ iv = .int .i64 k ∧ nv = .int .i64 n ∧ n = smK l k ∧ Below w.heap.size w wr) (fun _ i _ => N - (intOf i).toNat)
    case atStart => exact ⟨0, 0, by omega, rfl, rfl, rfl, HB2.out⟩
    case round =>
      obtain ⟨k, n, hk, rfl, rfl, hn, hbel⟩ := hrel
      have BEL := Lib.hid hbel
      have HN := Lib.hid hn
      have hs : w.heap.size ≤ wr.heap.size := hbel.size
      have hnb : n ≤ 41 := by rw [hn]; exact Nat.le_trans (smK_le l k) (by omega)
      clear hbel hn
      by_cases hlt : k < N
      · have hlt1 : k + 1 < l.length := by have := HNN.out; omega
        have ik : (k : Int) + 1 < (l.length : Int) := by omega
        have ik' : (k : Int) < (l.length : Int) := by omega
        have ik0 : (0 : Int) ≤ (k : Int) + 1 := by omega
        have htn : ((k : Int) + 1).toNat = k + 1 := by omega
        have hw1 : IntKind.i64.wrap ((k : Int) + 1) = (k : Int) + 1 := IntWalk.i64_in _ (by omega)
        have ck1 := (BEL.out.cell (p := ⟨b, off + (k + 1), none⟩) (by simp only []; omega)).trans (HC.out (k + 1) hlt1)
        have ck := (BEL.out.cell (p := ⟨b, off + k, none⟩) (by simp only []; omega)).trans (HC.out k (by omega))
        have r1 := CH.out.rng (k + 1) hlt1
        have r2 := CH.out.rng k (by omega)
        have hh := smK_hit (l := l) (k := k)
        have hm := smK_miss (l := l) (k := k)
        obtain ⟨y, hy⟩ : ∃ y, l.getD (k + 1) 0 = y := ⟨_, rfl⟩
        obtain ⟨x, hx⟩ : ∃ x, l.getD k 0 = x := ⟨_, rfl⟩
        rw [hy] at ck1 r1 hh hm
        rw [hx] at ck r2 hh hm
        have b1 : bl y ≤ 20 := bl_bd (by omega)
        have b2 : bl x ≤ 20 := bl_bd (by omega)
        have C1' : ∀ W, Calls Try.prog 57 #[.int .u64 y] W fun e w' => e = .returned (.int .i64 (bl y)) ∧ w' = W := fun W => bitsLen_any y W (by omega) (by omega)
        have C2' : ∀ W, Calls Try.prog 57 #[.int .u64 x] W fun e w' => e = .returned (.int .i64 (bl x)) ∧ w' = W := fun W => bitsLen_any x W (by omega) (by omega)
        have hu1 : IntKind.u64.wrap y = y := by rw [IntKind.wrap_u64]; omega
        have hu2 : IntKind.u64.wrap x = x := by rw [IntKind.wrap_u64]; omega
        clear hy hx r1 r2
        obtain ⟨p, hp⟩ : ∃ p, bl y = p := ⟨_, rfl⟩
        obtain ⟨q, hq⟩ : ∃ q, bl x = q := ⟨_, rfl⟩
        rw [hp] at C1' b1 hh hm
        rw [hq] at C2' b2 hh hm
        have D1 := Lib.hid C1'
        have D2 := Lib.hid C2'
        clear hp hq C1' C2'
        by_cases he : p = q
        · have S := Lib.hid (hh he)
          subst he
          clear hh hm
          go_wp2
          refine wp_region_Tw [0, 1, 2, 3, 4, 6, 7, 8, 9, 10, 11, 13] [3, 10] (.lp 0 (.lp 1 (.lp 2 (.lp 6 (.lp 7 (.lp 8 (.lp 9 (.ls 3 (.lp 4 (.ls 10 (.lp 11 (.hv 5 (.hv 12 (.lp 13 (.done))))))))))))))) (by kernel_rfl) (by kernel_rfl) ?_
          (repeat (first | (refine T_lp rfl (fun K hK => ?_); go_simp; refine hK _ ?_; clear hK K) | (refine T_ls rfl rfl (fun K hK => ?_); go_simp; refine hK _ ?_; clear hK K)))
          refine T_hvS rfl (fun K hK => ?_)
          go_simp
          go_at_call 57
          refine (D2.out _).mono ?_
          rintro e w' ⟨rfl, rfl⟩
          go_simp
          refine hK _ _ rfl ?_
          clear hK K
          (refine T_hv rfl (by kernel_rfl) (fun K hK => ?_); go_simp)
          go_at_call 57
          refine (D1.out _).mono ?_
          rintro e w' ⟨rfl, rfl⟩
          (go_simp; refine hK _ _ ?_; clear hK K)
          (repeat (first | (refine T_lp rfl (fun K hK => ?_); go_simp; refine hK _ ?_; clear hK K) | (refine T_ls rfl rfl (fun K hK => ?_); go_simp; refine hK _ ?_; clear hK K)))
          refine T_done ?_
          go_wp2
          go_roundw
          case rel => exact ⟨k + 1, n + 1, by omega, by go_num, by go_num, by rw [S.out, ← HN.out], BEL.out.drew⟩
          case measure => simp [intOf]; omega
        · have S := Lib.hid (hm he)
          have hne : ((q : Int) == (p : Int)) = false := by simp; omega
          clear hh hm he
          go_wp2
          refine wp_region_Tw [0, 1, 2, 3, 4, 6, 7, 8, 9, 10, 11, 13] [3, 10] (.lp 0 (.lp 1 (.lp 2 (.lp 6 (.lp 7 (.lp 8 (.lp 9 (.ls 3 (.lp 4 (.ls 10 (.lp 11 (.hv 5 (.hv 12 (.lp 13 (.done))))))))))))))) (by kernel_rfl) (by kernel_rfl) ?_
          (repeat (first | (refine T_lp rfl (fun K hK => ?_); go_simp; refine hK _ ?_; clear hK K) | (refine T_ls rfl rfl (fun K hK => ?_); go_simp; refine hK _ ?_; clear hK K)))
          refine T_hvS rfl (fun K hK => ?_)
          go_simp
          go_at_call 57
          refine (D2.out _).mono ?_
          rintro e w' ⟨rfl, rfl⟩
          go_simp
          refine hK _ _ rfl ?_
          clear hK K
          (refine T_hv rfl (by kernel_rfl) (fun K hK => ?_); go_simp)
          go_at_call 57
          refine (D1.out _).mono ?_
          rintro e w' ⟨rfl, rfl⟩
          (go_simp; refine hK _ _ ?_; clear hK K)
          (repeat (first | (refine T_lp rfl (fun K hK => ?_); go_simp; refine hK _ ?_; clear hK K) | (refine T_ls rfl rfl (fun K hK => ?_); go_simp; refine hK _ ?_; clear hK K)))
          refine T_done ?_
          go_wp2
          go_roundw
          case rel => exact ⟨k + 1, n, by omega, by go_num, rfl, by rw [S.out, ← HN.out], BEL.out.drew⟩
          case measure => simp [intOf]; omega
      · have e : k = N := by omega
        have E := Lib.hid (show smS l = (n : Int) by rw [smS_true GG.out, HNN.out, HN.out, e]; rfl)
        clear e
        go_wp2
        go_ret2
        exact ⟨by rw [E.out]; rfl, BEL.out⟩
end Go.Proofs.Ytbbjgcagkmlngac
