/- Whether a list is a chain, and its steps, by the program. -/
import Derived.Test.YtbbjgcagkmlngadDoorQf
namespace Go.Proofs.YtbbjgcagkmlngadDoor
open Go.RowKit

/-- The steps that are answered: of no chain none. -/
def chS (l : List Int) : List (Int × Int) := if chG l then stepsK l l.length else []
theorem chS_true {l : List Int} (h : chG l = true) : chS l = stepsK l l.length := by unfold chS; rw [if_pos h]
theorem chS_false {l : List Int} (h : chG l = false) : chS l = [] := by unfold chS; rw [h]; rfl
theorem chS_le (l : List Int) : (chS l).length ≤ 1000 := by
  unfold chS
  split
  · rename_i h
    rw [stepsK_length]
    have := (chG_chn h).most
    omega
  · simp
theorem may_false {l : List Int} {k : Nat} (hk : k + 1 < l.length) (h : l.getD (k + 1) 0 ≤ l.getD k 0) : chB l = false := by
  unfold chB
  rw [risB_false (l := l) (lo := 1) (hi := 1000000) (k := k + 1) l.length hk (by
    rw [show k + 1 - 1 = k from rfl]
    have h1 : decide (l.getD k 0 < l.getD (k + 1) 0) = false := by rw [decide_eq_false_iff_not]; omega
    rw [h1]
    simp), Bool.and_false]
theorem may_end {l : List Int} (h1 : 1 ≤ l.length) (h2 : l.length ≤ 41) (h3 : l.getD 0 0 = 1) (h : ∀ i, i + 1 < l.length → l.getD i 0 < l.getD (i + 1) 0) : chB l = decide (l.getD (l.length - 1) 0 ≤ 1000000) := by
  have hup : ∀ j, j < l.length → ∀ i, i ≤ j → l.getD i 0 ≤ l.getD j 0 := by
    intro j
    induction j with
    | zero => intro _ i hi; rw [show i = 0 by omega]; exact Int.le_refl _
    | succ j ih =>
      intro hj i hi
      rcases Nat.lt_or_eq_of_le hi with hi | rfl
      · have := ih (by omega) i (by omega)
        have := h j hj
        omega
      · exact Int.le_refl _
  by_cases hle : l.getD (l.length - 1) 0 ≤ 1000000
  · rw [decide_eq_true hle]
    unfold chB
    rw [risB_of l.length (fun i hi => ⟨by have := hup i hi 0 (by omega); rw [h3] at this; exact this, by have := hup (l.length - 1) (by omega) i (by omega); omega⟩) h, h3]
    unfold inB
    rw [decide_eq_true (show (1 : Int) ≤ ((l.length : Nat) : Int) by omega), decide_eq_true (show ((l.length : Nat) : Int) ≤ 41 by omega)]
    rfl
  · rw [decide_eq_false hle]
    unfold chB
    rw [risB_false (l := l) (lo := 1) (hi := 1000000) (k := l.length - 1) l.length (by omega) (by
      unfold inB
      rw [decide_eq_false hle]
      simp), Bool.and_false]

/-- The last number of a list. -/
theorem endOf_any (B : Nat) (A : Option Addr) (c : Nat) (l : List Int) (w : World) (h1 : 1 ≤ l.length) (hl : l.length ≤ 1048576) (hr : Rd w B 1 A l.length (l.map I)) :
    Calls Tryd.prog 100 #[.slice A l.length c] w fun e w' => e = .returned (.int .i64 (l.getD (l.length - 1) 0)) ∧ w' = w := by
  obtain ⟨b, off, rfl, hbB, hc⟩ := hr.cells (by omega)
  have c1 := hc (l.length - 1) (by omega)
  obtain ⟨N, hN⟩ : ∃ N, l.length = N + 1 := ⟨l.length - 1, by omega⟩
  have hsub : IntKind.i64.wrap ((l.length : Int) - 1) = (N : Int) := by rw [IntWalk.i64_in _ (by omega)]; omega
  rw [show l.length - 1 = N by omega] at c1 ⊢
  have i1 : (N : Int) < (l.length : Int) := by omega
  obtain ⟨y, hy⟩ : ∃ y, l.getD N 0 = y := ⟨_, rfl⟩
  rw [hy] at c1 ⊢
  clear hc hr hy hN
  go_enter Tryd.func100, Tryd.ntmps100
  go_wp2
  go_ret
  exact ⟨rfl, rfl⟩

set_option maxRecDepth 100000 in
set_option maxHeartbeats 2000000 in
theorem mayBeChain_any (B : Nat) (A : Option Addr) (c : Nat) (l : List Int) (w : World) (hl : l.length ≤ 1048576) (hr : Rd w B 1 A l.length (l.map I)) :
    Calls Tryd.prog 75 #[.slice A l.length c] w fun e w' => e = .returned (.bool (chB l)) ∧ Dr w w' := by
  have H := Lib.hid hr
  clear hr
  by_cases h0 : l.length < 1
  · have i0 : (l.length : Int) < 1 := by omega
    have G := Lib.hid (show chB l = false by unfold chB inB; rw [decide_eq_false (show ¬ (1 : Int) ≤ ((l.length : Nat) : Int) by omega)]; rfl)
    go_enter Tryd.func75, Tryd.ntmps75
    go_wp2
    go_ret
    exact ⟨ret_bool G.out.symm, Dr.refl _⟩
  by_cases h41 : 41 < l.length
  · have i0 : ¬ (l.length : Int) < 1 := by omega
    have i1 : (41 : Int) < (l.length : Int) := by omega
    have G := Lib.hid (show chB l = false by unfold chB inB; rw [decide_eq_false (show ¬ ((l.length : Nat) : Int) ≤ 41 by omega)]; simp)
    go_enter Tryd.func75, Tryd.ntmps75
    go_wp2
    go_ret
    exact ⟨ret_bool G.out.symm, Dr.refl _⟩
  have i0 : ¬ (l.length : Int) < 1 := by omega
  have i1 : ¬ (41 : Int) < (l.length : Int) := by omega
  have ip : (0 : Int) < (l.length : Int) := by omega
  obtain ⟨b, off, rfl, hbB, hc⟩ := H.out.cells (by omega)
  have HC := Lib.hid hc
  have hc0 := hc 0 (by omega)
  rw [Nat.add_zero] at hc0
  obtain ⟨x, hx⟩ : ∃ x, l.getD 0 0 = x := ⟨_, rfl⟩
  rw [hx] at hc0
  clear hc
  by_cases h1 : x = 1
  case neg =>
    have G := Lib.hid (show chB l = false by unfold chB; rw [hx, (show (x == 1) = false by simpa using h1)]; simp)
    have h2b : (x != 1) = true := by simpa using h1
    clear hx h1
    go_enter Tryd.func75, Tryd.ntmps75
    go_wp2
    go_ret
    exact ⟨ret_bool G.out.symm, Dr.refl _⟩
  case pos =>
  subst h1
  have HX := Lib.hid hx
  clear hx
  obtain ⟨N, hN⟩ : ∃ N, l.length = N + 1 := ⟨l.length - 1, by omega⟩
  have hsub : IntKind.i64.wrap ((l.length : Int) - 1) = (N : Int) := by rw [IntWalk.i64_in _ (by omega)]; omega
  have HN := Lib.hid hN
  clear hN
  go_enter Tryd.func75, Tryd.ntmps75
  go_wp2
  go_loopw [21] (fun i wr => ∃ k n : Nat, k ≤ N ∧ i = .int .i64 k ∧ wr = w.drewN n ∧ ∀ t, t < k → l.getD t 0 < l.getD (t + 1) 0) (fun i _ => N - (intOf i).toNat)
  case atStart => exact ⟨0, 0, by omega, rfl, rfl, fun t h => absurd h (by omega)⟩
  case round =>
    obtain ⟨k, n, hk, rfl, rfl, hq⟩ := hrel
    have Q := Lib.hid hq
    clear hq
    by_cases hlt : k < N
    · have ik : (k : Int) < (N : Int) := by have := HN.out; omega
      have ikl : (k : Int) < (l.length : Int) := by have := HN.out; omega
      have ikl1 : (k : Int) + 1 < (l.length : Int) := by have := HN.out; omega
      have c1 := HC.out k (by have := HN.out; omega)
      have c2 := HC.out (k + 1) (by have := HN.out; omega)
      have hw1 : IntKind.i64.wrap ((k : Int) + 1) = (k : Int) + 1 := IntWalk.i64_in _ (by have := HN.out; omega)
      have htn : ((k : Int) + 1).toNat = k + 1 := by have := HN.out; omega
      have h01 : (0 : Int) ≤ (k : Int) + 1 := by have := HN.out; omega
      obtain ⟨y, hy⟩ : ∃ y, l.getD k 0 = y := ⟨_, rfl⟩
      obtain ⟨z, hz⟩ : ∃ z, l.getD (k + 1) 0 = z := ⟨_, rfl⟩
      rw [hy] at c1
      rw [hz] at c2
      by_cases hyz : z ≤ y
      · have G := Lib.hid (may_false (l := l) (k := k) (by have := HN.out; omega) (by rw [hy, hz]; exact hyz))
        clear hy hz
        go_wp2
        refine wp_region_Tw [0, 1, 2, 3, 4, 5, 6, 7, 8, 9] [3, 8] (.lp 0 (.lp 1 (.lp 2 (.lp 4 (.lp 5 (.lp 6 (.lp 7 (.ls 3 (.ls 8 (.lp 9 (.done))))))))))) (by kernel_rfl) (by kernel_rfl) ?_
        (repeat (first | (refine T_lp rfl (fun K hK => ?_); go_simp; refine hK _ ?_; clear hK K) | (refine T_ls rfl rfl (fun K hK => ?_); go_simp; refine hK _ ?_; clear hK K)))
        refine T_done ?_
        go_wp2
        go_ret
        exact ⟨ret_bool G.out.symm, ⟨n + 1, rfl⟩⟩
      · have G := Lib.hid (show ∀ t, t < k + 1 → l.getD t 0 < l.getD (t + 1) 0 from fun t ht => by
          rcases Nat.lt_or_eq_of_le (Nat.le_of_lt_succ ht) with h | rfl
          · exact Q.out t h
          · rw [hy, hz]; omega)
        clear hy hz
        go_wp2
        refine wp_region_Tw [0, 1, 2, 3, 4, 5, 6, 7, 8, 9] [3, 8] (.lp 0 (.lp 1 (.lp 2 (.lp 4 (.lp 5 (.lp 6 (.lp 7 (.ls 3 (.ls 8 (.lp 9 (.done))))))))))) (by kernel_rfl) (by kernel_rfl) ?_
        (repeat (first | (refine T_lp rfl (fun K hK => ?_); go_simp; refine hK _ ?_; clear hK K) | (refine T_ls rfl rfl (fun K hK => ?_); go_simp; refine hK _ ?_; clear hK K)))
        refine T_done ?_
        go_wp2
        go_roundw
        case rel => exact ⟨k + 1, _, by have := HN.out; omega, by go_num, rfl, G.out⟩
        case measure => simp [intOf]; omega
    · have e : k = N := by have := HN.out; omega
      subst e
      have c1 := HC.out k (by have := HN.out; omega)
      obtain ⟨y, hy⟩ : ∃ y, l.getD k 0 = y := ⟨_, rfl⟩
      rw [hy] at c1
      have ikl : (k : Int) < (l.length : Int) := by have := HN.out; omega
      have G := Lib.hid (show chB l = decide (y ≤ 1000000) by
        rw [may_end (by have := HN.out; omega) (by have := HN.out; omega) HX.out (fun t ht => Q.out t (by have := HN.out; omega)), show l.length - 1 = k by have := HN.out; omega, hy])
      have HE := Lib.hid (endOf_any B (some ⟨b, off, none⟩) c l (w.drewN n) (by omega) hl (H.out.drewN n))
      have HY := Lib.hid (show l.getD (l.length - 1) 0 = y by rw [show l.length - 1 = k by have := HN.out; omega]; exact hy)
      clear hy
      go_wp2_with (go_at_call 100; refine HE.out.mono ?_; rw [HY.out]; rintro e w' ⟨rfl, rfl⟩)
      go_ret
      exact ⟨ret_bool G.out.symm, Dr.mk _ _⟩

set_option maxRecDepth 100000 in
set_option maxHeartbeats 2000000 in
theorem implSteps_any (B : Nat) (A : Option Addr) (c : Nat) (l : List Int) (w : World) (hB : B ≤ w.heap.size) (hl : l.length ≤ 1048576) (hcap : l.length ≤ c) (hr : Rd w B 1 A l.length (l.map I)) :
    Calls Tryd.prog 58 #[.slice A l.length c] w fun e w' =>
      ∃ A' c', e = .returned (.tuple #[.slice A' (chS l).length c', .bool (chG l)]) ∧ OwS w' w.heap.size (.slice A' (chS l).length c') (chS l) ∧ Below w.heap.size w w' := by
  have H := Lib.hid hr
  have hM := mayBeChain_any B A c l w hl hr
  clear hr
  cases hq : chB l with
  | false =>
    have G := Lib.hid (show chG l = false by unfold chG; rw [hq]; rfl)
    rw [hq] at hM
    have HM := Lib.hid hM
    clear hM hq
    go_enter Tryd.func58, Tryd.ntmps58
    go_wp2_with (go_at_call 75; refine HM.out.mono ?_; rintro e w2 ⟨rfl, ⟨n, rfl⟩⟩)
    go_ret2
    exact ⟨none, 0, by rw [G.out, chS_false G.out]; rfl, by rw [chS_false G.out]; exact OwS.nil _ _, bDrewN (Below.refl _ _) n⟩
  | true =>
    have CH := Lib.hid (chn_of hq)
    have G := Lib.hid (show ∀ b, sumsB l l.length = b → chG l = b from fun b hb => by unfold chG; rw [hq, hb]; rfl)
    have hl1 := CH.out.pos
    have hl2 := CH.out.most
    rw [hq] at hM
    have HM := Lib.hid hM
    clear hM hq
    go_enter Tryd.func58, Tryd.ntmps58
    go_wp2_with (go_at_call 75; refine HM.out.mono ?_; rintro e w2 ⟨rfl, ⟨n, rfl⟩⟩)
    go_loopw [4, 5] (fun ov iv wr => ∃ (k n : Nat) (A1 : Option Addr) (c1 : Nat), 1 ≤ k ∧ k ≤ l.length ∧ iv = .int .i64 k ∧ ov = .slice A1 n c1 ∧ n = k - 1 ∧ sumsB l k = true ∧ wr.ownsRow w.heap.size 61 2 (.slice A1 n c1) n (fl (stepsK l k)) ∧ Below w.heap.size w wr) (fun _ i _ => l.length - (intOf i).toNat)
    case atStart => exact ⟨1, 0, none, 0, by omega, by omega, rfl, rfl, rfl, sumsB_one l, World.ownsRow_nil _ _ _ _, bDrewN (Below.refl _ _) n⟩
    case round =>
      obtain ⟨k, m, A1, c1, hk1, hk, rfl, rfl, hn, hsum, hown, hbel⟩ := hrel
      have OWN := Lib.hid hown
      have BEL := Lib.hid hbel
      have SU := Lib.hid hsum
      have hs : w.heap.size ≤ wr.heap.size := hbel.size
      clear hown hbel hsum
      by_cases hlt : k < l.length
      · have ik : (k : Int) < (l.length : Int) := by omega
        have hP := sumsOf_any B A c k l wr CH.out hlt hcap (by omega) (H.out.below' BEL.out hB)
        have hle := prs_le CH.out.asc k k (by omega)
        have SUC := Lib.hid (stepsK_succ l k hk1)
        have hS1 := sumsB_succ l k
        obtain ⟨P, hP'⟩ : ∃ P, prs l k k = P := ⟨_, rfl⟩
        by_cases he : P = []
        · have S := Lib.hid (G.out _ (sumsB_false l.length hlt (by omega) (by rw [hP', he])))
          rw [hP', he] at hP
          have HP := Lib.hid hP
          clear hP he hP' hle SUC hS1
          go_wp2_with (go_at_call 76; refine HP.out.mono ?_; rintro e w2 ⟨A', c', rfl, _, hb2⟩)
          go_ret2
          exact ⟨none, 0, by rw [S.out, chS_false S.out]; rfl, by rw [chS_false S.out]; exact OwS.nil _ _, BEL.out.trans (hb2.mono hs)⟩
        · have hpos := List.length_pos_iff.2 he
          rw [hP'] at hP hle SUC hS1
          rw [isEmpty_ne he, SU.out] at hS1
          have S := Lib.hid (show sumsB l (k + 1) = true by rw [hS1]; simp)
          obtain ⟨q, hq⟩ : ∃ q, P.length = q + 1 := ⟨P.length - 1, by omega⟩
          have hqb : q ≤ 41 := by omega
          rw [hq] at hP
          have HP := Lib.hid hP
          have HQ := Lib.hid hq
          have HN := Lib.hid hn
          have iq0 : ¬ ((q : Int) + 1 = 0) := by omega
          clear hP he hP' hpos hq hn hS1
          go_wp2_with fail
          go_at_call 76
          refine HP.out.mono ?_
          rintro e w2 ⟨A', c', rfl, hown2, hb2⟩
          obtain ⟨g, x, y, rfl, hgB, hgs, cx, cy, hlast⟩ := OwS.last hown2 HQ.out
          have LAST := Lib.hid hlast
          have hs2 : wr.heap.size ≤ w2.heap.size := hb2.size
          have OW2 := Lib.hid (own_below OWN.out hb2)
          have BE2 := Lib.hid (BEL.out.trans (hb2.mono hs))
          have iq : (q : Int) < (q : Int) + 1 := by omega
          have hn40 : m ≤ 40 := by have := HN.out; omega
          clear hown2 hb2 hlast
          go_wp2_with (at_builtin; refine list_step (fun K hK => ?_); refine step_app2 Tryd.underlying32 info_step rfl (by omega) rfl (.tmp 22) (.tmp 29) rfl w.heap.size m _ (fl (stepsK l k)) rfl (World.ownsRow.alloc OW2.out _) w2.heap.size 1 (I x) (I y) rfl (by simp) (by simp) rfl rfl (by omega) (by simp; omega) ?_; intro A3 c3 w3 hown3 hg3 hbel3; go_simp; refine hK _ _ ?_; clear hK K)
          go_roundw
          case rel =>
            refine ⟨k + 1, m + 1, A3, c3, by omega, by omega, by go_num, rfl, by have := HN.out; omega, S.out, ?_, (BE2.out.alloc (by omega) _).trans hbel3⟩
            rw [SUC.out, LAST.out, fl_snoc]
            exact hown3
          case measure => simp [intOf]; omega
      · have e : k = l.length := by omega
        subst e
        subst hn
        have S := Lib.hid (G.out _ SU.out)
        go_wp2
        go_ret2
        refine ⟨A1, c1, by rw [S.out, chS_true S.out, stepsK_length]; rfl, ?_, BEL.out⟩
        rw [chS_true S.out]
        unfold OwS
        rw [stepsK_length]
        exact OWN.out

set_option maxHeartbeats 1000000 in
theorem implIsChain_any (B : Nat) (A : Option Addr) (c : Nat) (l : List Int) (w : World) (hB : B ≤ w.heap.size) (hl : l.length ≤ 1048576) (hcap : l.length ≤ c) (hr : Rd w B 1 A l.length (l.map I)) :
    Calls Tryd.prog 27 #[.slice A l.length c] w fun e w' => e = .returned (.bool (chG l)) ∧ Below w.heap.size w w' := by
  have hS := implSteps_any B A c l w hB hl hcap hr
  have HS := Lib.hid hS
  clear hS hr
  go_enter Tryd.func27, Tryd.ntmps27
  go_wp2_with (go_at_call 58; refine HS.out.mono ?_; rintro e w2 ⟨A', c', rfl, _, hb2⟩)
  go_ret
  exact ⟨rfl, hb2⟩
end Go.Proofs.YtbbjgcagkmlngadDoor
