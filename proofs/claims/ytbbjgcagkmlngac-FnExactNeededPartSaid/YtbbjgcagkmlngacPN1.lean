/- Joined: Qg Qn0 Us Ut Uu Uv Ka Kb Kc Kd Ta Tb Qx. -/
import Derived.Test.YtbbjgcagkmlngacPN0
/- Whether a list is a chain, and its steps, by the program. -/
namespace Go.Proofs.Ytbbjgcagkmlngac
open Go.RowKit

/-- The steps that are answered: of no chain none. -/
def chS (l : List Int) : List (Int × Int) := if chG l then stepsK l l.length else []
theorem chS_true {l : List Int} (h : chG l = true) : chS l = stepsK l l.length := by unfold chS; rw [if_pos h]
theorem chS_false {l : List Int} (h : chG l = false) : chS l = [] := by unfold chS; rw [h]; rfl
theorem chS_le (l : List Int) : (chS l).length ≤ 1000 := by
  unfold chS
  split
  · rename_i h
    rw [stepsK_length]
    have := (chG_chn h).most
    omega
  · simp
theorem may_false {l : List Int} {k : Nat} (hk : k + 1 < l.length) (h : l.getD (k + 1) 0 ≤ l.getD k 0) : chB l = false := by
  unfold chB
  rw [risB_false (l := l) (lo := 1) (hi := 1000000) (k := k + 1) l.length hk (by
    rw [show k + 1 - 1 = k from rfl]
    have h1 : decide (l.getD k 0 < l.getD (k + 1) 0) = false := by rw [decide_eq_false_iff_not]; omega
    rw [h1]
    simp), Bool.and_false]
theorem may_end {l : List Int} (h1 : 1 ≤ l.length) (h2 : l.length ≤ 41) (h3 : l.getD 0 0 = 1) (h : ∀ i, i + 1 < l.length → l.getD i 0 < l.getD (i + 1) 0) : chB l = decide (l.getD (l.length - 1) 0 ≤ 1000000) := by
  have hup : ∀ j, j < l.length → ∀ i, i ≤ j → l.getD i 0 ≤ l.getD j 0 := by
    intro j
    induction j with
    | zero => intro _ i hi; rw [show i = 0 by omega]; exact Int.le_refl _
    | succ j ih =>
      intro hj i hi
      rcases Nat.lt_or_eq_of_le hi with hi | rfl
      · have := ih (by omega) i (by omega)
        have := h j hj
        omega
      · exact Int.le_refl _
  by_cases hle : l.getD (l.length - 1) 0 ≤ 1000000
  · rw [decide_eq_true hle]
    unfold chB
    rw [risB_of l.length (fun i hi => ⟨by have := hup i hi 0 (by omega); rw [h3] at this; exact this, by have := hup (l.length - 1) (by omega) i (by omega); omega⟩) h, h3]
    unfold inB
    rw [decide_eq_true (show (1 : Int) ≤ ((l.length : Nat) : Int) by omega), decide_eq_true (show ((l.length : Nat) : Int) ≤ 41 by omega)]
    rfl
  · rw [decide_eq_false hle]
    unfold chB
    rw [risB_false (l := l) (lo := 1) (hi := 1000000) (k := l.length - 1) l.length (by omega) (by
      unfold inB
      rw [decide_eq_false hle]
      simp), Bool.and_false]

/-- The last number of a list. -/
theorem endOf_any (B : Nat) (A : Option Addr) (c : Nat) (l : List Int) (w : World) (h1 : 1 ≤ l.length) (hl : l.length ≤ 1048576) (hr : Rd w B 1 A l.length (l.map I)) :
    Calls Try.prog 78 #[.slice A l.length c] w fun e w' => e = .returned (.int .i64 (l.getD (l.length - 1) 0)) ∧ w' = w := by
  obtain ⟨b, off, rfl, hbB, hc⟩ := hr.cells (by omega)
  have c1 := hc (l.length - 1) (by omega)
  obtain ⟨N, hN⟩ : ∃ N, l.length = N + 1 := ⟨l.length - 1, by omega⟩
  have hsub : IntKind.i64.wrap ((l.length : Int) - 1) = (N : Int) := by rw [IntWalk.i64_in _ (by omega)]; omega
  rw [show l.length - 1 = N by omega] at c1 ⊢
  have i1 : (N : Int) < (l.length : Int) := by omega
  obtain ⟨y, hy⟩ : ∃ y, l.getD N 0 = y := ⟨_, rfl⟩
  rw [hy] at c1 ⊢
  clear hc hr hy hN
  go_enter Try.func78, Try.ntmps78
  go_wp2
  go_ret
  exact ⟨rfl, rfl⟩

set_option maxRecDepth 100000 in
set_option maxHeartbeats 2000000 in
theorem mayBeChain_any (B : Nat) (A : Option Addr) (c : Nat) (l : List Int) (w : World) (hl : l.length ≤ 1048576) (hr : Rd w B 1 A l.length (l.map I)) :
    Calls Try.prog 51 #[.slice A l.length c] w fun e w' => e = .returned (.bool (chB l)) ∧ Dr w w' := by
  have H := Lib.hid hr
  clear hr
  by_cases h0 : l.length < 1
  · have i0 : (l.length : Int) < 1 := by omega
    have G := Lib.hid (show chB l = false by unfold chB inB; rw [decide_eq_false (show ¬ (1 : Int) ≤ ((l.length : Nat) : Int) by omega)]; rfl)
    go_enter Try.func51, Try.ntmps51
    go_wp2
    go_ret
    exact ⟨ret_bool G.out.symm, Dr.refl _⟩
  by_cases h41 : 41 < l.length
  · have i0 : ¬ (l.length : Int) < 1 := by omega
    have i1 : (41 : Int) < (l.length : Int) := by omega
    have G := Lib.hid (show chB l = false by unfold chB inB; rw [decide_eq_false (show ¬ ((l.length : Nat) : Int) ≤ 41 by omega)]; simp)
    go_enter Try.func51, Try.ntmps51
    go_wp2
    go_ret
    exact ⟨ret_bool G.out.symm, Dr.refl _⟩
  have i0 : ¬ (l.length : Int) < 1 := by omega
  have i1 : ¬ (41 : Int) < (l.length : Int) := by omega
  have ip : (0 : Int) < (l.length : Int) := by omega
  obtain ⟨b, off, rfl, hbB, hc⟩ := H.out.cells (by omega)
  have HC := Lib.hid hc
  have hc0 := hc 0 (by omega)
  rw [Nat.add_zero] at hc0
  obtain ⟨x, hx⟩ : ∃ x, l.getD 0 0 = x := ⟨_, rfl⟩
  rw [hx] at hc0
  clear hc
  by_cases h1 : x = 1
  case neg =>
    have G := Lib.hid (show chB l = false by unfold chB; rw [hx, (show (x == 1) = false by simpa using h1)]; simp)
    have h2b : (x != 1) = true := by simpa using h1
    clear hx h1
    go_enter Try.func51, Try.ntmps51
    go_wp2
    go_ret
    exact ⟨ret_bool G.out.symm, Dr.refl _⟩
  case pos =>
  subst h1
  have HX := Lib.hid hx
  clear hx
  obtain ⟨N, hN⟩ : ∃ N, l.length = N + 1 := ⟨l.length - 1, by omega⟩
  have hsub : IntKind.i64.wrap ((l.length : Int) - 1) = (N : Int) := by rw [IntWalk.i64_in _ (by omega)]; omega
  have HN := Lib.hid hN
  clear hN
  go_enter Try.func51, Try.ntmps51
  go_wp2
  go_loopw [21] (fun i wr => ∃ k n : Nat, k ≤ N ∧ i = .int .i64 k ∧ wr = w.drewN n ∧ ∀ t, t < k → l.getD t 0 < l.getD (t + 1) 0) (fun i _ => N - (intOf i).toNat)
  case atStart => exact ⟨0, 0, by omega, rfl, rfl, fun t h => absurd h (by omega)⟩
  case round =>
    obtain ⟨k, n, hk, rfl, rfl, hq⟩ := hrel
    have Q := Lib.hid hq
    clear hq
    by_cases hlt : k < N
    · have ik : (k : Int) < (N : Int) := by have := HN.out; omega
      have ikl : (k : Int) < (l.length : Int) := by have := HN.out; omega
      have ikl1 : (k : Int) + 1 < (l.length : Int) := by have := HN.out; omega
      have c1 := HC.out k (by have := HN.out; omega)
      have c2 := HC.out (k + 1) (by have := HN.out; omega)
      have hw1 : IntKind.i64.wrap ((k : Int) + 1) = (k : Int) + 1 := IntWalk.i64_in _ (by have := HN.out; omega)
      have htn : ((k : Int) + 1).toNat = k + 1 := by have := HN.out; omega
      have h01 : (0 : Int) ≤ (k : Int) + 1 := by have := HN.out; omega
      obtain ⟨y, hy⟩ : ∃ y, l.getD k 0 = y := ⟨_, rfl⟩
      obtain ⟨z, hz⟩ : ∃ z, l.getD (k + 1) 0 = z := ⟨_, rfl⟩
      rw [hy] at c1
      rw [hz] at c2
      by_cases hyz : z ≤ y
      · have G := Lib.hid (may_false (l := l) (k := k) (by have := HN.out; omega) (by rw [hy, hz]; exact hyz))
        clear hy hz
        go_wp2
        refine wp_region_Tw [0, 1, 2, 3, 4, 5, 6, 7, 8, 9] [3, 8] (.lp 0 (.lp 1 (.lp 2 (.lp 4 (.lp 5 (.lp 6 (.lp 7 (.ls 3 (.ls 8 (.lp 9 (.done))))))))))) (by kernel_rfl) (by kernel_rfl) ?_
        (repeat (first | (refine T_lp rfl (fun K hK => ?_); go_simp; refine hK _ ?_; clear hK K) | (refine T_ls rfl rfl (fun K hK => ?_); go_simp; refine hK _ ?_; clear hK K)))
        refine T_done ?_
        go_wp2
        go_ret
        exact ⟨ret_bool G.out.symm, ⟨n + 1, rfl⟩⟩
      · have G := Lib.hid (show ∀ t, t < k + 1 → l.getD t 0 < l.getD (t + 1) 0 from fun t ht => by
          rcases Nat.lt_or_eq_of_le (Nat.le_of_lt_succ ht) with h | rfl
          · exact Q.out t h
          · rw [hy, hz]; omega)
        clear hy hz
        go_wp2
        refine wp_region_Tw [0, 1, 2, 3, 4, 5, 6, 7, 8, 9] [3, 8] (.lp 0 (.lp 1 (.lp 2 (.lp 4 (.lp 5 (.lp 6 (.lp 7 (.ls 3 (.ls 8 (.lp 9 (.done))))))))))) (by kernel_rfl) (by kernel_rfl) ?_
        (repeat (first | (refine T_lp rfl (fun K hK => ?_); go_simp; refine hK _ ?_; clear hK K) | (refine T_ls rfl rfl (fun K hK => ?_); go_simp; refine hK _ ?_; clear hK K)))
        refine T_done ?_
        go_wp2
        go_roundw
        case rel => exact ⟨k + 1, _, by have := HN.out; omega, by go_num, rfl, G.out⟩
        case measure => simp [intOf]; omega
    · have e : k = N := by have := HN.out; omega
      subst e
      have c1 := HC.out k (by have := HN.out; omega)
      obtain ⟨y, hy⟩ : ∃ y, l.getD k 0 = y := ⟨_, rfl⟩
      rw [hy] at c1
      have ikl : (k : Int) < (l.length : Int) := by have := HN.out; omega
      have G := Lib.hid (show chB l = decide (y ≤ 1000000) by
        rw [may_end (by have := HN.out; omega) (by have := HN.out; omega) HX.out (fun t ht => Q.out t (by have := HN.out; omega)), show l.length - 1 = k by have := HN.out; omega, hy])
      have HE := Lib.hid (endOf_any B (some ⟨b, off, none⟩) c l (w.drewN n) (by omega) hl (H.out.drewN n))
      have HY := Lib.hid (show l.getD (l.length - 1) 0 = y by rw [show l.length - 1 = k by have := HN.out; omega]; exact hy)
      clear hy
      go_wp2_with (go_at_call 78; refine HE.out.mono ?_; rw [HY.out]; rintro e w' ⟨rfl, rfl⟩)
      go_ret
      exact ⟨ret_bool G.out.symm, Dr.mk _ _⟩

set_option maxRecDepth 100000 in
set_option maxHeartbeats 2000000 in
theorem implSteps_any (B : Nat) (A : Option Addr) (c : Nat) (l : List Int) (w : World) (hB : B ≤ w.heap.size) (hl : l.length ≤ 1048576) (hcap : l.length ≤ c) (hr : Rd w B 1 A l.length (l.map I)) :
    Calls Try.prog 20 #[.slice A l.length c] w fun e w' =>
      ∃ A' c', e = .returned (.tuple #[.slice A' (chS l).length c', .bool (chG l)]) ∧ OwS w' w.heap.size (.slice A' (chS l).length c') (chS l) ∧ Below w.heap.size w w' := by
  have H := Lib.hid hr
  have hM := mayBeChain_any B A c l w hl hr
  clear hr
  cases hq : chB l with
  | false =>
    have G := Lib.hid (show chG l = false by unfold chG; rw [hq]; rfl)
    rw [hq] at hM
    have HM := Lib.hid hM
    clear hM hq
    go_enter Try.func20, Try.ntmps20
    go_wp2_with (go_at_call 51; refine HM.out.mono ?_; rintro e w2 ⟨rfl, ⟨n, rfl⟩⟩)
    go_ret2
    exact ⟨none, 0, by rw [G.out, chS_false G.out]; rfl, by rw [chS_false G.out]; exact OwS.nil _ _, bDrewN (Below.refl _ _) n⟩
  | true =>
    have CH := Lib.hid (chn_of hq)
    have G := Lib.hid (show ∀ b, sumsB l l.length = b → chG l = b from fun b hb => by unfold chG; rw [hq, hb]; rfl)
    have hl1 := CH.out.pos
    have hl2 := CH.out.most
    rw [hq] at hM
    have HM := Lib.hid hM
    clear hM hq
    go_enter Try.func20, Try.ntmps20
    go_wp2_with (go_at_call 51; refine HM.out.mono ?_; rintro e w2 ⟨rfl, ⟨n, rfl⟩⟩)
    go_loopw [4, 5] (fun ov iv wr => ∃ (k n : Nat) (A1 : Option Addr) (c1 : Nat), 1 ≤ k ∧ k ≤ l.length ∧ iv = .int .i64 k ∧ ov = .slice A1 n c1 ∧ n = k - 1 ∧ sumsB l k = true ∧ wr.ownsRow w.heap.size 51 2 (.slice A1 n c1) n (fl (stepsK l k)) ∧ Below w.heap.size w wr) (fun _ i _ => l.length - (intOf i).toNat)
    case atStart => exact ⟨1, 0, none, 0, by omega, by omega, rfl, rfl, rfl, sumsB_one l, World.ownsRow_nil _ _ _ _, bDrewN (Below.refl _ _) n⟩
    case round =>
      obtain ⟨k, m, A1, c1, hk1, hk, rfl, rfl, hn, hsum, hown, hbel⟩ := hrel
      have OWN := Lib.hid hown
      have BEL := Lib.hid hbel
      have SU := Lib.hid hsum
      have hs : w.heap.size ≤ wr.heap.size := hbel.size
      clear hown hbel hsum
      by_cases hlt : k < l.length
      · have ik : (k : Int) < (l.length : Int) := by omega
        have hP := sumsOf_any B A c k l wr CH.out hlt hcap (by omega) (H.out.below' BEL.out hB)
        have hle := prs_le CH.out.asc k k (by omega)
        have SUC := Lib.hid (stepsK_succ l k hk1)
        have hS1 := sumsB_succ l k
        obtain ⟨P, hP'⟩ : ∃ P, prs l k k = P := ⟨_, rfl⟩
        by_cases he : P = []
        · have S := Lib.hid (G.out _ (sumsB_false l.length hlt (by omega) (by rw [hP', he])))
          rw [hP', he] at hP
          have HP := Lib.hid hP
          clear hP he hP' hle SUC hS1
          go_wp2_with (go_at_call 52; refine HP.out.mono ?_; rintro e w2 ⟨A', c', rfl, _, hb2⟩)
          go_ret2
          exact ⟨none, 0, by rw [S.out, chS_false S.out]; rfl, by rw [chS_false S.out]; exact OwS.nil _ _, BEL.out.trans (hb2.mono hs)⟩
        · have hpos := List.length_pos_iff.2 he
          rw [hP'] at hP hle SUC hS1
          rw [isEmpty_ne he, SU.out] at hS1
          have S := Lib.hid (show sumsB l (k + 1) = true by rw [hS1]; simp)
          obtain ⟨q, hq⟩ : ∃ q, P.length = q + 1 := ⟨P.length - 1, by omega⟩
          have hqb : q ≤ 41 := by omega
          rw [hq] at hP
          have HP := Lib.hid hP
          have HQ := Lib.hid hq
          have HN := Lib.hid hn
          have iq0 : ¬ ((q : Int) + 1 = 0) := by omega
          clear hP he hP' hpos hq hn hS1
          go_wp2_with fail
          go_at_call 52
          refine HP.out.mono ?_
          rintro e w2 ⟨A', c', rfl, hown2, hb2⟩
          obtain ⟨g, x, y, rfl, hgB, hgs, cx, cy, hlast⟩ := OwS.last hown2 HQ.out
          have LAST := Lib.hid hlast
          have hs2 : wr.heap.size ≤ w2.heap.size := hb2.size
          have OW2 := Lib.hid (own_below OWN.out hb2)
          have BE2 := Lib.hid (BEL.out.trans (hb2.mono hs))
          have iq : (q : Int) < (q : Int) + 1 := by omega
          have hn40 : m ≤ 40 := by have := HN.out; omega
          clear hown2 hb2 hlast
          go_wp2_with (at_builtin; refine list_step (fun K hK => ?_); refine step_app2 Try.underlying26 info_step rfl (by omega) rfl (.tmp 22) (.tmp 29) rfl w.heap.size m _ (fl (stepsK l k)) rfl (World.ownsRow.alloc OW2.out _) w2.heap.size 1 (I x) (I y) rfl (by simp) (by simp) rfl rfl (by omega) (by simp; omega) ?_; intro A3 c3 w3 hown3 hg3 hbel3; go_simp; refine hK _ _ ?_; clear hK K)
          go_roundw
          case rel =>
            refine ⟨k + 1, m + 1, A3, c3, by omega, by omega, by go_num, rfl, by have := HN.out; omega, S.out, ?_, (BE2.out.alloc (by omega) _).trans hbel3⟩
            rw [SUC.out, LAST.out, fl_snoc]
            exact hown3
          case measure => simp [intOf]; omega
      · have e : k = l.length := by omega
        subst e
        subst hn
        have S := Lib.hid (G.out _ SU.out)
        go_wp2
        go_ret2
        refine ⟨A1, c1, by rw [S.out, chS_true S.out, stepsK_length]; rfl, ?_, BEL.out⟩
        rw [chS_true S.out]
        unfold OwS
        rw [stepsK_length]
        exact OWN.out

set_option maxHeartbeats 1000000 in
theorem implIsChain_any (B : Nat) (A : Option Addr) (c : Nat) (l : List Int) (w : World) (hB : B ≤ w.heap.size) (hl : l.length ≤ 1048576) (hcap : l.length ≤ c) (hr : Rd w B 1 A l.length (l.map I)) :
    Calls Try.prog 17 #[.slice A l.length c] w fun e w' => e = .returned (.bool (chG l)) ∧ Below w.heap.size w w' := by
  have hS := implSteps_any B A c l w hB hl hcap hr
  have HS := Lib.hid hS
  clear hS hr
  go_enter Try.func17, Try.ntmps17
  go_wp2_with (go_at_call 20; refine HS.out.mono ?_; rintro e w2 ⟨A', c', rfl, _, hb2⟩)
  go_ret
  exact ⟨rfl, hb2⟩
set_option maxHeartbeats 1000000 in
theorem specIsChain_any (B : Nat) (A : Option Addr) (c : Nat) (l : List Int) (w : World) (hB : B ≤ w.heap.size) (hl : l.length ≤ 1048576) (_hcap : l.length ≤ c) (hr : Rd w B 1 A l.length (l.map I)) :
    Calls Try.prog 15 #[.slice A l.length c] w fun e w' => e = .returned (.bool (chG l)) ∧ Below w.heap.size w w' := by
  have hS := chGood_any B A c l w hl hB hr
  have HS := Lib.hid hS
  clear hS hr
  go_enter Try.func15, Try.ntmps15
  go_wp2_with (go_at_call 49; refine HS.out.mono ?_; rintro e w2 ⟨rfl, hb2⟩)
  go_ret
  exact ⟨rfl, hb2⟩
set_option maxHeartbeats 1000000 in
theorem specSteps_any (B : Nat) (A : Option Addr) (c : Nat) (l : List Int) (w : World) (hB : B ≤ w.heap.size) (hl : l.length ≤ 1048576) (_hcap : l.length ≤ c) (hr : Rd w B 1 A l.length (l.map I)) :
    Calls Try.prog 19 #[.slice A l.length c] w fun e w' =>
      ∃ A' c', e = .returned (.tuple #[.slice A' (chS l).length c', .bool (chG l)]) ∧ OwS w' w.heap.size (.slice A' (chS l).length c') (chS l) ∧ Below w.heap.size w w' := by
  have hS := chGood_any B A c l w hl hB hr
  cases hg : chG l with
  | false =>
    rw [hg] at hS
    have HS := Lib.hid hS
    have GG := Lib.hid hg
    clear hS hr hg
    go_enter Try.func19, Try.ntmps19
    go_wp2_with (go_at_call 49; refine HS.out.mono ?_; rintro e w2 ⟨rfl, hb2⟩)
    go_ret2
    exact ⟨none, 0, by rw [chS_false GG.out]; rfl, by rw [chS_false GG.out]; exact OwS.nil _ _, hb2⟩
  | true =>
    rw [hg] at hS
    have HS := Lib.hid hS
    have H := Lib.hid hr
    have GG := Lib.hid hg
    clear hS hr hg
    go_enter Try.func19, Try.ntmps19
    go_wp2_with (first
      | (go_at_call 49; refine HS.out.mono ?_; rintro e w2 ⟨rfl, hb2⟩)
      | (go_at_call 50; refine (chSteps_any B A c l w2 GG.out (by have := hb2.size; omega) (H.out.below' hb2 hB)).mono ?_; rintro e w3 ⟨A', c', rfl, hown3, hb3⟩))
    go_ret2
    exact ⟨A', c', by rw [chS_true GG.out]; rfl, by rw [chS_true GG.out]; exact hown3.base hb2.size, hb2.trans (hb3.mono hb2.size)⟩
end Go.Proofs.Ytbbjgcagkmlngac
/- Copies of lists of integers. -/
namespace Go.Proofs.Ytbbjgcagkmlngac
open Go.RowKit

theorem eq_nil_I (A : Option Addr) (n c : Nat) (W : World) : (binOp .eql 22 (.slice A n c) (.slice none 0 0)).run Try.prog W = .ok (.bool A.isNone) W := by
  simp only [binOp]
  simp [run_equal_slice_nil W 22 3 A n c Try.underlying22]
theorem Rd.addr {w : World} {B : Nat} {A : Option Addr} {l : List Int} (h : Rd w B 1 A l.length (l.map I)) (h0 : 0 < l.length) : ∃ a, A = some a := by
  obtain ⟨b, off, e, _⟩ := h.2 (by omega)
  exact ⟨_, e⟩
set_option maxRecDepth 100000 in
set_option maxHeartbeats 1000000 in
theorem cloneI_any (B : Nat) (A : Option Addr) (c : Nat) (l : List Int) (w : World) (hm : l.length ≤ 1000000) (h0 : 0 < l.length) (hB : B ≤ w.heap.size) (hr : Rd w B 1 A l.length (l.map I)) :
    Calls Try.prog 63 #[.slice A l.length c] w fun e w' => ∃ A' c', e = .returned (.slice A' l.length c') ∧ OwI w' w.heap.size (.slice A' l.length c') l ∧ Below w.heap.size w w' := by
  obtain ⟨ad, rfl⟩ := hr.addr h0
  have H := Lib.hid hr
  clear hr
  have hnil := fun W => eq_nil_I (some ad) l.length c W
  go_enter Try.func63, Try.ntmps63
  go_wp2_with (first
    | (at_builtin; refine list_step (fun K hK => ?_); refine step_appM Try.underlying22 info_int rfl (by omega) (by omega) rfl (.tmp 5) (.tmp 6) rfl w.heap.size 0 _ [] rfl (own_empty 1 (Nat.le_refl _)) _ l.length c (l.map I) rfl (H.out.alloc hB _) (ints_one l) (by omega) (by simp) ?_; intro A2 c2 w2 hown2 hg2 hbel2; go_simp; refine hK _ _ ?_; clear hK K))
  go_ret
  simp only [Nat.zero_add, List.nil_append] at hown2
  exact ⟨A2, c2, by simp, hown2, ((Below.refl _ _).alloc (Nat.le_refl _) _).trans hbel2⟩
end Go.Proofs.Ytbbjgcagkmlngac
/- Used steps, of the model and of the program. -/
namespace Go.Proofs.Ytbbjgcagkmlngac
open Go.RowKit

theorem put_below {w w2 w3 : World} {o o' : Obj} (h : Below w.heap.size (w.alloc o) w2) (h' : Below w.heap.size (w2.alloc o') w3) : Below w.heap.size w w3 := by
  have hs2 : w.heap.size ≤ w2.heap.size := by have := h.size; simp at this; omega
  exact ((((Below.refl _ _).alloc (Nat.le_refl _) _).trans h).alloc hs2 _).trans h'

set_option maxHeartbeats 1000000 in
theorem l1Put_any (B : Nat) (A : Option Addr) (c : Nat) (l : List Int) (n : Int) (w : World) (hm : l.length ≤ 1000000) (hB : B ≤ w.heap.size) (hlt : ∀ x ∈ l, n < x) (hcap : l.length ≤ c) (hr : Rd w B 1 A l.length (l.map I)) :
    Calls Try.prog 65 #[.slice A l.length c, .int .i64 n] w fun e w' => ∃ A' c', e = .returned (.slice A' (l.length + 1) c') ∧ OwI w' w.heap.size (.slice A' (l.length + 1) c') (n :: l) ∧ Below w.heap.size w w' := by
  have H := Lib.hid hr
  have HLT := Lib.hid hlt
  clear hr hlt
  go_enter Try.func65, Try.ntmps65
  go_wp2
  go_loop [5] (fun i => i = .int .i64 0) (fun _ => 0)
  case atStart => rfl
  case round =>
    subst hrel
    by_cases hl : 0 < l.length
    · obtain ⟨b, off, rfl, hb, hcell⟩ := H.out.int hl
      rw [Nat.add_zero] at hcell
      have h1 := HLT.out _ (List.getElem_mem hl)
      have h2 : ¬ l[0] < n := by omega
      have h3 : ¬ l[0] = n := by omega
      have i0 : (0 : Int) < (l.length : Int) := by omega
      go_wp2_with (first
        | (at_builtin; refine list_step (fun K hK => ?_); refine step_appM Try.underlying22 info_int rfl (by omega) (by omega) rfl (.tmp 34) (.tmp 37) rfl w.heap.size 0 _ [] rfl (own_empty 1 (Nat.le_refl _)) _ 0 _ [] rfl (Rd.nil _ 0 _ _) (by simp) (by omega) (by simp) ?_; intro A2 c2 w2 hown2 hg2 hbel2; go_simp; refine hK _ _ ?_; clear hK K)
        | (at_builtin; refine list_step (fun K hK => ?_); refine step_app1 Try.underlying22 info_int rfl (by omega) rfl (.tmp 39) (.tmp 41) rfl w.heap.size 0 _ [] rfl (World.ownsRow.alloc hown2 _) w2.heap.size 1 (I n) rfl (by simp) rfl (by omega) (by have := hbel2.size; simp at this; simp; omega) ?_; intro A3 c3 w3 hown3 hg3 hbel3; go_simp; refine hK _ _ ?_; clear hK K)
        | (at_builtin; refine list_step (fun K hK => ?_); have hb23 := put_below hbel2 hbel3; refine step_appM Try.underlying22 info_int rfl (by omega) (by omega) rfl (.tmp 43) (.tmp 46) rfl w.heap.size 1 _ _ rfl hown3 _ l.length _ (l.map I) rfl (H.out.below' hb23 hB) (ints_one l) (by omega) hb23.size ?_; intro A4 c4 w4 hown4 hg4 hbel4; go_simp; refine hK _ _ ?_; clear hK K))
      go_ret
      refine ⟨A4, c4, ret_slice (by omega), ?_, (put_below hbel2 hbel3).trans hbel4⟩
      have h := hown4
      rw [show 1 + l.length = l.length + 1 by omega] at h
      simpa [OwI] using h
    · have hl0 : l.length = 0 := by omega
      go_wp2_with (first
        | (at_builtin; refine list_step (fun K hK => ?_); refine step_appM Try.underlying22 info_int rfl (by omega) (by omega) rfl (.tmp 34) (.tmp 37) rfl w.heap.size 0 _ [] rfl (own_empty 1 (Nat.le_refl _)) _ 0 _ [] rfl (Rd.nil _ 0 _ _) (by simp) (by omega) (by simp) ?_; intro A2 c2 w2 hown2 hg2 hbel2; go_simp; refine hK _ _ ?_; clear hK K)
        | (at_builtin; refine list_step (fun K hK => ?_); refine step_app1 Try.underlying22 info_int rfl (by omega) rfl (.tmp 39) (.tmp 41) rfl w.heap.size 0 _ [] rfl (World.ownsRow.alloc hown2 _) w2.heap.size 1 (I n) rfl (by simp) rfl (by omega) (by have := hbel2.size; simp at this; simp; omega) ?_; intro A3 c3 w3 hown3 hg3 hbel3; go_simp; refine hK _ _ ?_; clear hK K)
        | (at_builtin; refine list_step (fun K hK => ?_); have hb23 := put_below hbel2 hbel3; refine step_appM Try.underlying22 info_int rfl (by omega) (by omega) rfl (.tmp 43) (.tmp 46) rfl w.heap.size 1 _ _ rfl hown3 _ 0 _ (l.map I) rfl (by have h := H.out.below' hb23 hB; rw [hl0] at h; exact h) (ints_one l) (by omega) hb23.size ?_; intro A4 c4 w4 hown4 hg4 hbel4; go_simp; refine hK _ _ ?_; clear hK K))
      go_ret
      refine ⟨A4, c4, ret_slice (by omega), ?_, (put_below hbel2 hbel3).trans hbel4⟩
      have h := hown4
      rw [show 1 + 0 = l.length + 1 by omega] at h
      show w4.ownsRow _ _ _ _ _ _
      have e1 : (n :: l).length = l.length + 1 := rfl
      rw [e1]
      first | exact h | (rw [hl0] at h ⊢; exact h)
end Go.Proofs.Ytbbjgcagkmlngac
/- Used steps: what they are, and the model's. -/
namespace Go.Proofs.Ytbbjgcagkmlngac
open Go.RowKit

def needI (N : Nat) (s : List (Int × Int)) (o : List Int) : Nat → List Int
  | 0 => o
  | j + 1 => if hasI (needI N s o j) ((N : Int) + ((s.length - 1 - j : Nat) : Int)) then needI N s o j ++ [(s.getD (s.length - 1 - j) (0, 0)).1, (s.getD (s.length - 1 - j) (0, 0)).2] else needI N s o j
def finI (N : Nat) (s : List (Int × Int)) (o : List Int) (i : Nat) : Bool := hasI (needI N s o s.length) ((N : Int) + (i : Int))
def usT (N : Nat) (s : List (Int × Int)) (o : List Int) (j : Nat) : List Int := ((List.range' (s.length - j) j).filter (finI N s o)).map fun i : Nat => (i : Int)
def usd (N : Nat) (s : List (Int × Int)) (o : List Int) : List Int := usT N s o s.length

theorem hasI_two (l : List Int) (a b x : Int) : hasI (l ++ [a, b]) x = (hasI l x || (x == a || x == b)) := by
  unfold hasI
  rw [Bool.eq_iff_iff]
  simp
theorem need_hit {N : Nat} {s : List (Int × Int)} {o : List Int} {j i : Nat} (hi : i < s.length) (hij : s.length - 1 - j = i) (h : hasI (needI N s o j) ((N : Int) + (i : Int)) = true) : needI N s o (j + 1) = needI N s o j ++ [(s[i]).1, (s[i]).2] := by
  subst hij
  simp only [needI]
  rw [if_pos h]
  simp [hi]
theorem need_miss {N : Nat} {s : List (Int × Int)} {o : List Int} {j i : Nat} (hij : s.length - 1 - j = i) (h : hasI (needI N s o j) ((N : Int) + (i : Int)) = false) : needI N s o (j + 1) = needI N s o j := by
  subst hij
  simp only [needI]
  rw [if_neg (by rw [h]; decide)]
theorem need_len (N : Nat) (s : List (Int × Int)) (o : List Int) : ∀ j, (needI N s o j).length ≤ o.length + 2 * j := by
  intro j
  induction j with
  | zero => simp [needI]
  | succ j ih =>
    simp only [needI]
    split
    · simp; omega
    · omega
theorem need_stable {N : Nat} {s : List (Int × Int)} {o : List Int} (hs : OkS N s) {j i : Nat} (hj : j < s.length) (hij : s.length - 1 - j = i) : ∀ d, j + d ≤ s.length → hasI (needI N s o (j + d)) ((N : Int) + (i : Int)) = hasI (needI N s o j) ((N : Int) + (i : Int)) := by
  intro d
  induction d with
  | zero => intro _; rfl
  | succ d ih =>
    intro hd
    have ih := ih (by omega)
    have hlt : s.length - 1 - (j + d) < s.length := by omega
    obtain ⟨h1, h2, h3⟩ := hs _ hlt
    show hasI (needI N s o (j + d + 1)) _ = _
    cases hq : hasI (needI N s o (j + d)) ((N : Int) + ((s.length - 1 - (j + d) : Nat) : Int)) with
    | true =>
      rw [need_hit hlt rfl hq, hasI_two, ih]
      have e1 : (((N : Int) + (i : Int)) == (s[s.length - 1 - (j + d)]).1) = false := by rw [beq_eq_false_iff_ne]; omega
      have e2 : (((N : Int) + (i : Int)) == (s[s.length - 1 - (j + d)]).2) = false := by rw [beq_eq_false_iff_ne]; omega
      rw [e1, e2]
      simp
    | false => rw [need_miss rfl hq, ih]
theorem fin_at {N : Nat} {s : List (Int × Int)} {o : List Int} (hs : OkS N s) {j i : Nat} (hj : j < s.length) (hij : s.length - 1 - j = i) : finI N s o i = hasI (needI N s o j) ((N : Int) + (i : Int)) := by
  have h := need_stable (o := o) hs hj hij (s.length - j) (by omega)
  rw [show j + (s.length - j) = s.length by omega] at h
  exact h
theorem us_hit {N : Nat} {s : List (Int × Int)} {o : List Int} {j i : Nat} (hj : j < s.length) (hij : s.length - 1 - j = i) (h : finI N s o i = true) : usT N s o (j + 1) = (i : Int) :: usT N s o j := by
  unfold usT
  rw [show s.length - (j + 1) = i by omega, List.range'_succ, show i + 1 = s.length - j by omega, List.filter_cons_of_pos h]
  rfl
theorem us_miss {N : Nat} {s : List (Int × Int)} {o : List Int} {j i : Nat} (hj : j < s.length) (hij : s.length - 1 - j = i) (h : finI N s o i = false) : usT N s o (j + 1) = usT N s o j := by
  unfold usT
  rw [show s.length - (j + 1) = i by omega, List.range'_succ, show i + 1 = s.length - j by omega, List.filter_cons_of_neg (by rw [h]; decide)]
theorem us_gt {N : Nat} {s : List (Int × Int)} {o : List Int} {j i : Nat} (hj : j < s.length) (hij : s.length - 1 - j = i) : ∀ x ∈ usT N s o j, (i : Int) < x := by
  intro x hx
  unfold usT at hx
  simp only [List.mem_map, List.mem_filter, List.mem_range'_1] at hx
  obtain ⟨y, ⟨hy, _⟩, rfl⟩ := hx
  omega
theorem us_len (N : Nat) (s : List (Int × Int)) (o : List Int) (j : Nat) : (usT N s o j).length ≤ j := by
  unfold usT
  rw [List.length_map]
  exact Nat.le_trans (List.length_filter_le _ _) (by simp)
theorem own_cap {w : World} {B e sz n c : Nat} {A : Option Addr} {xs : List Value} (h : w.ownsRow B e sz (.slice A n c) n xs) : n ≤ c := by
  obtain ⟨A0, c0, e0, h0⟩ := own_form h
  injection e0 with _ _ e1
  omega
theorem rd_two {w : World} {g : Nat} {a b : Int} (h0 : w.cell? ⟨g, 0, none⟩ = some (I a)) (h1 : w.cell? ⟨g, 1, none⟩ = some (I b)) : Rd w (g + 1) 1 (some ⟨g, 0, none⟩) 2 ([a, b].map I) :=
  ⟨rfl, fun _ => ⟨g, 0, rfl, by omega, fun j hj => by
    have hj2 : j = 0 ∨ j = 1 := by omega
    rcases hj2 with rfl | rfl
    · exact h0
    · exact h1⟩⟩

set_option maxRecDepth 100000 in
set_option maxHeartbeats 2000000 in
theorem plUsed_any (B N : Nat) (A1 A2 : Option Addr) (c1 c2 : Nat) (p : Pl) (w : World) (hpn : p.n = N) (h6 : N ≤ 6) (hs40 : p.s.length ≤ 1000) (ho6 : p.o.length ≤ 1000) (hB : B ≤ w.heap.size) (hok : OkS N p.s) (hr : RdP w B A1 A2 p) :
    Calls Try.prog 74 #[.agg #[.int .i64 p.n, .slice A1 p.s.length c1, .slice A2 p.o.length c2]] w fun e w' =>
      ∃ A c, e = .returned (.slice A (usd N p.s p.o).length c) ∧ OwI w' w.heap.size (.slice A (usd N p.s p.o).length c) (usd N p.s p.o) ∧ Below w.heap.size w w' := by
  have H := Lib.hid hr
  have HO := Lib.hid hok
  clear hr hok
  rw [hpn]
  clear hpn
  go_enter Try.func74, Try.ntmps74
  go_wp2_with fail
  go_at_call 61
  generalize hw1 : World.alloc w _ = w1
  obtain ⟨x0, x1, x2, xs, xb⟩ := box3 hw1
  clear hw1
  refine (l1Own_any B A2 c2 p.o w1 (by omega) (by omega) (H.out.below' xb hB).2).mono ?_
  rintro e w2 ⟨A3, c3, rfl, hown2, hb2⟩
  rw [xs] at hown2 hb2
  have y0 := (hb2.cell (p := ⟨w.heap.size, 0, none⟩) (by simp)).trans x0
  have y1 := (hb2.cell (p := ⟨w.heap.size, 1, none⟩) (by simp)).trans x1
  have hs2 : w.heap.size + 1 ≤ w2.heap.size := by have := hb2.size; omega
  have HB2 := Lib.hid (xb.trans (hb2.mono (show w.heap.size ≤ w.heap.size + 1 by omega)))
  have HOWN := Lib.hid hown2
  clear x0 x1 x2 xs xb hb2 hown2
  go_wp2
  go_loopw [3, 4, 5] (fun nd ou iv wr => ∃ (j : Nat) (x : Int) (A : Option Addr) (c : Nat) (A' : Option Addr) (c' : Nat), j ≤ p.s.length ∧ iv = .int .i64 x ∧ x = (p.s.length : Int) - 1 - j ∧ nd = .slice A (needI N p.s p.o j).length c ∧ OwI wr (w.heap.size + 1) nd (needI N p.s p.o j) ∧
    ou = .slice A' (usT N p.s p.o j).length c' ∧ OwI wr (w.heap.size + 1) ou (usT N p.s p.o j) ∧ (ou.ownBlock = none ∨ ou.ownBlock ≠ nd.ownBlock) ∧ Below (w.heap.size + 1) w2 wr) (fun _ _ i _ => (intOf i + 1).toNat)
  case atStart => exact ⟨0, _, A3, c3, none, 0, by omega, rfl, by simp, rfl, HOWN.out, by simp [usT], by simpa [usT] using OwI.nil w2 (w.heap.size + 1), .inl rfl, Below.refl _ _⟩
  case round =>
    obtain ⟨j, x, A, c, A', c', hj, rfl, hx, rfl, hnd, rfl, hou, hap, hbel⟩ := hrel
    have hsz : w.heap.size + 1 ≤ wr.heap.size := by have := hbel.size; omega
    have z0 := (hbel.cell (p := ⟨w.heap.size, 0, none⟩) (by simp)).trans y0
    have z1 := (hbel.cell (p := ⟨w.heap.size, 1, none⟩) (by simp)).trans y1
    have hnl := need_len N p.s p.o j
    have hul := us_len N p.s p.o j
    by_cases hlt : j < p.s.length
    · obtain ⟨i, hi⟩ : ∃ i : Nat, p.s.length - 1 - j = i := ⟨_, rfl⟩
      have hxi : x = (i : Int) := by omega
      subst hxi
      have hil : i < p.s.length := by omega
      have iil : (i : Int) < (p.s.length : Int) := by omega
      have HI := Lib.hid hi
      have HND := Lib.hid hnd
      have HOU := Lib.hid hou
      have HAP := Lib.hid hap
      have HBL := Lib.hid hbel
      clear hi hnd hou hap hbel hx
      cases hq : hasI (needI N p.s p.o j) ((N : Int) + (i : Int)) with
      | false =>
        have hf := fin_at (o := p.o) HO.out hlt HI.out
        rw [hq] at hf
        have HQ := Lib.hid hq
        go_wp2_with fail
        go_at_call 64
        have hE := l1Has_any wr.heap.size A c (needI N p.s p.o j) ((N : Int) + (i : Int)) wr (by omega) HND.out.rd
        rw [hq] at hE
        refine hE.mono ?_
        rintro e w' ⟨rfl, rfl⟩
        clear hE hq
        go_wp2
        go_roundw
        case rel =>
          refine ⟨j + 1, _, A, c, A', c', by omega, rfl, by have := HI.out; omega, by rw [need_miss HI.out HQ.out], ?_, by rw [us_miss hlt HI.out hf], ?_, HAP.out, HBL.out⟩
          · rw [need_miss HI.out HQ.out]; exact HND.out
          · rw [us_miss hlt HI.out hf]; exact HOU.out
        case measure => simp [intOf]
      | true =>
        have hf := fin_at (o := p.o) HO.out hlt HI.out
        rw [hq] at hf
        have HQ := Lib.hid hq
        obtain ⟨sb, off, rfl, hsb, hc1, hc2⟩ := ((H.out.1.below' HB2.out hB).below' HBL.out (by omega)).stp hil
        go_wp2_with fail
        go_at_call 64
        have hE := l1Has_any wr.heap.size A c (needI N p.s p.o j) ((N : Int) + (i : Int)) wr (by omega) HND.out.rd
        rw [hq] at hE
        refine hE.mono ?_
        rintro e w' ⟨rfl, rfl⟩
        clear hE hq
        go_wp2
        refine wp_region_Tw [0, 1, 2, 3, 4, 5, 6, 7, 8, 9, 10, 11, 12, 15] [2, 6, 8, 12] (.lp 0 (.lp 1 (.lp 3 (.lp 7 (.lp 9 (.ls 2 (.lp 4 (.lp 5 (.ls 6 (.ls 8 (.lp 10 (.lp 11 (.ls 12 (.hv 13 (.hv 14 (.lp 15 (.done))))))))))))))))) (by kernel_rfl) (by kernel_rfl) ?_
        (repeat (first | (refine T_lp rfl (fun K hK => ?_); go_simp; refine hK _ ?_; clear hK K) | (refine T_ls rfl rfl (fun K hK => ?_); go_simp; refine hK _ ?_; clear hK K)))
        (refine T_hv rfl (by kernel_rfl) (fun K hK => ?_); go_simp; refine hK _ _ ?_; clear hK K)
        refine T_hv rfl (by kernel_rfl) (fun K hK => ?_)
        refine step_appM Try.underlying22 info_int rfl (by omega) (by omega) rfl (.tmp 23) (.tmp 36) rfl (w.heap.size + 1) (needI N p.s p.o j).length _ ((needI N p.s p.o j).map I) rfl (OwI.alloc (HND.out.drew) _) (some ⟨wr.heap.size, 0, none⟩) 2 2 ([(p.s[i]).1, (p.s[i]).2].map I) rfl (rd_two (by simp) (by simp)) (ints_one _) (by omega) (by simp; omega) ?_
        intro A4 c4 w4 hown4 hg4 hbel4
        (go_simp; refine hK _ _ ?_; clear hK K)
        (repeat (first | (refine T_lp rfl (fun K hK => ?_); go_simp; refine hK _ ?_; clear hK K) | (refine T_ls rfl rfl (fun K hK => ?_); go_simp; refine hK _ ?_; clear hK K)))
        refine T_done ?_
        have hou4 : OwI w4 (w.heap.size + 1) _ _ := World.ownsRow.kept (OwI.alloc (HOU.out.drew) _) hg4 HAP.out
        have hnd4 : OwI w4 (w.heap.size + 1) (.slice A4 ((needI N p.s p.o j).length + 2) c4) (needI N p.s p.o j ++ [(p.s[i]).1, (p.s[i]).2]) := by
          show w4.ownsRow _ _ _ _ _ _
          rw [List.map_append, show (needI N p.s p.o j ++ [(p.s[i]).1, (p.s[i]).2]).length = (needI N p.s p.o j).length + 2 by simp]
          exact hown4
        have hb4 : Below (w.heap.size + 1) w2 w4 := (((HBL.out.drew).alloc hsz _)).trans hbel4
        have HOU4 := Lib.hid hou4
        have HND4 := Lib.hid hnd4
        have HB4 := Lib.hid hb4
        have hcap := own_cap hou4
        clear hou4 hnd4 hb4 hown4 hg4 hbel4
        go_wp2_with fail
        go_at_call 65
        have hs4 : w.heap.size + 1 ≤ w4.heap.size := by have := HB4.out.size; omega
        refine (l1Put_any w4.heap.size A' c' (usT N p.s p.o j) i w4 (by omega) (Nat.le_refl _) (us_gt hlt HI.out) hcap HOU4.out.rd).mono ?_
        rintro e w5 ⟨A5, c5, rfl, hou5, hb5⟩
        go_wp2
        go_roundw
        case rel =>
          refine ⟨j + 1, _, A4, c4, A5, c5, by omega, rfl, by have := HI.out; omega, by rw [need_hit hil HI.out HQ.out]; simp, ?_, by rw [us_hit hlt HI.out hf]; simp, ?_, ?_, HB4.out.trans (hb5.mono hs4)⟩
          · rw [need_hit hil HI.out HQ.out]; exact HND4.out.below hb5
          · rw [us_hit hlt HI.out hf]; exact hou5.base hs4
          · right
            intro he
            have h1 := own_block hou5
            have h2 := own_block HND4.out
            obtain ⟨g, hg⟩ : ∃ g, (Value.slice A5 ((usT N p.s p.o j).length + 1) c5).ownBlock = some g := by
              obtain ⟨g, rfl, _⟩ := own_at hou5 (by simp)
              exact ⟨g, rfl⟩
            have := h1 g hg
            have := h2 g (by rw [← he]; exact hg)
            omega
        case measure => simp [intOf]
    · have hj' : j = p.s.length := by omega
      subst hj'
      have hx1 : x = -1 := by omega
      subst hx1
      have HB3 := Lib.hid (HB2.out.trans (hbel.mono (show w.heap.size ≤ w.heap.size + 1 by omega)))
      have HOU := Lib.hid hou
      clear hbel hou hnd hap
      go_wp2
      go_ret
      exact ⟨A', c', rfl, HOU.out.base (by omega), HB3.out⟩
end Go.Proofs.Ytbbjgcagkmlngac
/- Used steps: the program's. -/
namespace Go.Proofs.Ytbbjgcagkmlngac
open Go.RowKit

theorem info_bool : (Try.prog.info? 4).map (fun i => (i.zero, i.size, i.bytes)) = some (some (.bool false), 1, 1) := by kernel_rfl
def bools (l : List Int) (R : Nat) : List Value := (List.range R).map fun v : Nat => Value.bool (hasI l (v : Int))
theorem bools_length (l : List Int) (R : Nat) : (bools l R).length = R := by simp [bools]
theorem bools_nil (R : Nat) : bools [] R = List.replicate R (.bool false) := by
  apply List.ext_getElem?
  intro j
  by_cases hj : j < R <;> simp [bools, hj, hasI]
theorem bools_set (l : List Int) {R a : Nat} (ha : a < R) : (bools l R).set a (.bool true) = bools (l ++ [(a : Int)]) R := by
  apply List.ext_getElem?
  intro j
  by_cases hj : j < R
  · by_cases hja : a = j
    · subst hja
      rw [List.getElem?_set_self (by rw [bools_length]; exact ha)]
      simp [bools, ha, hasI]
    · rw [List.getElem?_set_ne hja]
      have : ¬ (j : Int) = (a : Int) := by omega
      simp [bools, hj, hasI, this]
  · rw [List.getElem?_eq_none (by simp [bools]; omega), List.getElem?_eq_none (by simp [bools]; omega)]
theorem bools_at (l : List Int) {R a : Nat} (ha : a < R) : (bools l R)[a]? = some (.bool (hasI l (a : Int))) := by simp [bools, ha]
theorem box4 {w w1 : World} {a b c d : Value} {t : TypeId} (h : w.alloc (.cells #[a, b, c, d] t) = w1) :
    w1.cell? ⟨w.heap.size, 0, none⟩ = some a ∧ w1.cell? ⟨w.heap.size, 1, none⟩ = some b ∧ w1.cell? ⟨w.heap.size, 2, none⟩ = some c ∧ w1.cell? ⟨w.heap.size, 3, none⟩ = some d ∧ w1.heap.size = w.heap.size + 1 ∧ Below w.heap.size w w1 := by
  subst h
  refine ⟨?_, ?_, ?_, ?_, by simp, (Below.refl _ _).alloc (Nat.le_refl _) _⟩ <;> (rw [World.cell?_alloc_at _ _ _ _ rfl]; rfl)
theorem bools_own {w : World} {B : Nat} (n : Nat) (hn : n ≤ 1000) (hB : B ≤ w.heap.size) :
    (w.alloc (.cells (madeCells #[Value.bool false] n) 4)).ownsRow B 4 1 (.slice (some ⟨w.heap.size, 0, none⟩) n n) n (bools [] n) := by
  have h := World.ownsRow_lit (base := B) (e := 4) (size := 1) w (madeCells #[Value.bool false] n) n hB (by unfold maxLen; omega) (by simp [size_madeCells])
  rw [toList_madeCells_one] at h
  rw [bools_nil]
  exact h

/-- A store of true. -/
theorem own_set1 {w : World} {B g R a : Nat} {l : List Int} (h : w.ownsRow B 4 1 (.slice (some ⟨g, 0, none⟩) R R) R (bools l R)) (ha : a < R) :
    w.frozen? ⟨g, a, none⟩ = false ∧ (∃ u, w.cell? ⟨g, a, none⟩ = some (.bool u)) ∧ (w.setCell ⟨g, a, none⟩ (.bool true)).ownsRow B 4 1 (.slice (some ⟨g, 0, none⟩) R R) R (bools (l ++ [(a : Int)]) R) := by
  refine ⟨h.frozenAt _, ⟨_, by rw [h.cellAt _ (by omega)]; exact bools_at _ ha⟩, ?_⟩
  have h1 := (h.stored a (.bool true)).1
  rw [bools_set _ ha] at h1
  exact h1

set_option maxRecDepth 100000 in
set_option maxHeartbeats 2000000 in
theorem used_any (B N R : Nat) (A1 A2 A : Option Addr) (c1 c2 c : Nat) (p : Pl) (w : World) (hpn : p.n = N) (h6 : N ≤ 6) (hs40 : p.s.length ≤ 40) (ho6 : p.o.length ≤ 6) (hR : R = N + p.s.length) (hB : B ≤ w.heap.size) (hok : OkS N p.s)
    (hout : ∀ x ∈ p.o, 0 ≤ x ∧ x < (N : Int) + p.s.length) (hr : RdP w B A1 A2 p) :
    Calls Try.prog 97 #[.agg #[.int .i64 p.n, .slice A1 p.s.length c1, .slice A2 p.o.length c2, .slice A R c]] w fun e w' =>
      ∃ A' c', e = .returned (.slice A' R c') ∧ w'.ownsRow w.heap.size 4 1 (.slice A' R c') R (bools (needI N p.s p.o p.s.length) R) ∧ Below w.heap.size w w' := by
  have H := Lib.hid hr
  have HO := Lib.hid hok
  have HOUT := Lib.hid hout
  have HR := Lib.hid hR
  have hR46 : R ≤ 46 := by omega
  clear hr hok hout hR
  rw [hpn]
  clear hpn
  have hmk := run_make_row' (P := Try.prog) 95 4 (.bool false) 1 Try.underlying95 info_bool rfl .i64 .i64 R (by omega) (by omega)
  go_enter Try.func97, Try.ntmps97
  go_wp2
  clear hmk
  generalize hw1 : World.alloc w _ = w1
  obtain ⟨x0, x1, x2, x3, xs, xb⟩ := box4 hw1
  clear hw1
  rw [← xs]
  generalize hw2 : World.alloc w1 _ = w2
  have hmade : w2.ownsRow (w.heap.size + 1) 4 1 (.slice (some ⟨w1.heap.size, 0, none⟩) R R) R (bools [] R) := by rw [← hw2]; exact bools_own R (by omega) (by omega)
  have hb2 : Below (w.heap.size + 1) w1 w2 := by rw [← hw2]; exact (Below.refl _ _).alloc (by omega) _
  clear hw2
  have y0 := (hb2.cell (p := ⟨w.heap.size, 0, none⟩) (by simp)).trans x0
  have y1 := (hb2.cell (p := ⟨w.heap.size, 1, none⟩) (by simp)).trans x1
  have y2 := (hb2.cell (p := ⟨w.heap.size, 2, none⟩) (by simp)).trans x2
  have HB2 := Lib.hid (xb.trans (hb2.mono (show w.heap.size ≤ w.heap.size + 1 by omega)))
  have HM := Lib.hid hmade
  have hg : w.heap.size + 1 ≤ w1.heap.size := by omega
  clear x0 x1 x2 x3 xs xb hb2 hmade
  go_loopw [16] (fun i wr => ∃ k : Nat, k ≤ p.o.length ∧ i = .int .i64 k ∧ wr.ownsRow (w.heap.size + 1) 4 1 (.slice (some ⟨w1.heap.size, 0, none⟩) R R) R (bools (p.o.take k) R) ∧ Below (w.heap.size + 1) w2 wr) (fun i _ => p.o.length - (intOf i).toNat)
  case atStart => exact ⟨0, by omega, rfl, HM.out, Below.refl _ _⟩
  case round =>
    obtain ⟨k, hk, rfl, hown, hbel⟩ := hrel
    by_cases hlt : k < p.o.length
    · obtain ⟨ob, oo, rfl, hob, hoc⟩ := ((H.out.2.below' HB2.out hB).below' hbel (by omega)).int hlt
      obtain ⟨q1, q2⟩ := HOUT.out _ (List.getElem_mem hlt)
      obtain ⟨v, hv⟩ : ∃ v : Nat, p.o[k] = v := ⟨(p.o[k]).toNat, by omega⟩
      have hvR : v < R := by have := HR.out; omega
      have ivR : (v : Int) < (R : Int) := by omega
      rw [hv] at hoc
      have HV := Lib.hid hv
      have hc : wr.cell? ⟨w1.heap.size, v, none⟩ = some (.bool (hasI (p.o.take k) v)) := by rw [hown.cellAt _ (by omega)]; exact bools_at _ hvR
      have hf : wr.frozen? ⟨w1.heap.size, v, none⟩ = false := hown.frozenAt _
      have OWN := Lib.hid hown
      have BEL := Lib.hid hbel
      clear hown hbel hv q1 q2
      go_wp2
      go_roundw
      case rel =>
        refine ⟨k + 1, by omega, by go_num, ?_, BEL.out.setCell hg _⟩
        have h := (OWN.out.stored v (.bool true)).1
        rw [bools_set _ hvR, ← HV.out, ← List.take_succ_eq_append_getElem hlt] at h
        exact h
      case measure => simp [intOf]; omega
    · have hk' : k = p.o.length := by omega
      subst hk'
      rw [List.take_of_length_le (Nat.le_refl _)] at hown
      have hs := hbel.size
      have hsl : w.heap.size + 1 ≤ w2.heap.size := by have := (own_block HM.out) _ rfl; omega
      have z0 := (hbel.cell (p := ⟨w.heap.size, 0, none⟩) (by simp)).trans y0
      have z1 := (hbel.cell (p := ⟨w.heap.size, 1, none⟩) (by simp)).trans y1
      have OWN := Lib.hid hown
      have HB3 := Lib.hid (HB2.out.trans (hbel.mono (show w.heap.size ≤ w.heap.size + 1 by omega)))
      clear hown hbel hs y0 y1 y2
      go_wp2
      go_loopw [6] (fun iv wq => ∃ (j : Nat) (x : Int), j ≤ p.s.length ∧ iv = .int .i64 x ∧ x = (p.s.length : Int) - 1 - j ∧ wq.ownsRow (w.heap.size + 1) 4 1 (.slice (some ⟨w1.heap.size, 0, none⟩) R R) R (bools (needI N p.s p.o j) R) ∧ Below (w.heap.size + 1) wr wq) (fun i _ => (intOf i + 1).toNat)
      case atStart => exact ⟨0, _, by omega, rfl, by simp, OWN.out, Below.refl _ _⟩
      case round =>
        obtain ⟨j, x, hj, rfl, hx, hown, hbel⟩ := hrel
        have v0 := (hbel.cell (p := ⟨w.heap.size, 0, none⟩) (by simp)).trans z0
        have v1 := (hbel.cell (p := ⟨w.heap.size, 1, none⟩) (by simp)).trans z1
        by_cases hlt : j < p.s.length
        · obtain ⟨i, hi⟩ : ∃ i : Nat, p.s.length - 1 - j = i := ⟨_, rfl⟩
          have hxi : x = (i : Int) := by omega
          subst hxi
          have hil : i < p.s.length := by omega
          have iil : (i : Int) < (p.s.length : Int) := by omega
          have iR : (N : Int) + (i : Int) < (R : Int) := by have := HR.out; omega
          have hc : wr.cell? ⟨w1.heap.size, N + i, none⟩ = some (.bool (hasI (needI N p.s p.o j) ((N : Int) + (i : Int)))) := by
            rw [hown.cellAt _ (by omega), bools_at _ (by omega), Int.natCast_add]
          obtain ⟨o1, o2, o3⟩ := HO.out i hil
          obtain ⟨a, ha⟩ : ∃ a : Nat, (p.s[i]).1 = a := ⟨(p.s[i]).1.toNat, by omega⟩
          obtain ⟨b, hb⟩ : ∃ b : Nat, (p.s[i]).2 = b := ⟨(p.s[i]).2.toNat, by omega⟩
          obtain ⟨sb, off, rfl, hsb, hc1, hc2⟩ := ((H.out.1.below' HB3.out hB).below' hbel (by omega)).stp hil
          rw [ha] at hc1
          rw [hb] at hc2
          have haR : a < R := by omega
          have hbR : b < R := by omega
          have iaR : (a : Int) < (R : Int) := by omega
          have ibR : (b : Int) < (R : Int) := by omega
          have HI := Lib.hid hi
          have HA := Lib.hid ha
          have HBb := Lib.hid hb
          have OWN2 := Lib.hid hown
          have BEL := Lib.hid hbel
          have hm1 := own_set1 hown haR
          clear hx hi ha hb hown hbel o1 o2 o3
          cases hq : hasI (needI N p.s p.o j) ((N : Int) + (i : Int)) with
          | false =>
            rw [hq] at hc
            have HQ := Lib.hid hq
            clear hq hm1
            go_wp2
            go_roundw
            case rel => exact ⟨j + 1, _, by omega, rfl, by have := HI.out; omega, by rw [need_miss HI.out HQ.out]; exact OWN2.out, BEL.out⟩
            case measure => simp [intOf]
          | true =>
            rw [hq] at hc
            have HQ := Lib.hid hq
            clear hq
            obtain ⟨f1, ⟨u1, g1⟩, m1⟩ := hm1
            obtain ⟨f2, ⟨u2, g2⟩, m2⟩ := own_set1 m1 hbR
            have hbW : Below (w.heap.size + 1) wr (wr.setCell ⟨w1.heap.size, a, none⟩ (.bool true)) := (Below.refl _ _).setCell hg _
            have e1 := (hbW.cell (p := ⟨w.heap.size, 1, none⟩) (by simp)).trans v1
            have e2 := (hbW.cell (p := ⟨sb, off + i * 2 + 1, none⟩) (by simp only []; omega)).trans hc2
            have HW := Lib.hid hbW
            have M2 := Lib.hid m2
            clear hbW m1 m2
            go_wp2
            go_roundw
            case rel =>
              refine ⟨j + 1, _, by omega, rfl, by have := HI.out; omega, ?_, (BEL.out.trans HW.out).setCell hg _⟩
              rw [need_hit hil HI.out HQ.out, HA.out, HBb.out]
              have h := M2.out
              rw [List.append_assoc] at h
              exact h
            case measure => simp [intOf]
        · have hj' : j = p.s.length := by omega
          subst hj'
          have hx1 : x = -1 := by omega
          subst hx1
          have OWN2 := Lib.hid hown
          have HB4 := Lib.hid (HB3.out.trans (hbel.mono (show w.heap.size ≤ w.heap.size + 1 by omega)))
          clear hown hbel
          go_wp2
          go_ret
          exact ⟨_, _, rfl, own_base OWN2.out (by omega), HB4.out⟩

def usP (N : Nat) (s : List (Int × Int)) (o : List Int) (k : Nat) : List Int := ((List.range k).filter (finI N s o)).map fun i : Nat => (i : Int)
theorem usP_all (N : Nat) (s : List (Int × Int)) (o : List Int) : usP N s o s.length = usd N s o := by
  unfold usP usd usT
  rw [Nat.sub_self, List.range_eq_range']
theorem usP_len (N : Nat) (s : List (Int × Int)) (o : List Int) (k : Nat) : (usP N s o k).length ≤ k := by
  unfold usP
  rw [List.length_map]
  exact Nat.le_trans (List.length_filter_le _ _) (by simp)
theorem usP_hit {N : Nat} {s : List (Int × Int)} {o : List Int} {k : Nat} (h : finI N s o k = true) : usP N s o (k + 1) = usP N s o k ++ [(k : Int)] := by
  unfold usP
  rw [List.range_succ, List.filter_append, List.map_append]
  simp [h]
theorem usP_miss {N : Nat} {s : List (Int × Int)} {o : List Int} {k : Nat} (h : finI N s o k = false) : usP N s o (k + 1) = usP N s o k := by
  unfold usP
  rw [List.range_succ, List.filter_append, List.map_append]
  simp [h]

set_option maxRecDepth 100000 in
set_option maxHeartbeats 2000000 in
theorem usedSteps_any (B N R : Nat) (A1 A2 A : Option Addr) (c1 c2 c : Nat) (p : Pl) (w : World) (hpn : p.n = N) (h6 : N ≤ 6) (hs40 : p.s.length ≤ 40) (ho6 : p.o.length ≤ 6) (hR : R = N + p.s.length) (hB : B ≤ w.heap.size) (hok : OkS N p.s)
    (hout : ∀ x ∈ p.o, 0 ≤ x ∧ x < (N : Int) + p.s.length) (hr : RdP w B A1 A2 p) :
    Calls Try.prog 85 #[.agg #[.int .i64 p.n, .slice A1 p.s.length c1, .slice A2 p.o.length c2, .slice A R c]] w fun e w' =>
      ∃ A' c', e = .returned (.slice A' (usd N p.s p.o).length c') ∧ OwI w' w.heap.size (.slice A' (usd N p.s p.o).length c') (usd N p.s p.o) ∧ Below w.heap.size w w' := by
  have H := Lib.hid hr
  have HO := Lib.hid hok
  have HOUT := Lib.hid hout
  have HR := Lib.hid hR
  have hR46 : R ≤ 46 := by omega
  have HPN := Lib.hid hpn
  clear hr hok hout hR hpn
  go_enter Try.func85, Try.ntmps85
  go_wp2_with fail
  go_at_call 97
  generalize hw1 : World.alloc w _ = w1
  obtain ⟨x0, x1, x2, x3, xs, xb⟩ := box4 hw1
  clear hw1
  refine (used_any B N R A1 A2 A c1 c2 c p w1 HPN.out h6 hs40 ho6 HR.out (by omega) HO.out HOUT.out (H.out.below' xb hB)).mono ?_
  rintro e w2 ⟨A3, c3, rfl, hown2, hb2⟩
  rw [xs] at hown2 hb2
  have y0 := (hb2.cell (p := ⟨w.heap.size, 0, none⟩) (by simp)).trans x0
  have y1 := (hb2.cell (p := ⟨w.heap.size, 1, none⟩) (by simp)).trans x1
  rw [HPN.out] at y0
  have hs2 : w.heap.size + 1 ≤ w2.heap.size := by have := hb2.size; omega
  have HB2 := Lib.hid (xb.trans (hb2.mono (show w.heap.size ≤ w.heap.size + 1 by omega)))
  have HOWN := Lib.hid hown2
  clear x0 x1 x2 x3 xs xb hb2 hown2
  go_wp2
  go_loopw [4, 12] (fun ou iv wr => ∃ (k : Nat) (A : Option Addr) (c : Nat), k ≤ p.s.length ∧ iv = .int .i64 k ∧ ou = .slice A (usP N p.s p.o k).length c ∧ OwI wr (w.heap.size + 1) ou (usP N p.s p.o k) ∧
    wr.ownsRow (w.heap.size + 1) 4 1 (.slice A3 R c3) R (bools (needI N p.s p.o p.s.length) R) ∧ Below (w.heap.size + 1) w2 wr) (fun _ i _ => p.s.length - (intOf i).toNat)
  case atStart => exact ⟨0, none, 0, by omega, rfl, rfl, by simpa [usP] using OwI.nil w2 (w.heap.size + 1), HOWN.out, Below.refl _ _⟩
  case round =>
    obtain ⟨k, A4, c4, hk, rfl, rfl, hou, hus, hbel⟩ := hrel
    have hsz : w.heap.size + 1 ≤ wr.heap.size := by have := hbel.size; omega
    have z0 := (hbel.cell (p := ⟨w.heap.size, 0, none⟩) (by simp)).trans y0
    have hul := usP_len N p.s p.o k
    by_cases hlt : k < p.s.length
    · have iR : (N : Int) + (k : Int) < (R : Int) := by have := HR.out; omega
      obtain ⟨g, rfl, _, _, hcs, _⟩ := own_at hus (by have := HR.out; omega)
      have hc : wr.cell? ⟨g, N + k, none⟩ = some (.bool (finI N p.s p.o k)) := by
        rw [hcs _ (by omega), bools_at _ (by omega), Int.natCast_add]
        rfl
      have HOU := Lib.hid hou
      have HUS := Lib.hid hus
      have HBL := Lib.hid hbel
      clear hou hus hbel hcs
      cases hq : finI N p.s p.o k with
      | false =>
        rw [hq] at hc
        have HQ := Lib.hid hq
        clear hq
        go_wp2
        go_roundw
        case rel => exact ⟨k + 1, A4, c4, by omega, by go_num, by rw [usP_miss HQ.out], by rw [usP_miss HQ.out]; exact HOU.out, HUS.out, HBL.out⟩
        case measure => simp [intOf]; omega
      | true =>
        rw [hq] at hc
        have HQ := Lib.hid hq
        clear hq
        go_wp2_with (at_builtin; refine list_step (fun K hK => ?_); refine step_app_int rfl (.tmp 23) (.tmp 25) rfl (w.heap.size + 1) (usP N p.s p.o k).length _ (usP N p.s p.o k) rfl (HOU.out.alloc _) rfl wr.heap.size 1 (k : Int) rfl (by simp) (by omega) (by simp; omega) ?_; intro A5 c5 w5 hown5 hg5 hbel5; go_simp; refine hK _ _ ?_; clear hK K)
        go_roundw
        case rel =>
          refine ⟨k + 1, A5, c5, by omega, by go_num, by rw [usP_hit HQ.out]; simp, by rw [usP_hit HQ.out]; exact hown5, ?_, (HBL.out.alloc hsz _).trans hbel5⟩
          exact World.ownsRow.kept (World.ownsRow.alloc HUS.out _) hg5 (own_ne (World.ownsRow.alloc HUS.out (Obj.cells #[Value.int IntKind.i64 (k : Int)] 3)) (OwI.alloc HOU.out _) (by decide))
        case measure => simp [intOf]; omega
    · have hk' : k = p.s.length := by omega
      subst hk'
      have HOU := Lib.hid hou
      have HB3 := Lib.hid (HB2.out.trans (hbel.mono (show w.heap.size ≤ w.heap.size + 1 by omega)))
      clear hou hus hbel
      go_wp2
      go_ret
      have h := HOU.out
      rw [usP_all] at h
      exact ⟨A4, c4, by rw [usP_all]; rfl, h.base (by omega), HB3.out⟩
end Go.Proofs.Ytbbjgcagkmlngac
/- UsedSteps and IsTrim, of the model and of the program. -/
namespace Go.Proofs.Ytbbjgcagkmlngac
open Go.RowKit

def usdP (p : Pl) : List Int := if good p then usd p.n.toNat p.s p.o else []
def trimB (p : Pl) : Bool := good p && decide ((usdP p).length = p.s.length)
theorem usdP_len (p : Pl) : (usdP p).length ≤ 40 := by
  unfold usdP
  split
  · rename_i h
    obtain ⟨N, hN, _, _, h40, _⟩ := good_facts h
    have := us_len p.n.toNat p.s p.o p.s.length
    unfold usd
    omega
  · simp

theorem rows_len {p : Pl} {N : Nat} (hN : p.n = N) : ((exps p.n.toNat p.s).map (pad p.n.toNat)).length = N + p.s.length := by
  rw [List.length_map, exps_length]
  omega
theorem box5 {w w1 : World} {a b c d : Value} {t : TypeId} (h : w.alloc (.cells #[a, b, c, d] t) = w1) : w1.heap.size = w.heap.size + 1 ∧ Below w.heap.size w w1 := (box4 h).2.2.2.2

end Go.Proofs.Ytbbjgcagkmlngac
/- New numbers of values: what they are; the model's small functions. -/
namespace Go.Proofs.Ytbbjgcagkmlngac
open Go.RowKit

def plc : List Int → Int → Nat → Int
  | [], _, _ => -1
  | x :: l, n, k => if x == n then (k : Int) else plc l n (k + 1)
theorem plc_app (l r : List Int) (n : Int) (k : Nat) : plc (l ++ r) n k = if hasI l n then plc l n k else plc r n (k + l.length) := by
  induction l generalizing k with
  | nil => simp [hasI]
  | cons x l ih =>
    by_cases h : x = n
    · subst h
      simp [plc, hasI]
    · have h1 : (x == n) = false := by simpa using h
      have h2 : hasI (x :: l) n = hasI l n := by
        unfold hasI
        rw [Bool.eq_iff_iff]
        simp
        intro e
        exact absurd e.symm h
      simp only [List.cons_append, plc, h1, h2, Bool.false_eq_true, if_false]
      rw [ih]
      simp only [List.length_cons]
      rw [show k + 1 + l.length = k + (l.length + 1) by omega]
theorem plc_none {l : List Int} {n : Int} (h : hasI l n = false) (k : Nat) : plc l n k = -1 := by
  have h1 := plc_app l [] n k
  rw [List.append_nil, h] at h1
  rw [h1]
  rfl
theorem plc_bd (l : List Int) (n : Int) (k : Nat) : -1 ≤ plc l n k ∧ plc l n k < k + l.length + 1 := by
  induction l generalizing k with
  | nil => simp [plc]; omega
  | cons x l ih =>
    unfold plc
    split
    · simp only [List.length_cons]; omega
    · have := ih (k + 1)
      simp only [List.length_cons]
      omega
theorem plc_nonneg {l : List Int} {n : Int} (h : hasI l n = true) (k : Nat) : (k : Int) ≤ plc l n k := by
  induction l generalizing k with
  | nil => simp [hasI] at h
  | cons x l ih =>
    unfold plc
    split
    · omega
    · rename_i hx
      have h2 : hasI l n = true := by
        unfold hasI at h ⊢
        simp at h hx ⊢
        rcases h with h | h
        · exact absurd h.symm hx
        · exact h
      have := ih h2 (k + 1)
      omega
theorem plc_hit {l : List Int} {n : Int} {k : Nat} (hk : k < l.length) (hq : hasI (l.take k) n = false) (h : (l[k] == n) = true) : plc l n 0 = k := by
  have e : l = l.take k ++ l[k] :: l.drop (k + 1) := by simp
  have h1 := plc_app (l.take k) (l[k] :: l.drop (k + 1)) n 0
  rw [← e, hq] at h1
  rw [h1]
  simp only [Bool.false_eq_true, if_false, plc, h, if_true]
  simp
  omega

def numI (N : Nat) (l : List Int) (v : Int) : Int := if v < N then v else N + plc l (v - N) 0
def stI (a b : Int) : Int × Int := (leastI a b, mostI a b)
def keepS (p : Pl) (N : Nat) (l : List Int) (k : Nat) : List (Int × Int) := (l.take k).map fun i => stI (numI N l (p.s.getD i.toNat (0, 0)).1) (numI N l (p.s.getD i.toNat (0, 0)).2)
def keepO (p : Pl) (N : Nat) (l : List Int) (k : Nat) : List Int := (p.o.take k).map (numI N l)
theorem keepS_len (p : Pl) (N : Nat) (l : List Int) {k : Nat} (hk : k ≤ l.length) : (keepS p N l k).length = k := by simp [keepS]; omega
theorem keepO_len (p : Pl) (N : Nat) (l : List Int) {k : Nat} (hk : k ≤ p.o.length) : (keepO p N l k).length = k := by simp [keepO]; omega
theorem keepS_succ {p : Pl} {N : Nat} {l : List Int} {k n : Nat} (hk : k < l.length) (hn : l[k] = (n : Int)) (hns : n < p.s.length) : keepS p N l (k + 1) = keepS p N l k ++ [stI (numI N l (p.s[n]).1) (numI N l (p.s[n]).2)] := by
  unfold keepS
  rw [List.take_succ_eq_append_getElem hk, List.map_append, hn]
  simp [hns]
theorem keepO_succ {p : Pl} {N : Nat} {l : List Int} {k : Nat} (hk : k < p.o.length) : keepO p N l (k + 1) = keepO p N l k ++ [numI N l p.o[k]] := by
  unfold keepO
  rw [List.take_succ_eq_append_getElem hk, List.map_append]
  rfl
theorem numI_bd {N : Nat} {l : List Int} {v : Int} (h6 : N ≤ 6) (h0 : 0 ≤ v) : -1 ≤ numI N l v ∧ numI N l v ≤ N + l.length := by
  unfold numI
  split
  · omega
  · have := plc_bd l (v - N) 0
    omega

set_option maxHeartbeats 400000 in
theorem plPlace_any (B : Nat) (A : Option Addr) (c : Nat) (l : List Int) (n : Int) (w : World) (hm : l.length ≤ 4000000) (hr : Rd w B 1 A l.length (l.map I)) :
    Calls Try.prog 72 #[.slice A l.length c, .int .i64 n] w fun e w' => e = .returned (.int .i64 (plc l n 0)) ∧ w = w' := by
  have H := Lib.hid hr
  clear hr
  go_enter Try.func72, Try.ntmps72
  go_wp2
  go_loop [9] (fun i => ∃ k : Nat, k ≤ l.length ∧ i = .int .i64 k ∧ hasI (l.take k) n = false) (fun i => l.length - (intOf i).toNat)
  case atStart => exact ⟨0, by omega, rfl, rfl⟩
  case round =>
    obtain ⟨k, hk, rfl, hq⟩ := hrel
    have Q := Lib.hid hq
    clear hq
    by_cases hlt : k < l.length
    · obtain ⟨b, off, rfl, hb, hcell⟩ := H.out.int hlt
      go_wp2
      · go_ret
        exact ⟨ret_int (plc_hit hlt Q.out (by assumption)).symm, rfl⟩
      · have hne : (l[k] == n) = false := by assumption
        go_round
        case rel => exact ⟨k + 1, by omega, by go_num, by rw [hasI_take hlt Q.out]; exact hne⟩
        case measure => simp [intOf]; omega
    · have hk' : k = l.length := by omega
      have hq := Q.out
      rw [hk', List.take_of_length_le (Nat.le_refl _)] at hq
      have e := plc_none hq 0
      have E := Lib.hid e
      clear hq e hk'
      go_wp2
      go_ret
      exact ⟨ret_int E.out.symm, rfl⟩

set_option maxRecDepth 100000 in
set_option maxHeartbeats 400000 in
theorem plNumber_any (B N : Nat) (z1 z2 : Value) (A : Option Addr) (c : Nat) (l : List Int) (v : Int) (w : World) (h6 : N ≤ 6) (hm : l.length ≤ 1000) (h0 : 0 ≤ v) (h1 : v ≤ 1000000) (hB : B ≤ w.heap.size) (hr : Rd w B 1 A l.length (l.map I)) :
    Calls Try.prog 87 #[.agg #[.int .i64 (N : Int), z1, z2], .slice A l.length c, .int .i64 v] w fun e w' => e = .returned (.int .i64 (numI N l v)) ∧ Below w.heap.size w w' := by
  have H := Lib.hid hr
  clear hr
  by_cases hv : v < N
  · have e : numI N l v = v := by simp [numI, hv]
    have E := Lib.hid e
    clear e
    go_enter Try.func87, Try.ntmps87
    go_wp2
    go_ret
    exact ⟨by rw [E.out]; rfl, (Below.refl _ _).alloc (Nat.le_refl _) _⟩
  · have bd := plc_bd l (v - N) 0
    obtain ⟨q, hq⟩ : ∃ q, plc l (v - N) 0 = q := ⟨_, rfl⟩
    rw [hq] at bd
    have e : numI N l v = N + q := by simp [numI, hv, hq]
    have E := Lib.hid e
    have hC := fun W hB => plPlace_any B A c l (v - N) W (by omega) hB
    rw [hq] at hC
    have HC := Lib.hid hC
    have hsub : IntKind.i64.wrap (v - (N : Int)) = v - N := IntWalk.i64_in _ (by omega)
    have hadd : IntKind.i64.wrap ((N : Int) + q) = N + q := IntWalk.i64_in _ (by omega)
    clear e hC hq
    go_enter Try.func87, Try.ntmps87
    go_wp2
    refine wp_region_Tw [0, 1, 2, 3, 4, 5, 6, 8, 9] [1, 5] (.lp 0 (.lp 2 (.lp 3 (.lp 4 (.ls 1 (.ls 5 (.lp 6 (.hv 7 (.lp 8 (.lp 9 (.done))))))))))) (by kernel_rfl) (by kernel_rfl) ?_
    (repeat (first | (refine T_lp rfl (fun K hK => ?_); go_simp; refine hK _ ?_; clear hK K) | (refine T_ls rfl rfl (fun K hK => ?_); go_simp; refine hK _ ?_; clear hK K)))
    refine T_hvS rfl (fun K hK => ?_)
    go_simp
    go_at_call 72
    generalize hw1 : World.drew (World.alloc w _) = w1
    have hb1 : Below w.heap.size w w1 := by rw [← hw1]; exact ((Below.refl _ _).alloc (Nat.le_refl _) _).drew
    refine (HC.out w1 (H.out.below' hb1 hB)).mono ?_
    rintro e w' ⟨rfl, rfl⟩
    go_simp
    refine hK _ _ (by first | rfl | exact hw1.symm) ?_
    clear hK K
    (repeat (first | (refine T_lp rfl (fun K hK => ?_); go_simp; refine hK _ ?_; clear hK K) | (refine T_ls rfl rfl (fun K hK => ?_); go_simp; refine hK _ ?_; clear hK K)))
    refine T_done ?_
    go_wp2
    go_ret
    exact ⟨by rw [E.out]; rfl, hb1⟩

set_option maxHeartbeats 400000 in
theorem plStep_any (a b : Int) (w : World) :
    Calls Try.prog 86 #[.int .i64 a, .int .i64 b] w fun e w' => e = .returned (.agg #[.int .i64 (leastI a b), .int .i64 (mostI a b)]) ∧ Below w.heap.size w w' := by
  go_enter Try.func86, Try.ntmps86
  go_wp2_with (first | (go_at_call 98; refine (l1Least_any _ _ _).mono ?_; rintro e w' ⟨rfl, rfl⟩) | (go_at_call 99; refine (l1Most_any _ _ _).mono ?_; rintro e w' ⟨rfl, rfl⟩))
  refine bodyPost_ret (v := .agg #[.int .i64 (leastI a b), .int .i64 (mostI a b)]) (by simp [results, Try.results86, go_sem]) rfl ⟨rfl, ?_⟩
  exact (Below.refl _ _).alloc (Nat.le_refl _) _
end Go.Proofs.Ytbbjgcagkmlngac
/- A plan with only some steps, in an order: the model's. -/
namespace Go.Proofs.Ytbbjgcagkmlngac
open Go.RowKit

/-- Three stores into a plan's box. -/
theorem own_set3 {w : World} {g B sz n : Nat} {t e : TypeId} {v : Value} {xs : List Value} {cs : Array Value} (h : w.ownsRow B e sz v n xs) (hg : w.heap[g]? = some (.cells cs t (0, 0))) (ht : t ≠ e) (a b c : Value) :
    (((w.setCell ⟨g, 0, none⟩ a).setCell ⟨g, 1, none⟩ b).setCell ⟨g, 2, none⟩ c).ownsRow B e sz v n xs := by
  have h1 := own_set (o := 0) h hg ht a
  have k1 := heap_setCell_same w g 0 _ t a hg
  have h2 := own_set (o := 1) h1 k1 ht b
  have k2 := heap_setCell_same _ g 1 _ t b k1
  exact own_set (o := 2) h2 k2 ht c

set_option maxRecDepth 100000 in
set_option maxHeartbeats 4000000 in
theorem plKeep_any (B N : Nat) (A1 A2 A : Option Addr) (c1 c2 c : Nat) (p : Pl) (l : List Int) (w : World) (hpn : p.n = N) (h6 : N ≤ 6) (hl : l.length ≤ 1000) (hs40 : p.s.length ≤ 1000) (ho6 : p.o.length ≤ 1000) (hB : B ≤ w.heap.size)
    (hlr : ∀ x ∈ l, 0 ≤ x ∧ x < p.s.length) (hok : OkS N p.s) (hout : ∀ x ∈ p.o, 0 ≤ x ∧ x < (N : Int) + p.s.length) (hr : RdP w B A1 A2 p) (hrl : Rd w B 1 A l.length (l.map I)) :
    Calls Try.prog 73 #[.agg #[.int .i64 p.n, .slice A1 p.s.length c1, .slice A2 p.o.length c2], .slice A l.length c] w fun e w' =>
      ∃ B1 B2 d1 d2, e = .returned (.agg #[.int .i64 (N : Int), .slice B1 l.length d1, .slice B2 p.o.length d2]) ∧ OwS w' w.heap.size (.slice B1 l.length d1) (keepS p N l l.length) ∧ OwI w' w.heap.size (.slice B2 p.o.length d2) (keepO p N l p.o.length) ∧ Below w.heap.size w w' := by
  have H := Lib.hid hr
  have HL := Lib.hid hrl
  have HLR := Lib.hid hlr
  have HO := Lib.hid hok
  have HOUT := Lib.hid hout
  clear hr hrl hlr hok hout
  rw [hpn]
  clear hpn
  go_enter Try.func73, Try.ntmps73
  go_wp2
  generalize hw3 : World.alloc (World.alloc (World.alloc w _) _) _ = w3
  have q0 : w3.heap[w.heap.size]? = some (.cells #[.int .i64 (N : Int), .slice A1 p.s.length c1, .slice A2 p.o.length c2] 39 (0, 0)) := by
    rw [← hw3, Below.heap_alloc _ _ _ (by simp; omega), Below.heap_alloc _ _ _ (by simp)]; exact heap_alloc_new w _
  have q1 : w3.heap[w.heap.size + 1]? = some (.cells #[.int .i64 0, .slice none 0 0, .slice none 0 0] 39 (0, 0)) := by
    rw [← hw3, Below.heap_alloc _ _ _ (by simp)]
    have := heap_alloc_new (w.alloc (.cells #[.int .i64 (N : Int), .slice A1 p.s.length c1, .slice A2 p.o.length c2] 39)) (.cells #[.int .i64 0, .slice none 0 0, .slice none 0 0] 39)
    simpa using this
  have q2 : w3.heap[w.heap.size + 2]? = some (.cells #[.int .i64 (N : Int), .slice none 0 0, .slice none 0 0] 39 (0, 0)) := by
    rw [← hw3]
    have := heap_alloc_new ((w.alloc (.cells #[.int .i64 (N : Int), .slice A1 p.s.length c1, .slice A2 p.o.length c2] 39)).alloc (.cells #[.int .i64 0, .slice none 0 0, .slice none 0 0] 39)) (.cells #[.int .i64 (N : Int), .slice none 0 0, .slice none 0 0] 39)
    simpa using this
  have hs3 : w3.heap.size = w.heap.size + 3 := by rw [← hw3]; simp
  have hb3 : Below w.heap.size w w3 := by rw [← hw3]; exact (((Below.refl _ _).alloc (Nat.le_refl _) _).alloc (by simp) _).alloc (by simp; omega) _
  clear hw3
  have Q0 := Lib.hid q0
  have Q1 := Lib.hid q1
  have Q2 := Lib.hid q2
  have HB3 := Lib.hid hb3
  have HS3 := Lib.hid hs3
  clear q0 q1 q2 hb3 hs3
  go_loopw [16] (fun iv wr => ∃ (k : Nat) (B1 : Option Addr) (d1 : Nat), k ≤ l.length ∧ iv = .int .i64 k ∧ wr.heap[w.heap.size + 2]? = some (.cells #[.int .i64 (N : Int), .slice B1 k d1, .slice none 0 0] 39 (0, 0)) ∧
    wr.ownsRow (w.heap.size + 3) 51 2 (.slice B1 k d1) k (fl (keepS p N l k)) ∧ Below (w.heap.size + 2) w3 wr) (fun i _ => l.length - (intOf i).toNat)
  case atStart => exact ⟨0, none, 0, by omega, rfl, Q2.out, World.ownsRow_nil _ _ _ _, Below.refl _ _⟩
  case round =>
    obtain ⟨k, B1, d1, hk, rfl, hbox, hown, hbel⟩ := hrel
    have hsz : w.heap.size + 3 ≤ wr.heap.size := by have := HS3.out; have := hbel.size; omega
    have r0 := (hbel.block w.heap.size (by omega)).trans Q0.out
    have a0 : wr.cell? ⟨w.heap.size, 0, none⟩ = some (.int .i64 (N : Int)) := by rw [cell_of_row wr _ 0 _ _ (0, 0) r0]; rfl
    have a1 : wr.cell? ⟨w.heap.size, 1, none⟩ = some (.slice A1 p.s.length c1) := by rw [cell_of_row wr _ 1 _ _ (0, 0) r0]; rfl
    have a2 : wr.cell? ⟨w.heap.size, 2, none⟩ = some (.slice A2 p.o.length c2) := by rw [cell_of_row wr _ 2 _ _ (0, 0) r0]; rfl
    have b1 : wr.cell? ⟨w.heap.size + 2, 1, none⟩ = some (.slice B1 k d1) := by rw [cell_of_row wr _ 1 _ _ (0, 0) hbox]; rfl
    by_cases hlt : k < l.length
    · obtain ⟨o1, o2⟩ := HLR.out _ (List.getElem_mem hlt)
      obtain ⟨n, hn⟩ : ∃ n : Nat, l[k] = n := ⟨(l[k]).toNat, by omega⟩
      have hns : n < p.s.length := by omega
      have ins : (n : Int) < (p.s.length : Int) := by omega
      obtain ⟨lb, lo, rfl, hlb, hlc⟩ := ((HL.out.below' HB3.out hB).below' hbel (by omega)).int hlt
      rw [hn] at hlc
      obtain ⟨sb, off, rfl, hsb, hc1, hc2⟩ := ((H.out.1.below' HB3.out hB).below' hbel (by omega)).stp hns
      obtain ⟨s1, s2, s3⟩ := HO.out n hns
      obtain ⟨a, ha⟩ : ∃ a, (p.s[n]).1 = a := ⟨_, rfl⟩
      obtain ⟨b, hb⟩ : ∃ b, (p.s[n]).2 = b := ⟨_, rfl⟩
      rw [ha] at hc1 s1 s2
      rw [hb] at hc2 s2 s3
      have ba := numI_bd (l := l) h6 s1
      have bb := numI_bd (l := l) h6 (show 0 ≤ b by omega)
      have hst := keepS_succ (p := p) (N := N) hlt hn hns
      rw [ha, hb] at hst
      have hpa := fun W hBW hrW => plNumber_any B N (.slice (some ⟨sb, off, none⟩) p.s.length c1) (.slice A2 p.o.length c2) (some ⟨lb, lo, none⟩) c l a W h6 (by omega) s1 (by omega) hBW hrW
      have hpb := fun W hBW hrW => plNumber_any B N (.slice (some ⟨sb, off, none⟩) p.s.length c1) (.slice A2 p.o.length c2) (some ⟨lb, lo, none⟩) c l b W h6 (by omega) (by omega) (by omega) hBW hrW
      obtain ⟨x, hx⟩ : ∃ x, numI N l a = x := ⟨_, rfl⟩
      obtain ⟨y, hy⟩ : ∃ y, numI N l b = y := ⟨_, rfl⟩
      rw [hx] at hpa hst
      rw [hy] at hpb hst
      have HPA := Lib.hid hpa
      have HPB := Lib.hid hpb
      have HST := Lib.hid hst
      have OWN := Lib.hid hown
      have HBX := Lib.hid hbox
      have HBL := Lib.hid hbel
      clear hpa hpb hst hown hbox hbel ha hb hx hy ba bb s1 s2 s3 o1 o2 hn r0
      go_wp2
      generalize hw4 : World.alloc wr _ = w4
      obtain ⟨e0, e1, es, eb⟩ := box2 hw4
      clear hw4
      have a0' := (eb.cell (p := ⟨w.heap.size, 0, none⟩) (by simp only []; omega)).trans a0
      have a1' := (eb.cell (p := ⟨w.heap.size, 1, none⟩) (by simp only []; omega)).trans a1
      have a2' := (eb.cell (p := ⟨w.heap.size, 2, none⟩) (by simp only []; omega)).trans a2
      have b1' := (eb.cell (p := ⟨w.heap.size + 2, 1, none⟩) (by simp only []; omega)).trans b1
      have EB := Lib.hid eb
      have FS : ∀ x, Below w4.heap.size w4 x → x.cell? ⟨w.heap.size, 0, none⟩ = some (.int .i64 (N : Int)) ∧ x.cell? ⟨w.heap.size, 1, none⟩ = some (.slice (some ⟨sb, off, none⟩) p.s.length c1) ∧ x.cell? ⟨w.heap.size, 2, none⟩ = some (.slice A2 p.o.length c2) ∧
          x.cell? ⟨w.heap.size + 2, 1, none⟩ = some (.slice B1 k d1) ∧ x.cell? ⟨wr.heap.size, 0, none⟩ = some (.int .i64 a) ∧ x.cell? ⟨wr.heap.size, 1, none⟩ = some (.int .i64 b) := fun x hx =>
        ⟨(hx.cell (p := ⟨w.heap.size, 0, none⟩) (by simp only []; omega)).trans a0', (hx.cell (p := ⟨w.heap.size, 1, none⟩) (by simp only []; omega)).trans a1', (hx.cell (p := ⟨w.heap.size, 2, none⟩) (by simp only []; omega)).trans a2',
          (hx.cell (p := ⟨w.heap.size + 2, 1, none⟩) (by simp only []; omega)).trans b1', (hx.cell (p := ⟨wr.heap.size, 0, none⟩) (by simp only []; omega)).trans e0, (hx.cell (p := ⟨wr.heap.size, 1, none⟩) (by simp only []; omega)).trans e1⟩
      have FSH := Lib.hid FS
      have S0 := Lib.hid (show Below w4.heap.size w4 w4.drew from (Below.refl _ _).drew)
      clear a0 a1 a2 b1 eb hc1 hc2 a0' a1' a2' b1' e0 e1 FS
      refine wp_region_T (fun x : World => Below w4.heap.size w4 x) [0, 1, 2, 3, 4, 5, 7, 8, 9, 10, 15] [1, 2, 5, 7, 10] (.lp 0 (.lp 3 (.lp 4 (.lp 8 (.lp 9 (.ls 1 (.ls 2 (.ls 5 (.ls 7 (.ls 10 (.hv 6 (.hv 11 (.hv 12 (.hv 13 (.hv 14 (.lp 15 (.hv 16 (.done)))))))))))))))))) (by kernel_rfl) (by kernel_rfl) ?_
      (repeat (refine T_lp rfl (fun K hK => ?_); go_simp; refine hK _ ?_; clear hK K))
      refine T_ls1 (v := .slice B1 k d1) rfl rfl S0.out (fun x hx => (by obtain ⟨h0, h1, h2, h3, h4, h5⟩ := FSH.out x hx; go_simp)) (fun K hK => ?_)
      (go_simp; refine hK _ ?_; clear hK K)
      refine T_ls1 (v := .agg #[.int .i64 (N : Int), .slice (some ⟨sb, off, none⟩) p.s.length c1, .slice A2 p.o.length c2]) rfl rfl S0.out (fun x hx => (by obtain ⟨h0, h1, h2, h3, h4, h5⟩ := FSH.out x hx; go_simp)) (fun K hK => ?_)
      (go_simp; refine hK _ ?_; clear hK K)
      refine T_ls1 (v := .int .i64 a) rfl rfl S0.out (fun x hx => (by obtain ⟨h0, h1, h2, h3, h4, h5⟩ := FSH.out x hx; go_simp)) (fun K hK => ?_)
      (go_simp; refine hK _ ?_; clear hK K)
      refine T_ls1 (v := .agg #[.int .i64 (N : Int), .slice (some ⟨sb, off, none⟩) p.s.length c1, .slice A2 p.o.length c2]) rfl rfl S0.out (fun x hx => (by obtain ⟨h0, h1, h2, h3, h4, h5⟩ := FSH.out x hx; go_simp)) (fun K hK => ?_)
      (go_simp; refine hK _ ?_; clear hK K)
      refine T_ls1 (v := .int .i64 b) rfl rfl S0.out (fun x hx => (by obtain ⟨h0, h1, h2, h3, h4, h5⟩ := FSH.out x hx; go_simp)) (fun K hK => ?_)
      (go_simp; refine hK _ ?_; clear hK K)
      refine T_hvS rfl (fun K hK => ?_)
      go_simp
      go_at_call 87
      have hbw4 : Below w.heap.size w w4 := HB3.out.trans ((HBL.out.mono (by omega)).trans (EB.out.mono (by omega)))
      refine (HPA.out w4.drew (by have := hbw4.size; simp; omega) ((HL.out.below' hbw4 hB).drew)).mono ?_
      rintro e w5 ⟨rfl, hb5⟩
      have hb45 : Below w4.heap.size w4 w5 := (Below.refl _ _).drew.trans (hb5.mono (by simp))
      go_simp
      refine hK _ _ hb45 ?_
      clear hK K
      refine T_hvS rfl (fun K hK => ?_)
      go_simp
      go_at_call 87
      have hbw5 : Below w.heap.size w w5 := hbw4.trans (hb45.mono hbw4.size)
      refine (HPB.out w5 (by have := hbw5.size; omega) (HL.out.below' hbw5 hB)).mono ?_
      rintro e w6 ⟨rfl, hb6⟩
      have hb46 : Below w4.heap.size w4 w6 := hb45.trans (hb6.mono hb45.size)
      go_simp
      refine hK _ _ hb46 ?_
      clear hK K
      refine T_hvS rfl (fun K hK => ?_)
      go_simp
      go_at_call 86
      refine (plStep_any _ _ _).mono ?_
      rintro e w7 ⟨rfl, hb7⟩
      have hb47 : Below w4.heap.size w4 w7 := hb46.trans (hb7.mono hb46.size)
      have hbr7 : Below wr.heap.size wr w7 := EB.out.trans (hb47.mono EB.out.size)
      have OW7 := Lib.hid (own_below OWN.out hbr7)
      have BX7 := Lib.hid ((hbr7.block (w.heap.size + 2) (by omega)).trans HBX.out)
      have HB7 := Lib.hid (HBL.out.trans (hbr7.mono (by omega)))
      have hs7 : w.heap.size + 3 ≤ w7.heap.size := by have := hbr7.size; omega
      have HB47 := Lib.hid hb47
      clear hb5 hb6 hb7 hb45 hb46 hbr7 hbw4 hbw5
      go_simp
      refine hK _ _ hb47 ?_
      clear hK K hb47
      refine T_hvS rfl (fun K hK => ?_)
      go_simp
      refine hK _ _ (HB47.out.alloc HB47.out.size _) ?_
      clear hK K
      refine T_hv rfl (by kernel_rfl) (fun K hK => ?_)
      refine step_app2 Try.underlying26 info_step rfl (by omega) rfl (.tmp 26) (.tmp 38) rfl (w.heap.size + 3) k _ (fl (keepS p N l k)) rfl (World.ownsRow.alloc OW7.out _) w7.heap.size 1 (I (leastI x y)) (I (mostI x y)) rfl (by simp) (by simp) rfl rfl (by omega) (by simp; omega) ?_
      intro A4 c4 w8 hown8 hg8 hbel8
      have bx8 : w8.heap[w.heap.size + 2]? = _ := (hbel8.block (w.heap.size + 2) (by omega)).trans ((Below.heap_alloc w7 _ (w.heap.size + 2) (by omega)).trans BX7.out)
      have k0 : w8.cell? ⟨w.heap.size + 2, 1, none⟩ = some (.slice B1 k d1) := by rw [cell_of_row w8 _ 1 _ _ (0, 0) bx8]; rfl
      have k1 : w8.frozen? ⟨w.heap.size + 2, 1, none⟩ = false := frozen_of_row w8 _ 1 _ _ bx8
      have BX8 := Lib.hid bx8
      clear bx8
      (go_simp; refine hK _ _ ?_; clear hK K)
      (repeat (first | (refine T_lp rfl (fun K hK => ?_); go_simp; refine hK _ ?_; clear hK K) | (refine T_ls rfl rfl (fun K hK => ?_); go_simp; refine hK _ ?_; clear hK K)))
      (refine T_hv rfl (by kernel_rfl) (fun K hK => ?_); go_simp; refine hK _ _ ?_; clear hK K)
      refine T_done ?_
      go_wp2
      go_roundw
      case rel =>
        refine ⟨k + 1, A4, c4, by omega, by go_num, ?_, ?_, (((HB7.out.alloc (by omega) _).trans (hbel8.mono (by omega))).setCell (by simp) _)⟩
        · rw [heap_setCell_same w8 _ 1 _ _ _ BX8.out]; rfl
        · have h := own_set (o := 1) hown8 BX8.out (by decide) (.slice A4 (k + 1) c4)
          rw [HST.out, fl_snoc]
          exact h
      case measure => simp [intOf]; omega
    · have hk' : k = l.length := by omega
      subst hk'
      have v2 := a2
      have BX := Lib.hid hbox
      have OWN := Lib.hid hown
      have HB4 := Lib.hid hbel
      have HZ := Lib.hid hsz
      clear a0 a1 a2 b1 hbox hown hbel hsz r0
      go_wp2
      go_loopw [45] (fun iv wq => ∃ (j : Nat) (B2 : Option Addr) (d2 : Nat), j ≤ p.o.length ∧ iv = .int .i64 j ∧ wq.heap[w.heap.size + 2]? = some (.cells #[.int .i64 (N : Int), .slice B1 l.length d1, .slice B2 j d2] 39 (0, 0)) ∧
        wq.ownsRow (w.heap.size + 3) 51 2 (.slice B1 l.length d1) l.length (fl (keepS p N l l.length)) ∧ wq.ownsRow (w.heap.size + 3) 3 1 (.slice B2 j d2) j ((keepO p N l j).map I) ∧ Below (w.heap.size + 2) w3 wq) (fun i _ => p.o.length - (intOf i).toNat)
      case atStart => exact ⟨0, none, 0, by omega, rfl, BX.out, OWN.out, World.ownsRow_nil _ _ _ _, HB4.out⟩
      case round =>
        obtain ⟨j, B2, d2, hj, rfl, hbox, hown, howo, hbel⟩ := hrel
        have hsz : w.heap.size + 3 ≤ wr.heap.size := by have := HS3.out; have := hbel.size; omega
        have r0 := (hbel.block w.heap.size (by omega)).trans Q0.out
        have a0 : wr.cell? ⟨w.heap.size, 0, none⟩ = some (.int .i64 (N : Int)) := by rw [cell_of_row wr _ 0 _ _ (0, 0) r0]; rfl
        have a1 : wr.cell? ⟨w.heap.size, 1, none⟩ = some (.slice A1 p.s.length c1) := by rw [cell_of_row wr _ 1 _ _ (0, 0) r0]; rfl
        have a2 : wr.cell? ⟨w.heap.size, 2, none⟩ = some (.slice A2 p.o.length c2) := by rw [cell_of_row wr _ 2 _ _ (0, 0) r0]; rfl
        have b2 : wr.cell? ⟨w.heap.size + 2, 2, none⟩ = some (.slice B2 j d2) := by rw [cell_of_row wr _ 2 _ _ (0, 0) hbox]; rfl
        by_cases hlt : j < p.o.length
        · obtain ⟨ob, oo, rfl, hob, hoc⟩ := ((H.out.2.below' HB3.out hB).below' hbel (by omega)).int hlt
          obtain ⟨o1, o2⟩ := HOUT.out _ (List.getElem_mem hlt)
          have hst := keepO_succ (p := p) (N := N) (l := l) hlt
          obtain ⟨v, hv⟩ : ∃ v, p.o[j] = v := ⟨_, rfl⟩
          rw [hv] at hoc o1 o2 hst
          have hpa := fun W hBW hrW => plNumber_any B N (.slice A1 p.s.length c1) (.slice (some ⟨ob, oo, none⟩) p.o.length c2) A c l v W h6 (by omega) o1 (by omega) hBW hrW
          obtain ⟨x, hx⟩ : ∃ x, numI N l v = x := ⟨_, rfl⟩
          rw [hx] at hpa hst
          have HPA := Lib.hid hpa
          have HST := Lib.hid hst
          have OWS := Lib.hid hown
          have OWO := Lib.hid howo
          have HBX := Lib.hid hbox
          have HBL := Lib.hid hbel
          clear hpa hst hown howo hbox hbel hv hx o1 o2 r0
          go_wp2
          have FS : ∀ x, Below wr.heap.size wr x → x.cell? ⟨w.heap.size, 0, none⟩ = some (.int .i64 (N : Int)) ∧ x.cell? ⟨w.heap.size, 1, none⟩ = some (.slice A1 p.s.length c1) ∧ x.cell? ⟨w.heap.size, 2, none⟩ = some (.slice (some ⟨ob, oo, none⟩) p.o.length c2) ∧
              x.cell? ⟨w.heap.size + 2, 2, none⟩ = some (.slice B2 j d2) := fun x hx =>
            ⟨(hx.cell (p := ⟨w.heap.size, 0, none⟩) (by simp only []; omega)).trans a0, (hx.cell (p := ⟨w.heap.size, 1, none⟩) (by simp only []; omega)).trans a1, (hx.cell (p := ⟨w.heap.size, 2, none⟩) (by simp only []; omega)).trans a2,
              (hx.cell (p := ⟨w.heap.size + 2, 2, none⟩) (by simp only []; omega)).trans b2⟩
          have FSH := Lib.hid FS
          have S0 := Lib.hid (show Below wr.heap.size wr wr.drew from (Below.refl _ _).drew)
          clear a0 a1 a2 b2 FS
          refine wp_region_T (fun x : World => Below wr.heap.size wr x) [0, 1, 2, 3, 4, 8] [1, 2] (.lp 0 (.lp 3 (.lp 4 (.ls 1 (.ls 2 (.hv 5 (.hv 6 (.hv 7 (.lp 8 (.hv 9 (.done))))))))))) (by kernel_rfl) (by kernel_rfl) ?_
          (repeat (refine T_lp rfl (fun K hK => ?_); go_simp; refine hK _ ?_; clear hK K))
          refine T_ls1 (v := .slice B2 j d2) rfl rfl S0.out (fun x hx => (by obtain ⟨h0, h1, h2, h3⟩ := FSH.out x hx; go_simp)) (fun K hK => ?_)
          (go_simp; refine hK _ ?_; clear hK K)
          refine T_ls1 (v := .agg #[.int .i64 (N : Int), .slice A1 p.s.length c1, .slice (some ⟨ob, oo, none⟩) p.o.length c2]) rfl rfl S0.out (fun x hx => (by obtain ⟨h0, h1, h2, h3⟩ := FSH.out x hx; go_simp)) (fun K hK => ?_)
          (go_simp; refine hK _ ?_; clear hK K)
          refine T_hvS rfl (fun K hK => ?_)
          go_simp
          go_at_call 87
          have hbw4 : Below w.heap.size w wr := HB3.out.trans (HBL.out.mono (by omega))
          refine (HPA.out wr.drew (by simp; omega) ((HL.out.below' hbw4 hB).drew)).mono ?_
          rintro e w5 ⟨rfl, hb5⟩
          have hb45 : Below wr.heap.size wr w5 := (Below.refl _ _).drew.trans (hb5.mono (by simp))
          have OS5 := Lib.hid (own_below OWS.out hb45)
          have OO5 := Lib.hid (own_below OWO.out hb45)
          have BX5 := Lib.hid ((hb45.block (w.heap.size + 2) (by omega)).trans HBX.out)
          have HB5 := Lib.hid (HBL.out.trans (hb45.mono (by omega)))
          have hs5 : w.heap.size + 3 ≤ w5.heap.size := by have := hb45.size; omega
          have HB45 := Lib.hid hb45
          clear hb5 hbw4
          go_simp
          refine hK _ _ hb45 ?_
          clear hK K hb45
          refine T_hvS rfl (fun K hK => ?_)
          go_simp
          refine hK _ _ (HB45.out.alloc HB45.out.size _) ?_
          clear hK K
          refine T_hv rfl (by kernel_rfl) (fun K hK => ?_)
          refine step_app1 Try.underlying22 info_int rfl (by omega) rfl (.tmp 50) (.tmp 55) rfl (w.heap.size + 3) j _ ((keepO p N l j).map I) rfl (World.ownsRow.alloc OO5.out _) w5.heap.size 1 (I x) rfl (by simp) rfl (by omega) (by simp; omega) ?_
          intro A4 c4 w8 hown8 hg8 hbel8
          have bx8 : w8.heap[w.heap.size + 2]? = _ := (hbel8.block (w.heap.size + 2) (by omega)).trans ((Below.heap_alloc w5 _ (w.heap.size + 2) (by omega)).trans BX5.out)
          have k0 : w8.cell? ⟨w.heap.size + 2, 2, none⟩ = some (.slice B2 j d2) := by rw [cell_of_row w8 _ 2 _ _ (0, 0) bx8]; rfl
          have k1 : w8.frozen? ⟨w.heap.size + 2, 2, none⟩ = false := frozen_of_row w8 _ 2 _ _ bx8
          have os8 := World.ownsRow.kept (World.ownsRow.alloc OS5.out (Obj.cells #[Value.int IntKind.i64 x] 3)) hg8 (own_ne (World.ownsRow.alloc OS5.out (Obj.cells #[Value.int IntKind.i64 x] 3)) (World.ownsRow.alloc OO5.out _) (by decide))
          have BX8 := Lib.hid bx8
          have OS8 := Lib.hid os8
          clear bx8 os8 hg8
          (go_simp; refine hK _ _ ?_; clear hK K)
          (repeat (first | (refine T_lp rfl (fun K hK => ?_); go_simp; refine hK _ ?_; clear hK K) | (refine T_ls rfl rfl (fun K hK => ?_); go_simp; refine hK _ ?_; clear hK K)))
          (refine T_hv rfl (by kernel_rfl) (fun K hK => ?_); go_simp; refine hK _ _ ?_; clear hK K)
          refine T_done ?_
          go_wp2
          go_roundw
          case rel =>
            refine ⟨j + 1, A4, c4, by omega, by go_num, ?_, own_set (o := 2) OS8.out BX8.out (by decide) _, ?_, (((HB5.out.alloc (by omega) _).trans (hbel8.mono (by omega))).setCell (by simp) _)⟩
            · rw [heap_setCell_same w8 _ 2 _ _ _ BX8.out]; rfl
            · rw [HST.out, List.map_append]
              exact own_set (o := 2) hown8 BX8.out (by decide) (.slice A4 (j + 1) c4)
          case measure => simp [intOf]; omega
        · have hj' : j = p.o.length := by omega
          subst hj'
          have b0 : wr.cell? ⟨w.heap.size + 2, 0, none⟩ = some (.int .i64 (N : Int)) := by rw [cell_of_row wr _ 0 _ _ (0, 0) hbox]; rfl
          have b1 : wr.cell? ⟨w.heap.size + 2, 1, none⟩ = some (.slice B1 l.length d1) := by rw [cell_of_row wr _ 1 _ _ (0, 0) hbox]; rfl
          have r1 := (hbel.block (w.heap.size + 1) (by omega)).trans Q1.out
          have t0 : wr.cell? ⟨w.heap.size + 1, 0, none⟩ = some (.int .i64 0) := by rw [cell_of_row wr _ 0 _ _ (0, 0) r1]; rfl
          have t1 : wr.cell? ⟨w.heap.size + 1, 1, none⟩ = some (.slice none 0 0) := by rw [cell_of_row wr _ 1 _ _ (0, 0) r1]; rfl
          have t2 : wr.cell? ⟨w.heap.size + 1, 2, none⟩ = some (.slice none 0 0) := by rw [cell_of_row wr _ 2 _ _ (0, 0) r1]; rfl
          have g0 : wr.frozen? ⟨w.heap.size + 1, 0, none⟩ = false := frozen_of_row wr _ 0 _ _ r1
          have g1 : wr.frozen? ⟨w.heap.size + 1, 1, none⟩ = false := frozen_of_row wr _ 1 _ _ r1
          have g2 : wr.frozen? ⟨w.heap.size + 1, 2, none⟩ = false := frozen_of_row wr _ 2 _ _ r1
          have R1 := Lib.hid r1
          have OWS := Lib.hid hown
          have OWO := Lib.hid howo
          have HBL := Lib.hid (HB3.out.trans (hbel.mono (show w.heap.size ≤ w.heap.size + 2 by omega)))
          clear a0 a1 a2 r0 r1 hbox hown howo hbel
          go_wp2
          refine bodyPost_ret (v := .agg #[.int .i64 (N : Int), .slice B1 l.length d1, .slice B2 p.o.length d2]) (by simp [results, Try.results73, go_sem, t0, t1, t2]) rfl ⟨B1, B2, d1, d2, rfl, ?_, ?_, ?_⟩
          · have h := own_set3 (own_base OWS.out (show w.heap.size ≤ w.heap.size + 3 by omega)) R1.out (by decide) (.int .i64 (N : Int)) (.slice B1 l.length d1) (.slice B2 p.o.length d2)
            show World.ownsRow _ _ _ _ _ _ _
            rw [keepS_len p N l (Nat.le_refl _)]
            exact h
          · have h := own_set3 (own_base OWO.out (show w.heap.size ≤ w.heap.size + 3 by omega)) R1.out (by decide) (.int .i64 (N : Int)) (.slice B1 l.length d1) (.slice B2 p.o.length d2)
            show World.ownsRow _ _ _ _ _ _ _
            rw [keepO_len p N l (Nat.le_refl _)]
            exact h
          · exact ((HBL.out.setCell (by simp) _).setCell (by simp) _).setCell (by simp) _
end Go.Proofs.Ytbbjgcagkmlngac
/- New numbers of values: the program's small functions. -/
namespace Go.Proofs.Ytbbjgcagkmlngac
open Go.RowKit

def ups (n : Nat) : List Int := (List.range n).map fun i : Nat => (i : Int)
theorem ups_length (n : Nat) : (ups n).length = n := by simp [ups]
theorem ups_succ (n : Nat) : ups (n + 1) = ups n ++ [(n : Int)] := by
  unfold ups
  rw [List.range_succ, List.map_append]
  rfl
/-- One more cell of a row that is being filled. -/
theorem fill_next (l : List Int) (x : Int) {n k : Nat} (hl : l.length = k) (hk : k < n) :
    (l.map I ++ List.replicate (n - k) (I 0)).set k (I x) = (l ++ [x]).map I ++ List.replicate (n - (k + 1)) (I 0) := by
  rw [List.set_append_right _ _ (by simp; omega), List.length_map, hl, Nat.sub_self, show n - k = (n - (k + 1)) + 1 from by omega, List.replicate_succ, List.set_cons_zero]
  simp
theorem zeros_row {w : World} {B : Nat} (n : Nat) (hn : n ≤ 1000) (hB : B ≤ w.heap.size) :
    (w.alloc (.cells (madeCells #[Value.int .i64 0] n) 3)).ownsRow B 3 1 (.slice (some ⟨w.heap.size, 0, none⟩) n n) n (List.replicate n (I 0)) := by
  have h := World.ownsRow_lit (base := B) (e := 3) (size := 1) w (madeCells #[Value.int .i64 0] n) n hB (by unfold maxLen; omega) (by simp [size_madeCells])
  rw [toList_madeCells_one] at h
  exact h

set_option maxRecDepth 100000 in
set_option maxHeartbeats 1000000 in
theorem firstNumbers_any (N : Nat) (w : World) (h6 : N ≤ 1000) :
    Calls Try.prog 94 #[.int .i64 (N : Int)] w fun e w' => ∃ A c, e = .returned (.slice A N c) ∧ OwI w' w.heap.size (.slice A N c) (ups N) ∧ Below w.heap.size w w' := by
  have hmk := run_make_row' (P := Try.prog) 22 3 (.int .i64 0) 8 Try.underlying22 info_int rfl .i64 .i64 N (by omega) (by omega)
  go_enter Try.func94, Try.ntmps94
  go_wp2
  clear hmk
  generalize hw2 : World.alloc w _ = w2
  have hmade : w2.ownsRow w.heap.size 3 1 (.slice (some ⟨w.heap.size, 0, none⟩) N N) N (List.replicate N (I 0)) := by rw [← hw2]; exact zeros_row N h6 (Nat.le_refl _)
  have hb2 : Below w.heap.size w w2 := by rw [← hw2]; exact (Below.refl _ _).alloc (Nat.le_refl _) _
  clear hw2
  have HM := Lib.hid hmade
  have HB2 := Lib.hid hb2
  clear hmade hb2
  go_loopw [9] (fun i wr => ∃ k : Nat, k ≤ N ∧ i = .int .i64 k ∧ wr.ownsRow w.heap.size 3 1 (.slice (some ⟨w.heap.size, 0, none⟩) N N) N ((ups k).map I ++ List.replicate (N - k) (I 0)) ∧ Below w.heap.size w wr) (fun i _ => N - (intOf i).toNat)
  case atStart => exact ⟨0, by omega, rfl, by simpa [ups] using HM.out, HB2.out⟩
  case round =>
    obtain ⟨k, hk, rfl, hown, hbel⟩ := hrel
    have OWN := Lib.hid hown
    have BEL := Lib.hid hbel
    by_cases hlt : k < N
    · have hc : wr.cell? ⟨w.heap.size, k, none⟩ = some (I 0) := by
        rw [hown.cellAt _ (by omega)]
        exact rep_at (by simp [ups_length]) (by simp [ups_length]; omega)
      have hf : wr.frozen? ⟨w.heap.size, k, none⟩ = false := hown.frozenAt _
      clear hown hbel
      go_wp2
      go_roundw
      case rel =>
        refine ⟨k + 1, by omega, by go_num, ?_, BEL.out.setCell (Nat.le_refl _) _⟩
        have h := (OWN.out.stored k (I (k : Int))).1
        rw [fill_next (ups k) k (ups_length k) hlt, ← ups_succ] at h
        exact h
      case measure => simp [intOf]; omega
    · have hk' : k = N := by omega
      subst hk'
      clear hown hbel
      go_wp2
      go_ret
      have h := OWN.out
      refine ⟨_, _, rfl, ?_, BEL.out⟩
      show World.ownsRow _ _ _ _ _ _ _
      rw [ups_length]
      simpa using h

set_option maxRecDepth 100000 in
set_option maxHeartbeats 1000000 in
theorem renamed_any (B : Nat) (A A' : Option Addr) (c c' : Nat) (o nm : List Int) (w : World) (hm : o.length ≤ 1000) (hB : B ≤ w.heap.size) (hin : ∀ x ∈ o, 0 ≤ x ∧ x < nm.length) (hr : Rd w B 1 A o.length (o.map I)) (hr' : Rd w B 1 A' nm.length (nm.map I)) :
    Calls Try.prog 96 #[.slice A o.length c, .slice A' nm.length c'] w fun e w' => ∃ A2 c2, e = .returned (.slice A2 o.length c2) ∧ OwI w' w.heap.size (.slice A2 o.length c2) (o.map fun x => nm.getD x.toNat 0) ∧ Below w.heap.size w w' := by
  have H := Lib.hid hr
  have H' := Lib.hid hr'
  have HIN := Lib.hid hin
  clear hr hr' hin
  have hmk := run_make_row' (P := Try.prog) 22 3 (.int .i64 0) 8 Try.underlying22 info_int rfl .i64 .i64 o.length (by omega) (by omega)
  go_enter Try.func96, Try.ntmps96
  go_wp2
  clear hmk
  generalize hw2 : World.alloc w _ = w2
  have hmade : w2.ownsRow w.heap.size 3 1 (.slice (some ⟨w.heap.size, 0, none⟩) o.length o.length) o.length (List.replicate o.length (I 0)) := by rw [← hw2]; exact zeros_row o.length hm (Nat.le_refl _)
  have hb2 : Below w.heap.size w w2 := by rw [← hw2]; exact (Below.refl _ _).alloc (Nat.le_refl _) _
  clear hw2
  have HM := Lib.hid hmade
  have HB2 := Lib.hid hb2
  clear hmade hb2
  go_loopw [13] (fun i wr => ∃ k : Nat, k ≤ o.length ∧ i = .int .i64 k ∧ wr.ownsRow w.heap.size 3 1 (.slice (some ⟨w.heap.size, 0, none⟩) o.length o.length) o.length (((o.take k).map fun x => nm.getD x.toNat 0).map I ++ List.replicate (o.length - k) (I 0)) ∧ Below w.heap.size w wr) (fun i _ => o.length - (intOf i).toNat)
  case atStart => exact ⟨0, by omega, rfl, by simpa using HM.out, HB2.out⟩
  case round =>
    obtain ⟨k, hk, rfl, hown, hbel⟩ := hrel
    have OWN := Lib.hid hown
    have BEL := Lib.hid hbel
    by_cases hlt : k < o.length
    · obtain ⟨ob, oo, rfl, hob, hoc⟩ := (H.out.below' hbel hB).int hlt
      obtain ⟨q1, q2⟩ := HIN.out _ (List.getElem_mem hlt)
      obtain ⟨v, hv⟩ : ∃ v : Nat, o[k] = v := ⟨(o[k]).toNat, by omega⟩
      rw [hv] at hoc q2
      have hvl : v < nm.length := by omega
      obtain ⟨nb, no, rfl, hnb, hnc⟩ := (H'.out.below' hbel hB).int hvl
      have hkl : (List.map I (List.map (fun x => nm.getD x.toNat 0) (List.take k o))).length = k := by simp; omega
      have hc : wr.cell? ⟨w.heap.size, k, none⟩ = some (I 0) := by
        rw [hown.cellAt _ (by omega)]
        exact rep_at (by omega) (by omega)
      have hf : wr.frozen? ⟨w.heap.size, k, none⟩ = false := hown.frozenAt _
      have HV := Lib.hid hv
      clear hown hbel hkl hv q1
      go_wp2
      go_roundw
      case rel =>
        refine ⟨k + 1, by omega, by go_num, ?_, BEL.out.setCell (Nat.le_refl _) _⟩
        have h := (OWN.out.stored k (I nm[v])).1
        rw [fill_next _ nm[v] (by simp; omega) hlt] at h
        have e : (List.take (k + 1) o).map (fun x => nm.getD x.toNat 0) = (List.take k o).map (fun x => nm.getD x.toNat 0) ++ [nm[v]] := by
          rw [List.take_succ_eq_append_getElem hlt, List.map_append, HV.out]
          simp [hvl]
        rw [e]
        exact h
      case measure => simp [intOf]; omega
    · have hk' : k = o.length := by omega
      subst hk'
      clear hown hbel
      go_wp2
      go_ret
      have h := OWN.out
      rw [List.take_of_length_le (Nat.le_refl _)] at h
      refine ⟨_, _, rfl, ?_, BEL.out⟩
      show World.ownsRow _ _ _ _ _ _ _
      rw [List.length_map]
      simpa using h


set_option maxRecDepth 100000 in
set_option maxHeartbeats 1000000 in
theorem renamedStep_any (B a b : Nat) (A : Option Addr) (c : Nat) (nm : List Int) (w : World) (hB : B ≤ w.heap.size) (ha : a < nm.length) (hb : b < nm.length) (hr : Rd w B 1 A nm.length (nm.map I)) :
    Calls Try.prog 95 #[.agg #[.int .i64 (a : Int), .int .i64 (b : Int)], .slice A nm.length c] w fun e w' => e = .returned (.agg #[.int .i64 (leastI nm[a] nm[b]), .int .i64 (mostI nm[a] nm[b])]) ∧ Below w.heap.size w w' := by
  obtain ⟨nb, no, rfl, hnb, hca⟩ := hr.int ha
  obtain ⟨nb', no', h2, _, hcb⟩ := hr.int hb
  obtain ⟨rfl, rfl⟩ : nb = nb' ∧ no = no' := by
    injection h2 with h2
    injection h2 with e1 e2
    exact ⟨e1, e2⟩
  have ia : (a : Int) < (nm.length : Int) := by omega
  have ib : (b : Int) < (nm.length : Int) := by omega
  clear hr h2
  obtain ⟨x, hx⟩ : ∃ x, nm[a] = x := ⟨_, rfl⟩
  obtain ⟨y, hy⟩ : ∃ y, nm[b] = y := ⟨_, rfl⟩
  rw [hx] at hca
  rw [hy] at hcb
  rw [hx, hy]
  clear hx hy
  have hcases : (x < y ∧ leastI x y = x ∧ mostI x y = y) ∨ (x = y ∧ leastI x y = x ∧ mostI x y = x) ∨ (y < x ∧ leastI x y = y ∧ mostI x y = x) := by
    unfold leastI mostI
    split <;> split <;> omega
  rcases hcases with ⟨hlt, e1, e2⟩ | ⟨hlt, e1, e2⟩ | ⟨hlt, e1, e2⟩
  · rw [e1, e2]
    clear e1 e2
    go_enter Try.func95, Try.ntmps95
    go_wp2
    generalize hw1 : World.alloc (World.alloc w _) _ = w1
    have q0 : w1.heap[w.heap.size]? = some (.cells #[.int .i64 (a : Int), .int .i64 (b : Int)] 51 (0, 0)) := by
      rw [← hw1, Below.heap_alloc _ _ _ (by simp)]; exact heap_alloc_new w _
    have q1 : w1.heap[w.heap.size + 1]? = some (.cells #[.int .i64 0, .int .i64 0] 51 (0, 0)) := by
      rw [← hw1]
      have := heap_alloc_new (w.alloc (.cells #[.int .i64 (a : Int), .int .i64 (b : Int)] 51)) (.cells #[.int .i64 0, .int .i64 0] 51)
      simpa using this
    have hb1 : Below w.heap.size w w1 := by rw [← hw1]; exact ((Below.refl _ _).alloc (Nat.le_refl _) _).alloc (by simp) _
    clear hw1
    have x0 : w1.cell? ⟨w.heap.size, 0, none⟩ = some (.int .i64 (a : Int)) := by rw [cell_of_row w1 _ 0 _ _ (0, 0) q0]; rfl
    have x1 : w1.cell? ⟨w.heap.size, 1, none⟩ = some (.int .i64 (b : Int)) := by rw [cell_of_row w1 _ 1 _ _ (0, 0) q0]; rfl
    have y0 : w1.cell? ⟨w.heap.size + 1, 0, none⟩ = some (.int .i64 0) := by rw [cell_of_row w1 _ 0 _ _ (0, 0) q1]; rfl
    have y1 : w1.cell? ⟨w.heap.size + 1, 1, none⟩ = some (.int .i64 0) := by rw [cell_of_row w1 _ 1 _ _ (0, 0) q1]; rfl
    have g0 : w1.frozen? ⟨w.heap.size + 1, 0, none⟩ = false := frozen_of_row w1 _ 0 _ _ q1
    have g1 : w1.frozen? ⟨w.heap.size + 1, 1, none⟩ = false := frozen_of_row w1 _ 1 _ _ q1
    have za : w1.cell? ⟨nb, no + a, none⟩ = _ := (hb1.cell (p := ⟨nb, no + a, none⟩) (by simp only []; omega)).trans hca
    have zb : w1.cell? ⟨nb, no + b, none⟩ = _ := (hb1.cell (p := ⟨nb, no + b, none⟩) (by simp only []; omega)).trans hcb
    have HB1 := Lib.hid hb1
    clear q0 q1 hca hcb hb1
    refine wp_region_Tw [0, 1, 2, 3, 4, 5, 6, 7, 8, 9, 10, 11] [2, 4, 7, 9] (.lp 0 (.lp 1 (.lp 5 (.lp 6 (.ls 2 (.lp 3 (.ls 4 (.lp 10 (.ls 7 (.lp 8 (.ls 9 (.lp 11 (.done))))))))))))) (by kernel_rfl) (by kernel_rfl) ?_
    (repeat (first | (refine T_lp rfl (fun K hK => ?_); go_simp; refine hK _ ?_; clear hK K) | (refine T_ls rfl rfl (fun K hK => ?_); go_simp; refine hK _ ?_; clear hK K)))
    refine T_done ?_
    go_wp2
    refine bodyPost_ret (v := .agg #[.int .i64 x, .int .i64 y]) (by simp [results, Try.results95, go_sem, y0, y1]) rfl ⟨rfl, ?_⟩
    exact ((HB1.out.setCell (by simp) _).setCell (by simp) _).drew
  · rw [e1, e2]
    clear e1 e2
    subst hlt
    go_enter Try.func95, Try.ntmps95
    go_wp2
    generalize hw1 : World.alloc (World.alloc w _) _ = w1
    have q0 : w1.heap[w.heap.size]? = some (.cells #[.int .i64 (a : Int), .int .i64 (b : Int)] 51 (0, 0)) := by
      rw [← hw1, Below.heap_alloc _ _ _ (by simp)]; exact heap_alloc_new w _
    have q1 : w1.heap[w.heap.size + 1]? = some (.cells #[.int .i64 0, .int .i64 0] 51 (0, 0)) := by
      rw [← hw1]
      have := heap_alloc_new (w.alloc (.cells #[.int .i64 (a : Int), .int .i64 (b : Int)] 51)) (.cells #[.int .i64 0, .int .i64 0] 51)
      simpa using this
    have hb1 : Below w.heap.size w w1 := by rw [← hw1]; exact ((Below.refl _ _).alloc (Nat.le_refl _) _).alloc (by simp) _
    clear hw1
    have x0 : w1.cell? ⟨w.heap.size, 0, none⟩ = some (.int .i64 (a : Int)) := by rw [cell_of_row w1 _ 0 _ _ (0, 0) q0]; rfl
    have x1 : w1.cell? ⟨w.heap.size, 1, none⟩ = some (.int .i64 (b : Int)) := by rw [cell_of_row w1 _ 1 _ _ (0, 0) q0]; rfl
    have y0 : w1.cell? ⟨w.heap.size + 1, 0, none⟩ = some (.int .i64 0) := by rw [cell_of_row w1 _ 0 _ _ (0, 0) q1]; rfl
    have y1 : w1.cell? ⟨w.heap.size + 1, 1, none⟩ = some (.int .i64 0) := by rw [cell_of_row w1 _ 1 _ _ (0, 0) q1]; rfl
    have g0 : w1.frozen? ⟨w.heap.size + 1, 0, none⟩ = false := frozen_of_row w1 _ 0 _ _ q1
    have g1 : w1.frozen? ⟨w.heap.size + 1, 1, none⟩ = false := frozen_of_row w1 _ 1 _ _ q1
    have za : w1.cell? ⟨nb, no + a, none⟩ = _ := (hb1.cell (p := ⟨nb, no + a, none⟩) (by simp only []; omega)).trans hca
    have zb : w1.cell? ⟨nb, no + b, none⟩ = _ := (hb1.cell (p := ⟨nb, no + b, none⟩) (by simp only []; omega)).trans hcb
    have HB1 := Lib.hid hb1
    clear q0 q1 hca hcb hb1
    refine wp_region_Tw [0, 1, 2, 3, 4, 5, 6, 7, 8, 9, 10, 11] [2, 4, 7, 9] (.lp 0 (.lp 1 (.lp 5 (.lp 6 (.ls 2 (.lp 3 (.ls 4 (.lp 10 (.ls 7 (.lp 8 (.ls 9 (.lp 11 (.done))))))))))))) (by kernel_rfl) (by kernel_rfl) ?_
    (repeat (first | (refine T_lp rfl (fun K hK => ?_); go_simp; refine hK _ ?_; clear hK K) | (refine T_ls rfl rfl (fun K hK => ?_); go_simp; refine hK _ ?_; clear hK K)))
    refine T_done ?_
    go_wp2
    refine bodyPost_ret (v := .agg #[.int .i64 x, .int .i64 x]) (by simp [results, Try.results95, go_sem, y0, y1]) rfl ⟨rfl, ?_⟩
    exact ((HB1.out.setCell (by simp) _).setCell (by simp) _).drew
  · rw [e1, e2]
    clear e1 e2
    go_enter Try.func95, Try.ntmps95
    go_wp2
    generalize hw1 : World.alloc (World.alloc w _) _ = w1
    have q0 : w1.heap[w.heap.size]? = some (.cells #[.int .i64 (a : Int), .int .i64 (b : Int)] 51 (0, 0)) := by
      rw [← hw1, Below.heap_alloc _ _ _ (by simp)]; exact heap_alloc_new w _
    have q1 : w1.heap[w.heap.size + 1]? = some (.cells #[.int .i64 0, .int .i64 0] 51 (0, 0)) := by
      rw [← hw1]
      have := heap_alloc_new (w.alloc (.cells #[.int .i64 (a : Int), .int .i64 (b : Int)] 51)) (.cells #[.int .i64 0, .int .i64 0] 51)
      simpa using this
    have hb1 : Below w.heap.size w w1 := by rw [← hw1]; exact ((Below.refl _ _).alloc (Nat.le_refl _) _).alloc (by simp) _
    clear hw1
    have x0 : w1.cell? ⟨w.heap.size, 0, none⟩ = some (.int .i64 (a : Int)) := by rw [cell_of_row w1 _ 0 _ _ (0, 0) q0]; rfl
    have x1 : w1.cell? ⟨w.heap.size, 1, none⟩ = some (.int .i64 (b : Int)) := by rw [cell_of_row w1 _ 1 _ _ (0, 0) q0]; rfl
    have y0 : w1.cell? ⟨w.heap.size + 1, 0, none⟩ = some (.int .i64 0) := by rw [cell_of_row w1 _ 0 _ _ (0, 0) q1]; rfl
    have y1 : w1.cell? ⟨w.heap.size + 1, 1, none⟩ = some (.int .i64 0) := by rw [cell_of_row w1 _ 1 _ _ (0, 0) q1]; rfl
    have g0 : w1.frozen? ⟨w.heap.size + 1, 0, none⟩ = false := frozen_of_row w1 _ 0 _ _ q1
    have g1 : w1.frozen? ⟨w.heap.size + 1, 1, none⟩ = false := frozen_of_row w1 _ 1 _ _ q1
    have za : w1.cell? ⟨nb, no + a, none⟩ = _ := (hb1.cell (p := ⟨nb, no + a, none⟩) (by simp only []; omega)).trans hca
    have zb : w1.cell? ⟨nb, no + b, none⟩ = _ := (hb1.cell (p := ⟨nb, no + b, none⟩) (by simp only []; omega)).trans hcb
    have HB1 := Lib.hid hb1
    clear q0 q1 hca hcb hb1
    refine wp_region_Tw [0, 1, 2, 3, 4, 5, 6, 7, 8, 9, 10, 11] [2, 4, 7, 9] (.lp 0 (.lp 1 (.lp 5 (.lp 6 (.ls 2 (.lp 3 (.ls 4 (.lp 10 (.ls 7 (.lp 8 (.ls 9 (.lp 11 (.done))))))))))))) (by kernel_rfl) (by kernel_rfl) ?_
    (repeat (first | (refine T_lp rfl (fun K hK => ?_); go_simp; refine hK _ ?_; clear hK K) | (refine T_ls rfl rfl (fun K hK => ?_); go_simp; refine hK _ ?_; clear hK K)))
    refine T_done ?_
    go_wp2
    refine bodyPost_ret (v := .agg #[.int .i64 y, .int .i64 x]) (by simp [results, Try.results95, go_sem, y0, y1]) rfl ⟨rfl, ?_⟩
    exact ((HB1.out.setCell (by simp) _).setCell (by simp) _).drew
end Go.Proofs.Ytbbjgcagkmlngac
/- A plan with only some steps, in an order: the program's. -/
namespace Go.Proofs.Ytbbjgcagkmlngac
open Go.RowKit

def nmOk (N : Nat) (t : List Int) (v : Int) : Bool := decide (v < N) || hasI t (v - N)
def nmI (N : Nat) (t : List Int) (v : Int) : Int := if v < N then v else if hasI t (v - N) then N + plc t (v - N) 0 else -1
def nmT (N m : Nat) (t : List Int) : List Int := (List.range (N + m)).map fun v : Nat => nmI N t (v : Int)
theorem nmT_length (N m : Nat) (t : List Int) : (nmT N m t).length = N + m := by simp [nmT]
theorem nmT_at (N m : Nat) (t : List Int) {v : Nat} (hv : v < N + m) : (nmT N m t)[v]'(by rw [nmT_length]; exact hv) = nmI N t (v : Int) := by simp [nmT]
theorem nm_bad {N : Nat} {t : List Int} {v : Int} (h : nmOk N t v = false) : nmI N t v = -1 := by
  unfold nmOk at h
  rw [Bool.or_eq_false_iff, decide_eq_false_iff_not] at h
  unfold nmI
  rw [if_neg h.1, if_neg (by rw [h.2]; decide)]
theorem nm_good {N : Nat} {l : List Int} {k : Nat} {v : Int} (h : nmOk N (l.take k) v = true) : nmI N (l.take k) v = numI N l v := by
  unfold nmOk at h
  unfold nmI numI
  by_cases hv : v < N
  · rw [if_pos hv, if_pos hv]
  · have h2 : hasI (l.take k) (v - N) = true := by
      rw [Bool.or_eq_true, decide_eq_true_eq] at h
      rcases h with h | h
      · exact absurd h hv
      · exact h
    rw [if_neg hv, if_neg hv, if_pos h2]
    have e := plc_app (l.take k) (l.drop k) (v - N) 0
    rw [List.take_append_drop, h2] at e
    rw [e]
    rfl
theorem nm_nonneg {N : Nat} {l : List Int} {v : Int} (h0 : 0 ≤ v) {k : Nat} (h : nmOk N (l.take k) v = true) : 0 ≤ numI N l v := by
  rw [← nm_good h]
  unfold nmOk at h
  unfold nmI
  by_cases hv : v < N
  · rw [if_pos hv]; exact h0
  · have h2 : hasI (l.take k) (v - N) = true := by
      rw [Bool.or_eq_true, decide_eq_true_eq] at h
      rcases h with h | h
      · exact absurd h hv
      · exact h
    rw [if_neg hv, if_pos h2]
    have := plc_nonneg h2 0
    omega
theorem nm_set {N m n k : Nat} {t : List Int} (ht : hasI t (n : Int) = false) (hk : t.length = k) : (nmT N m t).set (N + n) ((N : Int) + (k : Int)) = nmT N m (t ++ [(n : Int)]) := by
  apply List.ext_getElem?
  intro j
  by_cases hj : j < N + m
  · rw [show (nmT N m (t ++ [(n : Int)]))[j]? = some (nmI N (t ++ [(n : Int)]) (j : Int)) by simp [nmT, hj]]
    by_cases hjn : N + n = j
    · subst hjn
      rw [List.getElem?_set_self (by rw [nmT_length]; exact hj)]
      unfold nmI
      have e1 : ((N + n : Nat) : Int) - (N : Int) = (n : Int) := by omega
      have e2 : hasI (t ++ [(n : Int)]) (n : Int) = true := by simp [hasI]
      rw [if_neg (by omega), e1, if_pos e2, plc_app, ht]
      simp [plc, hk]
    · rw [List.getElem?_set_ne hjn, show (nmT N m t)[j]? = some (nmI N t (j : Int)) by simp [nmT, hj]]
      unfold nmI
      by_cases hjN : (j : Int) < (N : Int)
      · rw [if_pos hjN, if_pos hjN]
      · have e2 : hasI (t ++ [(n : Int)]) ((j : Int) - (N : Int)) = hasI t ((j : Int) - (N : Int)) := by
          unfold hasI
          rw [Bool.eq_iff_iff]
          simp
          omega
        rw [if_neg hjN, if_neg hjN, e2]
        by_cases hh : hasI t ((j : Int) - (N : Int)) = true
        · rw [if_pos hh, if_pos hh, plc_app, if_pos hh]
        · rw [if_neg hh, if_neg hh]
  · rw [List.getElem?_eq_none (by rw [List.length_set, nmT_length]; omega), List.getElem?_eq_none (by rw [nmT_length]; omega)]
theorem nm_start (N m : Nat) : ups N ++ List.replicate m (-1 : Int) = nmT N m [] := by
  apply List.ext_getElem?
  intro j
  by_cases hj : j < N + m
  · rw [show (nmT N m [])[j]? = some (nmI N [] (j : Int)) by simp [nmT, hj]]
    by_cases hjN : j < N
    · rw [List.getElem?_append_left (by rw [ups_length]; exact hjN)]
      have : (j : Int) < (N : Int) := by omega
      simp [ups, hjN, nmI, this]
    · rw [List.getElem?_append_right (by rw [ups_length]; omega), ups_length, List.getElem?_replicate, if_pos (by omega)]
      have : ¬ (j : Int) < (N : Int) := by omega
      simp [nmI, this, hasI]
  · rw [List.getElem?_eq_none (by simp [ups_length]; omega), List.getElem?_eq_none (by rw [nmT_length]; omega)]

def stepAt (p : Pl) (l : List Int) (i : Nat) : Int × Int := p.s.getD (l.getD i 0).toNat (0, 0)
def kOk (N : Nat) (p : Pl) (l : List Int) (k : Nat) : Bool := (List.range k).all fun i => nmOk N (l.take i) (stepAt p l i).1 && nmOk N (l.take i) (stepAt p l i).2
theorem stepAt_eq {p : Pl} {l : List Int} {k n : Nat} (hk : k < l.length) (hn : l[k] = (n : Int)) (hns : n < p.s.length) : stepAt p l k = p.s[n] := by
  unfold stepAt
  have : l.getD k 0 = (n : Int) := by simp [hk, hn]
  rw [this]
  simp [hns]
theorem kOk_succ (N : Nat) (p : Pl) (l : List Int) (k : Nat) : kOk N p l (k + 1) = (kOk N p l k && (nmOk N (l.take k) (stepAt p l k).1 && nmOk N (l.take k) (stepAt p l k).2)) := by
  unfold kOk
  rw [List.range_succ, List.all_append]
  simp
theorem kOk_false {N : Nat} {p : Pl} {l : List Int} {k : Nat} (hk : k < l.length) (h : (nmOk N (l.take k) (stepAt p l k).1 && nmOk N (l.take k) (stepAt p l k).2) = false) : kOk N p l l.length = false := by
  unfold kOk
  rw [List.all_eq_false]
  exact ⟨k, by simpa using hk, by rw [h]; decide⟩
def KeepPost (p : Pl) (N : Nat) (l : List Int) (w : World) (e : Ending) (w' : World) : Prop :=
  Below w.heap.size w w' ∧ (if kOk N p l l.length = true then ∃ B1 B2 d1 d2, e = .returned (.tuple #[.agg #[.int .i64 (N : Int), .slice B1 l.length d1, .slice B2 p.o.length d2], .bool true]) ∧ OwS w' w.heap.size (.slice B1 l.length d1) (keepS p N l l.length) ∧ OwI w' w.heap.size (.slice B2 p.o.length d2) (keepO p N l p.o.length)
    else e = .returned (.tuple #[.agg #[.int .i64 0, .slice none 0 0, .slice none 0 0], .bool false]))
theorem keepPost_none {p : Pl} {N : Nat} {l : List Int} {w w' : World} (h : kOk N p l l.length = false) (hb : Below w.heap.size w w') : KeepPost p N l w (.returned (.tuple #[.agg #[.int .i64 0, .slice none 0 0, .slice none 0 0], .bool false])) w' :=
  ⟨hb, by rw [if_neg (by rw [h]; decide)]⟩
theorem has_take_nodup {l : List Int} (hnd : l.Nodup) {k : Nat} (hk : k < l.length) : hasI (l.take k) l[k] = false := by
  unfold hasI
  simp only [List.contains_eq_mem, decide_eq_false_iff_not]
  intro hmem
  obtain ⟨i, hi, he⟩ := List.mem_iff_getElem.1 hmem
  rw [List.getElem_take] at he
  have hik : i < k := by simp at hi; omega
  have := (List.nodup_iff_pairwise_ne.1 hnd)
  rw [List.pairwise_iff_getElem] at this
  exact this i k (by omega) hk hik he

/-- A store into a row of another type. -/
theorem own_store_other {w : World} {B B' sz sz' n n' g o c' : Nat} {e e' : TypeId} {v : Value} {xs xs' : List Value} (h : w.ownsRow B e sz v n xs) (h' : w.ownsRow B' e' sz' (.slice (some ⟨g, 0, none⟩) n' c') n' xs') (hne : e' ≠ e) (u : Value) :
    (w.setCell ⟨g, o, none⟩ u).ownsRow B e sz v n xs := by
  rcases h'.2 with ⟨hv, _⟩ | ⟨g', cap, cur, hv, _, hg', _⟩
  · injection hv with hv _ _
    cases hv
  · injection hv with hv _ _
    injection hv with hv
    injection hv with hv _ _
    subst hv
    exact own_set h hg' hne u

set_option maxRecDepth 100000 in
set_option maxHeartbeats 4000000 in
theorem keep_any (B N R : Nat) (A1 A2 A3 A : Option Addr) (c1 c2 c3 c : Nat) (p : Pl) (l : List Int) (w : World) (hpn : p.n = N) (n1 : 1 ≤ N) (h6 : N ≤ 6) (hl : l.length ≤ 1000) (hs40 : p.s.length ≤ 1000) (ho6 : p.o.length ≤ 1000) (hB : B ≤ w.heap.size)
    (hlr : ∀ x ∈ l, 0 ≤ x ∧ x < p.s.length) (hnd : l.Nodup) (hok : OkS N p.s) (hout : ∀ x ∈ p.o, 0 ≤ x ∧ x < (N : Int) + p.s.length) (hcov : ∀ x ∈ p.o, nmOk N l x = true) (hr : RdP w B A1 A2 p) (hrl : Rd w B 1 A l.length (l.map I)) :
    Calls Try.prog 84 #[.agg #[.int .i64 p.n, .slice A1 p.s.length c1, .slice A2 p.o.length c2, .slice A3 R c3], .slice A l.length c] w (KeepPost p N l w) := by
  have H := Lib.hid hr
  have HL := Lib.hid hrl
  have HLR := Lib.hid hlr
  have HO := Lib.hid hok
  have HOUT := Lib.hid hout
  have HCOV := Lib.hid hcov
  have HND := Lib.hid hnd
  clear hr hrl hlr hok hout hcov hnd
  rw [hpn]
  clear hpn
  go_enter Try.func84, Try.ntmps84
  go_wp2_with fail
  go_at_call 94
  generalize hw2 : World.alloc (World.alloc w _) _ = w2
  have q0 : w2.heap[w.heap.size]? = some (.cells #[.int .i64 (N : Int), .slice A1 p.s.length c1, .slice A2 p.o.length c2, .slice A3 R c3] 80 (0, 0)) := by
    rw [← hw2, Below.heap_alloc _ _ _ (by simp)]; exact heap_alloc_new w _
  have q1 : w2.heap[w.heap.size + 1]? = some (.cells #[.int .i64 0, .slice none 0 0, .slice none 0 0] 39 (0, 0)) := by
    rw [← hw2]
    have := heap_alloc_new (w.alloc (.cells #[.int .i64 (N : Int), .slice A1 p.s.length c1, .slice A2 p.o.length c2, .slice A3 R c3] 80)) (.cells #[.int .i64 0, .slice none 0 0, .slice none 0 0] 39)
    simpa using this
  have hs2 : w2.heap.size = w.heap.size + 2 := by rw [← hw2]; simp
  have hb2 : Below w.heap.size w w2 := by rw [← hw2]; exact ((Below.refl _ _).alloc (Nat.le_refl _) _).alloc (by simp) _
  clear hw2
  refine (firstNumbers_any N w2 (by omega)).mono ?_
  rintro e w3 ⟨An, cn, rfl, hown3, hb3⟩
  rw [hs2] at hown3 hb3
  have hn3 : w3.ownsRow (w.heap.size + 2) 3 1 (.slice An N cn) N ((ups N).map I) := by
    have h : w3.ownsRow _ _ _ _ _ _ := hown3
    rw [ups_length] at h
    exact h
  have Q0 := Lib.hid ((hb3.block w.heap.size (by omega)).trans q0)
  have Q1 := Lib.hid ((hb3.block (w.heap.size + 1) (by omega)).trans q1)
  have HN3 := Lib.hid hn3
  have HB3 := Lib.hid (hb2.trans (hb3.mono (show w.heap.size ≤ w.heap.size + 2 by omega)))
  have hs3 : w.heap.size + 2 ≤ w3.heap.size := by have := hb3.size; omega
  have y1 : w3.cell? ⟨w.heap.size, 1, none⟩ = some (.slice A1 p.s.length c1) := by rw [cell_of_row w3 _ 1 _ _ (0, 0) Q0.out]; rfl
  clear q0 q1 hs2 hb2 hown3 hb3 hn3
  go_wp2
  clear y1
  go_loopw [6, 19] (fun nv iv wr => ∃ (k : Nat) (A4 : Option Addr) (c4 : Nat), k ≤ p.s.length ∧ iv = .int .i64 k ∧ nv = .slice A4 (N + k) c4 ∧ wr.ownsRow (w.heap.size + 2) 3 1 (.slice A4 (N + k) c4) (N + k) ((ups N ++ List.replicate k (-1 : Int)).map I) ∧ Below (w.heap.size + 2) w3 wr) (fun _ i _ => p.s.length - (intOf i).toNat)
  case atStart => exact ⟨0, An, cn, by omega, rfl, rfl, by simpa using HN3.out, Below.refl _ _⟩
  case round =>
    obtain ⟨k, A4, c4, hk, rfl, rfl, hown, hbel⟩ := hrel
    have hsz : w.heap.size + 2 ≤ wr.heap.size := by have := hbel.size; omega
    by_cases hlt : k < p.s.length
    · have OWN := Lib.hid hown
      have HBL := Lib.hid hbel
      clear hown hbel
      go_wp2_with (at_builtin; refine list_step (fun K hK => ?_); refine step_app1 Try.underlying22 info_int rfl (by omega) rfl (.tmp 21) (.tmp 22) rfl (w.heap.size + 2) (N + k) _ _ rfl (World.ownsRow.alloc OWN.out _) wr.heap.size 1 (I (-1)) rfl (by simp) rfl (by omega) (by simp; omega) ?_; intro A5 c5 w5 hown5 hg5 hbel5; go_simp; refine hK _ _ ?_; clear hK K)
      go_roundw
      case rel =>
        refine ⟨k + 1, A5, c5, by omega, by go_num, rfl, ?_, (HBL.out.alloc hsz _).trans hbel5⟩
        have h := hown5
        rw [show (ups N ++ List.replicate k (-1 : Int)).map I ++ [I (-1)] = (ups N ++ List.replicate (k + 1) (-1 : Int)).map I by rw [List.replicate_succ']; simp] at h
        exact h
      case measure => simp [intOf]; omega
    · have hk' : k = p.s.length := by omega
      subst hk'
      rw [nm_start] at hown
      obtain ⟨gn, rfl, hgn, _, _, _⟩ := own_at hown (by omega)
      have OWN := Lib.hid hown
      have HBL := Lib.hid hbel
      clear hown hbel hsz
      go_wp2
      go_loopw [7, 27] (fun sv iv wq => ∃ (k : Nat) (A5 : Option Addr) (c5 : Nat), k ≤ l.length ∧ iv = .int .i64 k ∧ sv = .slice A5 k c5 ∧ wq.ownsRow (w.heap.size + 2) 51 2 (.slice A5 k c5) k (fl (keepS p N l k)) ∧
        wq.ownsRow (w.heap.size + 2) 3 1 (.slice (some ⟨gn, 0, none⟩) (N + p.s.length) c4) (N + p.s.length) ((nmT N p.s.length (l.take k)).map I) ∧ kOk N p l k = true ∧ Below (w.heap.size + 2) w3 wq) (fun _ i _ => l.length - (intOf i).toNat)
      case atStart => exact ⟨0, none, 0, by omega, rfl, rfl, World.ownsRow_nil _ _ _ _, by simpa using OWN.out, rfl, HBL.out⟩
      case round =>
        obtain ⟨k, A5, c5, hk, rfl, rfl, hown, hnm, hkok, hbel⟩ := hrel
        have hsz : w.heap.size + 2 ≤ wr.heap.size := by have := hbel.size; omega
        have r0 := (hbel.block w.heap.size (by omega)).trans Q0.out
        have r1 := (hbel.block (w.heap.size + 1) (by omega)).trans Q1.out
        have a0 : wr.cell? ⟨w.heap.size, 0, none⟩ = some (.int .i64 (N : Int)) := by rw [cell_of_row wr _ 0 _ _ (0, 0) r0]; rfl
        have a1 : wr.cell? ⟨w.heap.size, 1, none⟩ = some (.slice A1 p.s.length c1) := by rw [cell_of_row wr _ 1 _ _ (0, 0) r0]; rfl
        have a2 : wr.cell? ⟨w.heap.size, 2, none⟩ = some (.slice A2 p.o.length c2) := by rw [cell_of_row wr _ 2 _ _ (0, 0) r0]; rfl
        by_cases hlt : k < l.length
        · obtain ⟨o1, o2⟩ := HLR.out _ (List.getElem_mem hlt)
          obtain ⟨n, hn⟩ : ∃ n : Nat, l[k] = n := ⟨(l[k]).toNat, by omega⟩
          have hns : n < p.s.length := by omega
          have ins : (n : Int) < (p.s.length : Int) := by omega
          have hbw : Below w.heap.size w wr := HB3.out.trans (hbel.mono (by omega))
          obtain ⟨lb, lo, rfl, hlb, hlc⟩ := (HL.out.below' hbw hB).int hlt
          rw [hn] at hlc
          obtain ⟨sb, off, rfl, hsb, hc1, hc2⟩ := (H.out.1.below' hbw hB).stp hns
          obtain ⟨s1, s2, s3⟩ := HO.out n hns
          obtain ⟨a, ha⟩ : ∃ a : Nat, (p.s[n]).1 = a := ⟨(p.s[n]).1.toNat, by omega⟩
          obtain ⟨b, hb⟩ : ∃ b : Nat, (p.s[n]).2 = b := ⟨(p.s[n]).2.toNat, by omega⟩
          rw [ha] at hc1 s1 s2
          rw [hb] at hc2 s2 s3
          have hsa := stepAt_eq hlt hn hns
          have hst := keepS_succ (p := p) (N := N) hlt hn hns
          rw [ha, hb] at hst
          have haR : a < N + p.s.length := by omega
          have hbR : b < N + p.s.length := by omega
          have iaR : (a : Int) < (N : Int) + (p.s.length : Int) := by omega
          have ibR : (b : Int) < (N : Int) + (p.s.length : Int) := by omega
          have hca : wr.cell? ⟨gn, a, none⟩ = some (.int .i64 (nmI N (l.take k) a)) := by
            rw [hnm.cellAt _ (by omega), List.getElem?_map, List.getElem?_eq_getElem (by rw [nmT_length]; exact haR), nmT_at _ _ _ haR]; rfl
          have hcb : wr.cell? ⟨gn, b, none⟩ = some (.int .i64 (nmI N (l.take k) b)) := by
            rw [hnm.cellAt _ (by omega), List.getElem?_map, List.getElem?_eq_getElem (by rw [nmT_length]; exact hbR), nmT_at _ _ _ hbR]; rfl
          have hR1 : ∀ o, (wr.alloc o).heap[w.heap.size + 1]? = some (.cells #[.int .i64 0, .slice none 0 0, .slice none 0 0] 39 (0, 0)) := fun o => (Below.heap_alloc wr o _ (by omega)).trans r1
          have t0 : ∀ o, (wr.alloc o).cell? ⟨w.heap.size + 1, 0, none⟩ = some (.int .i64 0) := fun o => by rw [cell_of_row _ _ 0 _ _ (0, 0) (hR1 o)]; rfl
          have t1 : ∀ o, (wr.alloc o).cell? ⟨w.heap.size + 1, 1, none⟩ = some (.slice none 0 0) := fun o => by rw [cell_of_row _ _ 1 _ _ (0, 0) (hR1 o)]; rfl
          have t2 : ∀ o, (wr.alloc o).cell? ⟨w.heap.size + 1, 2, none⟩ = some (.slice none 0 0) := fun o => by rw [cell_of_row _ _ 2 _ _ (0, 0) (hR1 o)]; rfl
          have g0 : ∀ o, (wr.alloc o).frozen? ⟨w.heap.size + 1, 0, none⟩ = false := fun o => frozen_of_row _ _ 0 _ _ (hR1 o)
          have g1 : ∀ o, (wr.alloc o).frozen? ⟨w.heap.size + 1, 1, none⟩ = false := fun o => frozen_of_row _ _ 1 _ _ (hR1 o)
          have g2 : ∀ o, (wr.alloc o).frozen? ⟨w.heap.size + 1, 2, none⟩ = false := fun o => frozen_of_row _ _ 2 _ _ (hR1 o)
          have ka := cell_kept hca
          have kb := cell_kept hcb
          have OW := Lib.hid hown
          have NM := Lib.hid hnm
          have HBQ := Lib.hid hbel
          have KOK := Lib.hid hkok
          have HNN := Lib.hid hn
          have HST := Lib.hid hst
          have HSA := Lib.hid hsa
          have HA := Lib.hid ha
          have HBb := Lib.hid hb
          have HBW := Lib.hid hbw
          clear hown hnm hbel hkok hn hst hsa ha hb hbw s1 s2 s3 o1 o2 r0 r1 hR1 hca hcb
          cases hqa : nmOk N (l.take k) (a : Int) with
          | false =>
            have hf : kOk N p l l.length = false := kOk_false hlt (by rw [HSA.out, HA.out, hqa]; rfl)
            have HF := Lib.hid hf
            rw [nm_bad hqa] at ka
            clear hf hqa kb
            go_wp2
            refine bodyPost_ret (v := .tuple #[.agg #[.int .i64 0, .slice none 0 0, .slice none 0 0], .bool false]) (by simp [results, Try.results84, go_sem, t0, t1, t2]) rfl (keepPost_none HF.out ?_)
            exact (((HBW.out.alloc HBW.out.size _).setCell (by simp) _).setCell (by simp) _).setCell (by simp) _
          | true =>
            have hx0 := nm_nonneg (show (0 : Int) ≤ (a : Int) by omega) hqa
            rw [nm_good hqa] at ka
            obtain ⟨x, hx⟩ : ∃ x, numI N l (a : Int) = x := ⟨_, rfl⟩
            rw [hx] at ka hx0
            have hxe : (x == (-1 : Int)) = false := by rw [beq_eq_false_iff_ne]; omega
            have HX := Lib.hid hx
            have HQA := Lib.hid hqa
            clear hx hqa hx0
            cases hqb : nmOk N (l.take k) (b : Int) with
            | false =>
              have hf : kOk N p l l.length = false := kOk_false hlt (by rw [HSA.out, HBb.out, hqb, Bool.and_false])
              have HF := Lib.hid hf
              rw [nm_bad hqb] at kb
              clear hf hqb
              go_wp2
              refine bodyPost_ret (v := .tuple #[.agg #[.int .i64 0, .slice none 0 0, .slice none 0 0], .bool false]) (by simp [results, Try.results84, go_sem, t0, t1, t2]) rfl (keepPost_none HF.out ?_)
              exact (((HBW.out.alloc HBW.out.size _).setCell (by simp) _).setCell (by simp) _).setCell (by simp) _
            | true =>
              have hy0 := nm_nonneg (show (0 : Int) ≤ (b : Int) by omega) hqb
              rw [nm_good hqb] at kb
              obtain ⟨y, hy⟩ : ∃ y, numI N l (b : Int) = y := ⟨_, rfl⟩
              rw [hy] at kb hy0
              have hye : (y == (-1 : Int)) = false := by rw [beq_eq_false_iff_ne]; omega
              have HY := Lib.hid hy
              have HQB := Lib.hid hqb
              have hst := HST.out
              rw [HX.out, HY.out] at hst
              have HST2 := Lib.hid hst
              have hE := fun W hBW hrW => renamedStep_any wr.heap.size a b (some ⟨gn, 0, none⟩) c4 (nmT N p.s.length (l.take k)) W hBW (by rw [nmT_length]; exact haR) (by rw [nmT_length]; exact hbR) hrW
              have ea : (nmT N p.s.length (l.take k))[a]'(by rw [nmT_length]; exact haR) = x := by rw [nmT_at _ _ _ haR, nm_good HQA.out, HX.out]
              have eb : (nmT N p.s.length (l.take k))[b]'(by rw [nmT_length]; exact hbR) = y := by rw [nmT_at _ _ _ hbR, nm_good HQB.out, HY.out]
              simp only [ea, eb, nmT_length] at hE
              have HE := Lib.hid hE
              clear hy hqb hy0 hst hE ea eb t0 t1 t2 g0 g1 g2
              go_wp2_with fail
              go_at_call 95
              generalize hw4 : World.alloc wr _ = w4
              obtain ⟨e0, e1, es, eb⟩ := box2 hw4
              clear hw4
              refine (HE.out w4 eb.size ((Rd.of_own NM.out).below eb)).mono ?_
              rintro e w5 ⟨rfl, hb5⟩
              have hb45 : Below wr.heap.size wr w5 := eb.trans (hb5.mono eb.size)
              have OW5 := Lib.hid (own_below OW.out hb45)
              have NM5 := Lib.hid (own_below NM.out hb45)
              have HB5 := Lib.hid (HBQ.out.trans (hb45.mono hsz))
              have hs5 : w.heap.size + 2 ≤ w5.heap.size := by have := hb45.size; omega
              have v0 := (hb45.cell (p := ⟨w.heap.size, 0, none⟩) (by simp only []; omega)).trans a0
              clear hb5 hb45 eb e0 e1 es ka kb a0 a1 a2
              go_wp2_with (
                at_builtin
                refine list_step (fun K hK => ?_)
                refine step_app2 Try.underlying26 info_step rfl (by omega) rfl (.tmp 53) (.tmp 57) rfl (w.heap.size + 2) k _ (fl (keepS p N l k)) rfl (World.ownsRow.alloc OW5.out _) w5.heap.size 1 (I (leastI x y)) (I (mostI x y)) rfl (by simp) (by simp) rfl rfl (by omega) (by simp; omega) ?_
                intro A6 c6 w8 hown8 hg8 hbel8
                have nm8 := World.ownsRow.kept (World.ownsRow.alloc NM5.out _) hg8 (own_ne NM5.out OW5.out (by decide))
                obtain ⟨u8, hu8⟩ : ∃ u, w8.cell? ⟨gn, N + n, none⟩ = some (.int .i64 u) := ⟨_, by rw [nm8.cellAt _ (by omega), List.getElem?_map, List.getElem?_eq_getElem (by rw [nmT_length]; omega)]; rfl⟩
                have f8 := nm8.frozenAt (N + n)
                have v8 := (hbel8.cell (p := ⟨w.heap.size, 0, none⟩) (by simp)).trans ((World.cell?_alloc_lt w5 _ ⟨w.heap.size, 0, none⟩ (by simp only []; omega)).trans v0)
                have NM8 := Lib.hid nm8
                have OW8 := Lib.hid hown8
                have HB8 := Lib.hid ((HB5.out.alloc hs5 _).trans hbel8)
                clear nm8 hown8 hg8 hbel8
                go_simp
                refine hK _ _ ?_
                clear hK K)
              go_roundw
              case rel =>
                refine ⟨k + 1, A6, c6, by omega, by go_num, rfl, ?_, ?_, ?_, HB8.out.setCell hgn _⟩
                · rw [HST2.out, fl_snoc]
                  exact own_store_other OW8.out NM8.out (by decide) _
                · have h := (NM8.out.stored (N + n) (I ((N : Int) + (k : Int)))).1
                  have hlk : (l.take k).length = k := by simp; omega
                  have hnot : hasI (l.take k) (n : Int) = false := by rw [← HNN.out]; exact has_take_nodup HND.out hlt
                  rw [← List.map_set, nm_set hnot hlk, ← HNN.out, ← List.take_succ_eq_append_getElem hlt] at h
                  exact h
                · rw [kOk_succ, KOK.out, HSA.out, HA.out, HBb.out, HQA.out, HQB.out]
                  rfl
              case measure => simp [intOf]; omega
        · have hk' : k = l.length := by omega
          subst hk'
          rw [List.take_of_length_le (Nat.le_refl _)] at hnm
          have hbw : Below w.heap.size w wr := HB3.out.trans (hbel.mono (by omega))
          have hlist : (p.o.map fun x => (nmT N p.s.length l).getD x.toNat 0) = keepO p N l p.o.length := by
            unfold keepO
            rw [List.take_of_length_le (Nat.le_refl _)]
            apply List.map_congr_left
            intro v hv
            obtain ⟨v1, v2⟩ := HOUT.out v hv
            have hc := HCOV.out v hv
            obtain ⟨v', rfl⟩ : ∃ v' : Nat, v = v' := ⟨v.toNat, by omega⟩
            have hvl : v' < N + p.s.length := by omega
            have e1 : (nmT N p.s.length l).getD v' 0 = (nmT N p.s.length l)[v']'(by rw [nmT_length]; exact hvl) := by simp [nmT_length, hvl]
            rw [Int.toNat_natCast, e1, nmT_at _ _ _ hvl]
            have h2 := nm_good (l := l) (k := l.length) (v := (v' : Int)) (by rw [List.take_of_length_le (Nat.le_refl _)]; exact hc)
            rw [List.take_of_length_le (Nat.le_refl _)] at h2
            exact h2
          have hR := fun W hBW hro hrn => renamed_any wr.heap.size A2 (some ⟨gn, 0, none⟩) c2 c4 p.o (nmT N p.s.length l) W ho6 hBW (fun v hv => by have := HOUT.out v hv; rw [nmT_length]; omega) hro hrn
          rw [hlist, nmT_length] at hR
          have HREN := Lib.hid hR
          have FSH := Lib.hid (show ∀ x, Below wr.heap.size wr x → x.cell? ⟨w.heap.size, 0, none⟩ = some (.int .i64 (N : Int)) ∧ x.cell? ⟨w.heap.size, 1, none⟩ = some (.slice A1 p.s.length c1) ∧ x.cell? ⟨w.heap.size, 2, none⟩ = some (.slice A2 p.o.length c2) from fun x hx =>
            ⟨(hx.cell (p := ⟨w.heap.size, 0, none⟩) (by simp only []; omega)).trans a0, (hx.cell (p := ⟨w.heap.size, 1, none⟩) (by simp only []; omega)).trans a1, (hx.cell (p := ⟨w.heap.size, 2, none⟩) (by simp only []; omega)).trans a2⟩)
          have S0 := Lib.hid (show Below wr.heap.size wr wr.drew from (Below.refl _ _).drew)
          have R1 := Lib.hid r1
          have OW := Lib.hid hown
          have NM := Lib.hid hnm
          have KOK := Lib.hid hkok
          have HBW := Lib.hid hbw
          clear hlist hR hown hnm hkok hbel hbw r0 r1 a0 a1 a2
          go_wp2
          refine wp_region_T (fun x : World => Below wr.heap.size wr x) [0, 1, 2, 3, 4, 5, 6, 7, 9, 11] [2, 6] (.lp 0 (.lp 1 (.lp 3 (.lp 4 (.lp 5 (.lp 7 (.ls 2 (.ls 6 (.hv 8 (.lp 9 (.hv 10 (.lp 11 (.done))))))))))))) (by kernel_rfl) (by kernel_rfl) ?_
          (repeat (refine T_lp rfl (fun K hK => ?_); go_simp; refine hK _ ?_; clear hK K))
          refine T_ls1 (v := .int .i64 (N : Int)) rfl rfl S0.out (fun x hx => (by obtain ⟨h0, h1, h2⟩ := FSH.out x hx; go_simp)) (fun K hK => ?_)
          (go_simp; refine hK _ ?_; clear hK K)
          refine T_ls1 (v := .slice A2 p.o.length c2) rfl rfl S0.out (fun x hx => (by obtain ⟨h0, h1, h2⟩ := FSH.out x hx; go_simp)) (fun K hK => ?_)
          (go_simp; refine hK _ ?_; clear hK K)
          refine T_hvS rfl (fun K hK => ?_)
          go_simp
          go_at_call 96
          refine (HREN.out wr.drew (by simp) (((H.out.below' HBW.out hB).2.more (by omega)).drew) (Rd.of_own NM.out).drew).mono ?_
          rintro e w5 ⟨B2, d2, rfl, hown5, hb5⟩
          have hb45 : Below wr.heap.size wr w5 := (Below.refl _ _).drew.trans (hb5.mono (by simp))
          have r5 := (hb45.block (w.heap.size + 1) (by omega)).trans R1.out
          have t0 : w5.cell? ⟨w.heap.size + 1, 0, none⟩ = some (.int .i64 0) := by rw [cell_of_row w5 _ 0 _ _ (0, 0) r5]; rfl
          have t1 : w5.cell? ⟨w.heap.size + 1, 1, none⟩ = some (.slice none 0 0) := by rw [cell_of_row w5 _ 1 _ _ (0, 0) r5]; rfl
          have t2 : w5.cell? ⟨w.heap.size + 1, 2, none⟩ = some (.slice none 0 0) := by rw [cell_of_row w5 _ 2 _ _ (0, 0) r5]; rfl
          have g0 : w5.frozen? ⟨w.heap.size + 1, 0, none⟩ = false := frozen_of_row w5 _ 0 _ _ r5
          have g1 : w5.frozen? ⟨w.heap.size + 1, 1, none⟩ = false := frozen_of_row w5 _ 1 _ _ r5
          have g2 : w5.frozen? ⟨w.heap.size + 1, 2, none⟩ = false := frozen_of_row w5 _ 2 _ _ r5
          have R5 := Lib.hid r5
          have OW5 := Lib.hid (own_base (own_below OW.out hb45) (show w.heap.size ≤ w.heap.size + 2 by omega))
          have NW5 := Lib.hid (hown5.base (show w.heap.size ≤ wr.drew.heap.size by simp; omega))
          have HB5 := Lib.hid (HBW.out.trans (hb45.mono (by omega)))
          clear hown5 hb5 r5
          go_simp
          refine hK _ _ hb45 ?_
          clear hK K hb45
          (repeat (refine T_lp rfl (fun K hK => ?_); go_simp; refine hK _ ?_; clear hK K))
          (refine T_hv rfl (by kernel_rfl) (fun K hK => ?_); go_simp; refine hK _ _ ?_; clear hK K)
          (repeat (refine T_lp rfl (fun K hK => ?_); go_simp; refine hK _ ?_; clear hK K))
          refine T_done ?_
          go_wp2
          refine bodyPost_ret (v := .tuple #[.agg #[.int .i64 (N : Int), .slice A5 l.length c5, .slice B2 p.o.length d2], .bool true]) (by simp [results, Try.results84, go_sem, t0, t1, t2]) rfl ⟨?_, ?_⟩
          · exact ((HB5.out.setCell (by simp) _).setCell (by simp) _).setCell (by simp) _
          · rw [if_pos KOK.out]
            refine ⟨A5, B2, c5, d2, rfl, ?_, ?_⟩
            · have h := own_set3 OW5.out R5.out (by decide) (.int .i64 (N : Int)) (.slice A5 l.length c5) (.slice B2 p.o.length d2)
              show World.ownsRow _ _ _ _ _ _ _
              rw [keepS_len p N l (Nat.le_refl _)]
              exact h
            · exact own_set3 NW5.out R5.out (by decide) (.int .i64 (N : Int)) (.slice A5 l.length c5) (.slice B2 p.o.length d2)
end Go.Proofs.Ytbbjgcagkmlngac
/- Trimmed plans: used steps are kept with all that they need. -/
namespace Go.Proofs.Ytbbjgcagkmlngac
open Go.RowKit

theorem need_mono {N : Nat} {s : List (Int × Int)} {o : List Int} {x : Int} {j : Nat} : ∀ d, hasI (needI N s o j) x = true → hasI (needI N s o (j + d)) x = true := by
  intro d
  induction d with
  | zero => intro h; exact h
  | succ d ih =>
    intro h
    have ih := ih h
    show hasI (needI N s o (j + d + 1)) x = true
    simp only [needI]
    split
    · rw [hasI_two, ih]; rfl
    · exact ih
theorem usd_mem {N : Nat} {s : List (Int × Int)} {o : List Int} {x : Int} : x ∈ usd N s o ↔ ∃ i : Nat, i < s.length ∧ finI N s o i = true ∧ x = i := by
  unfold usd usT
  simp only [List.mem_map, List.mem_filter, List.mem_range'_1]
  constructor
  · rintro ⟨i, ⟨h1, h2⟩, rfl⟩
    exact ⟨i, by omega, h2, rfl⟩
  · rintro ⟨i, h1, h2, rfl⟩
    exact ⟨i, ⟨by omega, h2⟩, rfl⟩
theorem usd_sorted (N : Nat) (s : List (Int × Int)) (o : List Int) : (usd N s o).Pairwise (· < ·) := by
  unfold usd usT
  rw [List.pairwise_map]
  refine List.Pairwise.filter _ ?_
  refine List.Pairwise.imp ?_ (List.pairwise_lt_range' (s := s.length - s.length) (n := s.length) (step := 1))
  intro a b h
  omega
theorem usd_nodup (N : Nat) (s : List (Int × Int)) (o : List Int) : (usd N s o).Nodup := by
  rw [List.nodup_iff_pairwise_ne]
  exact List.Pairwise.imp (fun h => by omega) (usd_sorted N s o)
theorem take_of_lt {l : List Int} (hs : l.Pairwise (· < ·)) {k : Nat} (hk : k < l.length) {x : Int} (hx : x ∈ l) (hlt : x < l[k]) : hasI (l.take k) x = true := by
  unfold hasI
  simp only [List.contains_eq_mem, decide_eq_true_eq]
  obtain ⟨i, hi, rfl⟩ := List.mem_iff_getElem.1 hx
  rw [List.pairwise_iff_getElem] at hs
  have hik : i < k := by
    rcases Nat.lt_or_ge i k with h | h
    · exact h
    · exfalso
      rcases Nat.lt_or_eq_of_le h with h | h
      · have := hs k i hk hi h; omega
      · subst h; omega
  exact List.mem_iff_getElem.2 ⟨i, by simp; omega, by rw [List.getElem_take]⟩
theorem fin_of_has {N : Nat} {s : List (Int × Int)} {o : List Int} {x : Int} {j : Nat} (hj : j ≤ s.length) (h : hasI (needI N s o j) x = true) {i : Nat} (hx : x = (N : Int) + (i : Int)) : finI N s o i = true := by
  unfold finI
  rw [← hx]
  have := need_mono (s.length - j) h
  rwa [show j + (s.length - j) = s.length by omega] at this
theorem usd_cover {N : Nat} {s : List (Int × Int)} {o : List Int} (hout : ∀ x ∈ o, 0 ≤ x ∧ x < (N : Int) + s.length) : ∀ x ∈ o, nmOk N (usd N s o) x = true := by
  intro x hx
  obtain ⟨h1, h2⟩ := hout x hx
  unfold nmOk
  rw [Bool.or_eq_true, decide_eq_true_eq]
  by_cases hv : x < N
  · exact .inl hv
  · right
    have h0 : hasI (needI N s o 0) x = true := by
      unfold hasI
      simp [needI, hx]
    have hf := fin_of_has (by omega) h0 (i := (x - N).toNat) (by omega)
    unfold hasI
    simp only [List.contains_eq_mem, decide_eq_true_eq]
    exact usd_mem.2 ⟨(x - N).toNat, by omega, hf, by omega⟩
theorem usd_ok {N : Nat} {p : Pl} (hs : OkS N p.s) : kOk N p (usd N p.s p.o) (usd N p.s p.o).length = true := by
  unfold kOk
  rw [List.all_eq_true]
  intro k hk
  have hk : k < (usd N p.s p.o).length := by simpa using hk
  obtain ⟨n, hn, hf, he⟩ := usd_mem.1 (List.getElem_mem hk)
  obtain ⟨s1, s2, s3⟩ := hs n hn
  rw [stepAt_eq hk he hn]
  have hj : p.s.length - 1 - n < p.s.length := by omega
  have hat := fin_at (o := p.o) hs hj (i := n) (by omega)
  rw [hf] at hat
  have hneed := need_hit (o := p.o) hn (j := p.s.length - 1 - n) (by omega) hat.symm
  have one : ∀ v : Int, 0 ≤ v → v < N + n → hasI (needI N p.s p.o (p.s.length - 1 - n + 1)) v = true → nmOk N ((usd N p.s p.o).take k) v = true := by
    intro v h0 hv hh
    unfold nmOk
    rw [Bool.or_eq_true, decide_eq_true_eq]
    by_cases hvN : v < N
    · exact .inl hvN
    · right
      have hf2 := fin_of_has (by omega) hh (i := (v - N).toNat) (by omega)
      have hm : (v - N) ∈ usd N p.s p.o := usd_mem.2 ⟨(v - N).toNat, by omega, hf2, by omega⟩
      exact take_of_lt (usd_sorted _ _ _) hk hm (by rw [he]; omega)
  rw [Bool.and_eq_true]
  exact ⟨one _ s1 (by omega) (by rw [hneed, hasI_two]; simp), one _ (by omega) (by omega) (by rw [hneed, hasI_two]; simp)⟩
end Go.Proofs.Ytbbjgcagkmlngac
/- TrimPlan, of the model and of the program. -/
namespace Go.Proofs.Ytbbjgcagkmlngac
open Go.RowKit

def zeroP : Pl := ⟨0, [], []⟩
def trimR (p : Pl) : Pl := if good p then ⟨p.n, keepS p p.n.toNat (usd p.n.toNat p.s p.o) (usd p.n.toNat p.s p.o).length, keepO p p.n.toNat (usd p.n.toNat p.s p.o) p.o.length⟩ else zeroP
theorem trimR_good {p : Pl} {N : Nat} (h : good p = true) (hN : p.n = N) : trimR p = ⟨p.n, keepS p N (usd N p.s p.o) (usd N p.s p.o).length, keepO p N (usd N p.s p.o) p.o.length⟩ := by
  have : p.n.toNat = N := by omega
  unfold trimR
  rw [if_pos h, this]
theorem trimR_bad {p : Pl} (h : good p = false) : trimR p = zeroP := by
  unfold trimR
  rw [if_neg (by rw [h]; decide)]
theorem trimR_len (p : Pl) : (trimR p).s.length ≤ 1000 ∧ (trimR p).o.length ≤ 1000 := by
  cases h : good p with
  | false => rw [trimR_bad h]; simp [zeroP]
  | true =>
    obtain ⟨N, hN, _, _, h40, ho6, _⟩ := good_facts h
    rw [trimR_good h hN]
    have := us_len N p.s p.o p.s.length
    simp only
    rw [keepS_len p N _ (Nat.le_refl _), keepO_len p N _ (Nat.le_refl _)]
    unfold usd
    omega
theorem usd_in {N : Nat} {s : List (Int × Int)} {o : List Int} : ∀ x ∈ usd N s o, 0 ≤ x ∧ x < (s.length : Int) := by
  intro x hx
  obtain ⟨i, h1, _, rfl⟩ := usd_mem.1 hx
  omega
/-- Boxes of a plan that came in and of a plan that is answered. -/
theorem boxes2 {w w2 : World} {a b c : Value} {t : TypeId} (h : (w.alloc (.cells #[a, b, c] t)).alloc (.cells #[.int .i64 0, .slice none 0 0, .slice none 0 0] 39) = w2) :
    w2.heap[w.heap.size]? = some (.cells #[a, b, c] t (0, 0)) ∧ w2.heap[w.heap.size + 1]? = some (.cells #[.int .i64 0, .slice none 0 0, .slice none 0 0] 39 (0, 0)) ∧ w2.heap.size = w.heap.size + 2 ∧ Below w.heap.size w w2 := by
  subst h
  refine ⟨?_, ?_, by simp, ((Below.refl _ _).alloc (Nat.le_refl _) _).alloc (by simp) _⟩
  · rw [Below.heap_alloc _ _ _ (by simp)]; exact heap_alloc_new w _
  · have := heap_alloc_new (w.alloc (.cells #[a, b, c] t)) (.cells #[.int .i64 0, .slice none 0 0, .slice none 0 0] 39)
    simpa using this
theorem cells3 {w : World} {g : Nat} {a b c : Value} {t : TypeId} (h : w.heap[g]? = some (.cells #[a, b, c] t (0, 0))) :
    w.cell? ⟨g, 0, none⟩ = some a ∧ w.cell? ⟨g, 1, none⟩ = some b ∧ w.cell? ⟨g, 2, none⟩ = some c ∧ w.frozen? ⟨g, 0, none⟩ = false ∧ w.frozen? ⟨g, 1, none⟩ = false ∧ w.frozen? ⟨g, 2, none⟩ = false := by
  refine ⟨?_, ?_, ?_, frozen_of_row w _ 0 _ _ h, frozen_of_row w _ 1 _ _ h, frozen_of_row w _ 2 _ _ h⟩
  · rw [cell_of_row w _ 0 _ _ (0, 0) h]; rfl
  · rw [cell_of_row w _ 1 _ _ (0, 0) h]; rfl
  · rw [cell_of_row w _ 2 _ _ (0, 0) h]; rfl
theorem OwP.zero (w : World) (B : Nat) : OwP w B none none 0 0 zeroP := ⟨World.ownsRow_nil _ _ _ _, World.ownsRow_nil _ _ _ _⟩

theorem owP_of3 {w : World} {g B n m : Nat} {B1 B2 : Option Addr} {d1 d2 : Nat} {s : List (Int × Int)} {o : List Int} {z : Int} {t : TypeId} {cs : Array Value} (h : OwS w B (.slice B1 n d1) s) (h' : OwI w B (.slice B2 m d2) o) (hg : w.heap[g]? = some (.cells cs t (0, 0)))
    (ht : t ≠ 51) (ht' : t ≠ 3) (hn : s.length = n) (hm : o.length = m) (a b c : Value) :
    OwP (((w.setCell ⟨g, 0, none⟩ a).setCell ⟨g, 1, none⟩ b).setCell ⟨g, 2, none⟩ c) B B1 B2 d1 d2 ⟨z, s, o⟩ := by
  subst hn
  subst hm
  exact ⟨own_set3 h hg ht a b c, own_set3 h' hg ht' a b c⟩

set_option maxRecDepth 100000 in
set_option maxHeartbeats 1000000 in
theorem implTrim_any (B : Nat) (A1 A2 : Option Addr) (c1 c2 : Nat) (p : Pl) (w : World) (hB : B ≤ w.heap.size) (hls : p.s.length ≤ 2000000) (hlo : p.o.length ≤ 2000000) (hr : RdP w B A1 A2 p) :
    Calls Try.prog 70 #[.agg #[.int .i64 p.n, .slice A1 p.s.length c1, .slice A2 p.o.length c2]] w fun e w' =>
      ∃ B1 B2 d1 d2, e = .returned (.tuple #[.agg #[.int .i64 (trimR p).n, .slice B1 (trimR p).s.length d1, .slice B2 (trimR p).o.length d2], .bool (good p)]) ∧ OwP w' w.heap.size B1 B2 d1 d2 (trimR p) ∧ Below w.heap.size w w' := by
  have H := Lib.hid hr
  clear hr
  go_enter Try.func70, Try.ntmps70
  go_wp2_with fail
  go_at_call 83
  generalize hw1 : World.alloc (World.alloc w _) _ = w1
  obtain ⟨q0, q1, xs, xb⟩ := boxes2 hw1
  clear hw1 q0
  refine (withValues_any B A1 A2 c1 c2 p w1 (by omega) hls hlo (H.out.below' xb hB)).mono ?_
  rintro e w2 ⟨hb2, hpost⟩
  have r1 := (hb2.block (w.heap.size + 1) (by omega)).trans q1
  have HB2 := Lib.hid (xb.trans (hb2.mono (show w.heap.size ≤ w1.heap.size by omega)))
  have hs2 : w.heap.size + 2 ≤ w2.heap.size := by have := hb2.size; omega
  clear q1 xs xb hb2
  rw [valsI_eq] at hpost
  by_cases hg : good p = true
  · rw [if_pos hg] at hpost
    simp only at hpost
    obtain ⟨A, c, rfl, hown⟩ := hpost
    obtain ⟨N, hN, n1, n6, hs40, ho6, hok, hout, _⟩ := good_facts hg
    rw [rows_len hN]
    have hul := us_len N p.s p.o p.s.length
    have ea := trimR_good hg hN
    have hpu := fun W hBW hrW => usedSteps_any w.heap.size N (N + p.s.length) A1 A2 A c1 c2 c p W hN n6 hs40 ho6 rfl hBW hok hout hrW
    have hpk := fun W A' c' hBW hrW hlW => keep_any W.heap.size N (N + p.s.length) A1 A2 A A' c1 c2 c c' p (usd N p.s p.o) W hN n1 n6 (by unfold usd; omega) (by omega) (by omega) hBW usd_in (usd_nodup _ _ _) hok hout (usd_cover hout) hrW hlW
    have hkk := usd_ok (p := p) hok
    obtain ⟨U, hU⟩ : ∃ U, usd N p.s p.o = U := ⟨_, rfl⟩
    have hUl : U.length ≤ 40 := by rw [← hU]; unfold usd; omega
    rw [hU] at ea hpu hpk hkk
    have EA := Lib.hid ea
    have HPU := Lib.hid hpu
    have HPK := Lib.hid hpk
    have HKK := Lib.hid hkk
    have HN := Lib.hid hN
    have HG := Lib.hid hg
    have R1 := Lib.hid r1
    clear ea hpu hpk hkk hU hok hout hN hul hown hg r1
    go_wp2
    generalize hw3 : World.alloc w2 _ = w3
    obtain ⟨v0, v1, v2, v3, xs, xb⟩ := box4 hw3
    clear hw3
    have FS := Lib.hid (show ∀ x, Below w3.heap.size w3 x → x.cell? ⟨w2.heap.size, 0, none⟩ = some (.int .i64 p.n) ∧ x.cell? ⟨w2.heap.size, 1, none⟩ = some (.slice A1 p.s.length c1) ∧ x.cell? ⟨w2.heap.size, 2, none⟩ = some (.slice A2 p.o.length c2) ∧ x.cell? ⟨w2.heap.size, 3, none⟩ = some (.slice A (N + p.s.length) c) from fun x hx =>
      ⟨(hx.cell (p := ⟨w2.heap.size, 0, none⟩) (by simp only []; omega)).trans v0, (hx.cell (p := ⟨w2.heap.size, 1, none⟩) (by simp only []; omega)).trans v1, (hx.cell (p := ⟨w2.heap.size, 2, none⟩) (by simp only []; omega)).trans v2, (hx.cell (p := ⟨w2.heap.size, 3, none⟩) (by simp only []; omega)).trans v3⟩)
    have S0 := Lib.hid (show Below w3.heap.size w3 w3.drew from (Below.refl _ _).drew)
    have HB3 := Lib.hid (HB2.out.trans (xb.mono HB2.out.size))
    have R3 := Lib.hid ((xb.block (w.heap.size + 1) (by omega)).trans R1.out)
    have hs3 : w.heap.size + 3 ≤ w3.heap.size := by omega
    clear v0 v1 v2 v3 xs xb
    refine wp_region_T (fun x : World => Below w3.heap.size w3 x) [0, 1, 4, 5, 7] [0, 1] (.ls 0 (.ls 1 (.hv 2 (.hv 3 (.lp 4 (.lp 5 (.hv 6 (.lp 7 (.done))))))))) (by kernel_rfl) (by kernel_rfl) ?_
    refine T_ls1 (v := .agg #[.int .i64 p.n, .slice A1 p.s.length c1, .slice A2 p.o.length c2, .slice A (N + p.s.length) c]) rfl rfl S0.out (fun x hx => (by obtain ⟨h0, h1, h2, h3⟩ := FS.out x hx; go_simp)) (fun K hK => ?_)
    (go_simp; refine hK _ ?_; clear hK K)
    refine T_ls1 (v := .agg #[.int .i64 p.n, .slice A1 p.s.length c1, .slice A2 p.o.length c2, .slice A (N + p.s.length) c]) rfl rfl S0.out (fun x hx => (by obtain ⟨h0, h1, h2, h3⟩ := FS.out x hx; go_simp)) (fun K hK => ?_)
    (go_simp; refine hK _ ?_; clear hK K)
    refine T_hvS rfl (fun K hK => ?_)
    go_simp
    go_at_call 85
    refine (HPU.out w3.drew (by simp; omega) (((H.out.below' HB3.out hB).more hB).drew)).mono ?_
    rintro e w4 ⟨A3, c3, rfl, hown4, hb4⟩
    have hb34 : Below w3.heap.size w3 w4 := (Below.refl _ _).drew.trans (hb4.mono (by simp))
    have HO4 := Lib.hid hown4
    have HB34 := Lib.hid hb34
    clear hown4 hb4
    go_simp
    refine hK _ _ hb34 ?_
    clear hK K hb34
    refine T_hv rfl (by kernel_rfl) (fun K hK => ?_)
    go_simp
    go_at_call 84
    have hbw4 : Below w.heap.size w w4 := HB3.out.trans (HB34.out.mono (by omega))
    refine (HPK.out w4 A3 c3 (Nat.le_refl _) ((H.out.below' hbw4 hB).more (by have := hbw4.size; omega)) HO4.out.rd).mono ?_
    rintro e w5 ⟨hb5, hpost⟩
    rw [if_pos HKK.out] at hpost
    obtain ⟨B1, B2, d1, d2, rfl, hs5, ho5⟩ := hpost
    have hb35 : Below w3.heap.size w3 w5 := HB34.out.trans (hb5.mono HB34.out.size)
    have r5 := (hb35.block (w.heap.size + 1) (by omega)).trans R3.out
    obtain ⟨t0, t1, t2, g0, g1, g2⟩ := cells3 r5
    have R5 := Lib.hid r5
    have HS5 := Lib.hid (own_base hs5 (show w.heap.size ≤ w4.heap.size from hbw4.size))
    have HO5 := Lib.hid (own_base ho5 (show w.heap.size ≤ w4.heap.size from hbw4.size))
    have HB5 := Lib.hid (HB3.out.trans (hb35.mono (by omega)))
    clear r5 hs5 ho5 hb5 hb35 hbw4
    (go_simp; refine hK _ _ ?_; clear hK K)
    (repeat (refine T_lp rfl (fun K hK => ?_); go_simp; refine hK _ ?_; clear hK K))
    (refine T_hv rfl (by kernel_rfl) (fun K hK => ?_); go_simp; refine hK _ _ ?_; clear hK K)
    (repeat (refine T_lp rfl (fun K hK => ?_); go_simp; refine hK _ ?_; clear hK K))
    refine T_done ?_
    go_wp2
    refine bodyPost_ret (v := .tuple #[.agg #[.int .i64 (N : Int), .slice B1 U.length d1, .slice B2 p.o.length d2], .bool true]) (by simp [results, Try.results70, go_sem, t0, t1, t2]) rfl ⟨B1, B2, d1, d2, ?_, ?_, ?_⟩
    · rw [EA.out, HG.out]
      simp only
      rw [keepS_len p N U (Nat.le_refl _), keepO_len p N U (Nat.le_refl _), HN.out]
    · rw [EA.out]
      exact owP_of3 HS5.out HO5.out R5.out (by decide) (by decide) (keepS_len p N U (Nat.le_refl _)) (keepO_len p N U (Nat.le_refl _)) _ _ _
    · exact ((HB5.out.setCell (by simp) _).setCell (by simp) _).setCell (by simp) _
  · rw [if_neg hg] at hpost
    simp only at hpost
    subst hpost
    have hg' : good p = false := by simpa using hg
    have ea := trimR_bad hg'
    have EA := Lib.hid ea
    have HG := Lib.hid hg'
    have hR1 : ∀ o, (w2.alloc o).heap[w.heap.size + 1]? = some (.cells #[.int .i64 0, .slice none 0 0, .slice none 0 0] 39 (0, 0)) := fun o => (Below.heap_alloc w2 o _ (by omega)).trans r1
    have t0 := fun o => (cells3 (hR1 o)).1
    have t1 := fun o => (cells3 (hR1 o)).2.1
    have t2 := fun o => (cells3 (hR1 o)).2.2.1
    have g0 := fun o => (cells3 (hR1 o)).2.2.2.1
    have g1 := fun o => (cells3 (hR1 o)).2.2.2.2.1
    have g2 := fun o => (cells3 (hR1 o)).2.2.2.2.2
    clear hg hg' ea hR1 r1
    go_wp2
    refine bodyPost_ret (v := .tuple #[.agg #[.int .i64 0, .slice none 0 0, .slice none 0 0], .bool false]) (by simp [results, Try.results70, go_sem, t0, t1, t2]) rfl ⟨none, none, 0, 0, by rw [EA.out, HG.out]; rfl, by rw [EA.out]; exact OwP.zero _ _, ?_⟩
    exact (((HB2.out.alloc HB2.out.size _).setCell (by simp) _).setCell (by simp) _).setCell (by simp) _
end Go.Proofs.Ytbbjgcagkmlngac
/- The plan of a chain. -/
namespace Go.Proofs.Ytbbjgcagkmlngac
open Go.RowKit

def zPl : Pl := ⟨0, [], []⟩
theorem OwP.zPl (w : World) (B : Nat) : OwP w B none none 0 0 zPl := ⟨World.ownsRow_nil _ _ _ _, World.ownsRow_nil _ _ _ _⟩
/-- The plan of a list, if it is a chain. -/
def chP (l : List Int) : Pl := if chG l then ⟨1, stepsK l l.length, [(l.length : Int) - 1]⟩ else zPl
theorem chP_true {l : List Int} (h : chG l = true) : chP l = ⟨1, stepsK l l.length, [(l.length : Int) - 1]⟩ := by unfold chP; rw [if_pos h]
theorem chP_false {l : List Int} (h : chG l = false) : chP l = zPl := by unfold chP; rw [h]; rfl
theorem chP_s (l : List Int) : (chP l).s.length ≤ 1000 := by
  cases hg : chG l with
  | true => rw [chP_true hg]; simp only [stepsK_length]; have := (chG_chn hg).most; omega
  | false => rw [chP_false hg]; simp [zPl]
theorem chP_o (l : List Int) : (chP l).o.length ≤ 1000 := by
  cases hg : chG l with
  | true => rw [chP_true hg]; simp
  | false => rw [chP_false hg]; simp [zPl]
theorem cells3Q {w : World} {g : Nat} {a b c : Value} {t : TypeId} (h : w.heap[g]? = some (.cells #[a, b, c] t (0, 0))) :
    w.cell? ⟨g, 0, none⟩ = some a ∧ w.cell? ⟨g, 1, none⟩ = some b ∧ w.cell? ⟨g, 2, none⟩ = some c ∧ w.frozen? ⟨g, 0, none⟩ = false ∧ w.frozen? ⟨g, 1, none⟩ = false ∧ w.frozen? ⟨g, 2, none⟩ = false := by
  refine ⟨?_, ?_, ?_, frozen_of_row w _ 0 _ _ h, frozen_of_row w _ 1 _ _ h, frozen_of_row w _ 2 _ _ h⟩
  · rw [cell_of_row w _ 0 _ _ (0, 0) h]; rfl
  · rw [cell_of_row w _ 1 _ _ (0, 0) h]; rfl
  · rw [cell_of_row w _ 2 _ _ (0, 0) h]; rfl
theorem own_set3Q {w : World} {g B sz n : Nat} {t e : TypeId} {v : Value} {xs : List Value} {cs : Array Value} (h : w.ownsRow B e sz v n xs) (hg : w.heap[g]? = some (.cells cs t (0, 0))) (ht : t ≠ e) (a b c : Value) :
    (((w.setCell ⟨g, 0, none⟩ a).setCell ⟨g, 1, none⟩ b).setCell ⟨g, 2, none⟩ c).ownsRow B e sz v n xs := by
  have h1 := own_set (o := 0) h hg ht a
  have k1 := heap_setCell_same w g 0 _ t a hg
  have h2 := own_set (o := 1) h1 k1 ht b
  have k2 := heap_setCell_same _ g 1 _ t b k1
  exact own_set (o := 2) h2 k2 ht c
/-- A literal of one number. -/
theorem one_own {w : World} {B : Nat} (x : Int) (hB : B ≤ w.heap.size) : (w.alloc (.cells #[.int .i64 x] 3)).ownsRow B 3 1 (.slice (some ⟨w.heap.size, 0, none⟩) 1 1) 1 [I x] :=
  World.ownsRow_lit (base := B) (e := 3) (size := 1) w #[.int .i64 x] 1 hB (by unfold maxLen; omega) (by simp)

set_option maxRecDepth 100000 in
set_option maxHeartbeats 2000000 in
theorem chPlan_any (B : Nat) (A : Option Addr) (c : Nat) (l : List Int) (w : World) (hg : chG l = true) (hB : B ≤ w.heap.size) (hr : Rd w B 1 A l.length (l.map I)) :
    Calls Try.prog 58 #[.slice A l.length c] w fun e w' =>
      ∃ R1 R2 v1 v2, e = .returned (.agg #[.int .i64 1, .slice R1 (stepsK l l.length).length v1, .slice R2 1 v2]) ∧ OwP w' w.heap.size R1 R2 v1 v2 ⟨1, stepsK l l.length, [(l.length : Int) - 1]⟩ ∧ Below w.heap.size w w' := by
  have hS := fun (W : World) (hb : Below w.heap.size w W) => chSteps_any B A c l W hg (by have := hb.size; omega) (hr.below' hb hB)
  have hl1 := (chG_chn hg).pos
  have hl2 := (chG_chn hg).most
  obtain ⟨S, hSe⟩ : ∃ S, stepsK l l.length = S := ⟨_, rfl⟩
  rw [hSe] at hS ⊢
  have HS := Lib.hid hS
  clear hS hg hr hSe
  go_enter Try.func58, Try.ntmps58
  go_wp2_with fail
  go_at_call 50
  generalize hw1 : World.alloc w _ = w1
  have r1 : w1.heap[w.heap.size]? = some (.cells #[.int .i64 0, .slice none 0 0, .slice none 0 0] 39 (0, 0)) := by rw [← hw1]; exact Array.getElem?_push_size
  have hb1 : Below w.heap.size w w1 := by rw [← hw1]; exact (Below.refl _ _).alloc (Nat.le_refl _) _
  have hs1 : w1.heap.size = w.heap.size + 1 := by rw [← hw1]; simp
  clear hw1
  refine (HS.out w1 hb1).mono ?_
  rintro e w2 ⟨A2, c2, rfl, hown2, hb2⟩
  have r2 := (hb2.block w.heap.size (by omega)).trans r1
  have hR : ∀ o, (w2.alloc o).heap[w.heap.size]? = some (.cells #[.int .i64 0, .slice none 0 0, .slice none 0 0] 39 (0, 0)) := fun o => (Below.heap_alloc w2 o _ (by have := hb2.size; omega)).trans r2
  have t0 := fun o => (cells3Q (hR o)).1
  have t1 := fun o => (cells3Q (hR o)).2.1
  have t2 := fun o => (cells3Q (hR o)).2.2.1
  have g0 := fun o => (cells3Q (hR o)).2.2.2.1
  have g1 := fun o => (cells3Q (hR o)).2.2.2.2.1
  have g2 := fun o => (cells3Q (hR o)).2.2.2.2.2
  have hs2 : w.heap.size + 1 ≤ w2.heap.size := by have := hb2.size; omega
  have HB2 := Lib.hid (hb1.trans (hb2.mono (by omega)))
  have OW2 := Lib.hid hown2
  have HR := Lib.hid hR
  have hsub : IntKind.i64.wrap ((l.length : Int) - 1) = (l.length : Int) - 1 := IntWalk.i64_in _ (by omega)
  clear r1 r2 hb1 hb2 hown2 hR
  go_wp2
  refine bodyPost_ret (v := .agg #[.int .i64 1, .slice A2 S.length c2, .slice (some ⟨w2.heap.size, 0, none⟩) 1 1]) (by simp [results, Try.results58, go_sem, t0, t1, t2]) rfl ⟨A2, some ⟨w2.heap.size, 0, none⟩, c2, 1, rfl, ?_, ?_⟩
  · refine ⟨own_set3Q (own_base (World.ownsRow.alloc OW2.out _) (by omega)) (HR.out _) (by decide) _ _ _, own_set3Q (one_own _ (by omega)) (HR.out _) (by decide) _ _ _⟩
  · exact (((HB2.out.alloc (by omega) _).setCell (by simp) _).setCell (by simp) _).setCell (by simp) _

set_option maxRecDepth 100000 in
set_option maxHeartbeats 2000000 in
theorem specChainPlan_any (B : Nat) (A : Option Addr) (c : Nat) (l : List Int) (w : World) (hB : B ≤ w.heap.size) (hl : l.length ≤ 1048576) (_hcap : l.length ≤ c) (hr : Rd w B 1 A l.length (l.map I)) :
    Calls Try.prog 32 #[.slice A l.length c] w fun e w' =>
      ∃ R1 R2 v1 v2, e = .returned (.tuple #[.agg #[.int .i64 (chP l).n, .slice R1 (chP l).s.length v1, .slice R2 (chP l).o.length v2], .bool (chG l)]) ∧ OwP w' w.heap.size R1 R2 v1 v2 (chP l) ∧ Below w.heap.size w w' := by
  have hS := fun (W : World) (hb : Below w.heap.size w W) => chGood_any B A c l W hl (by have := hb.size; omega) (hr.below' hb hB)
  have H := Lib.hid hr
  clear hr
  cases hg : chG l with
  | false =>
    rw [hg] at hS
    have HS := Lib.hid hS
    have GG := Lib.hid hg
    rw [chP_false hg]
    clear hS hg
    go_enter Try.func32, Try.ntmps32
    go_wp2_with fail
    go_at_call 49
    generalize hw1 : World.alloc w _ = w1
    have r1 : w1.heap[w.heap.size]? = some (.cells #[.int .i64 0, .slice none 0 0, .slice none 0 0] 39 (0, 0)) := by rw [← hw1]; exact Array.getElem?_push_size
    have hb1 : Below w.heap.size w w1 := by rw [← hw1]; exact (Below.refl _ _).alloc (Nat.le_refl _) _
    have hs1 : w1.heap.size = w.heap.size + 1 := by rw [← hw1]; simp
    clear hw1
    refine (HS.out w1 hb1).mono ?_
    rintro e w2 ⟨rfl, hb2⟩
    have hb2' : Below w1.heap.size w1 w2 := hb2
    have r2 := (hb2'.block w.heap.size (by omega)).trans r1
    obtain ⟨t0, t1, t2, g0, g1, g2⟩ := cells3Q r2
    have HB2 := Lib.hid (hb1.trans (hb2'.mono (by omega)))
    clear r1 r2 hb1 hb2 hb2'
    go_wp2
    refine bodyPost_ret (v := .tuple #[.agg #[.int .i64 0, .slice none 0 0, .slice none 0 0], .bool false]) (by simp [results, Try.results32, go_sem, t0, t1, t2]) rfl ⟨none, none, 0, 0, rfl, OwP.zPl _ _, ?_⟩
    exact ((HB2.out.setCell (by simp) _).setCell (by simp) _).setCell (by simp) _
  | true =>
    rw [hg] at hS
    have HS := Lib.hid hS
    have hP := fun (W : World) (hb : Below w.heap.size w W) => chPlan_any B A c l W hg (by have := hb.size; omega) (H.out.below' hb hB)
    rw [chP_true hg]
    simp only
    obtain ⟨S, hSe⟩ : ∃ S, stepsK l l.length = S := ⟨_, rfl⟩
    rw [hSe] at hP ⊢
    have HP := Lib.hid hP
    have GG := Lib.hid hg
    clear hS hg hP hSe
    go_enter Try.func32, Try.ntmps32
    go_wp2_with fail
    go_at_call 49
    generalize hw1 : World.alloc w _ = w1
    have r1 : w1.heap[w.heap.size]? = some (.cells #[.int .i64 0, .slice none 0 0, .slice none 0 0] 39 (0, 0)) := by rw [← hw1]; exact Array.getElem?_push_size
    have hb1 : Below w.heap.size w w1 := by rw [← hw1]; exact (Below.refl _ _).alloc (Nat.le_refl _) _
    have hs1 : w1.heap.size = w.heap.size + 1 := by rw [← hw1]; simp
    clear hw1
    refine (HS.out w1 hb1).mono ?_
    rintro e w2 ⟨rfl, hb2⟩
    have HB2 := Lib.hid (hb1.trans (hb2.mono (by omega)))
    have HB12 := Lib.hid hb2
    have R1 := Lib.hid r1
    have hs2 : w1.heap.size ≤ w2.heap.size := hb2.size
    clear r1 hb1 hb2
    go_wp2_with fail
    go_at_call 58
    refine (HP.out w2 HB2.out).mono ?_
    rintro e w3 ⟨Q1, Q2, v1, v2, rfl, hown3, hb3⟩
    have r3 := ((HB12.out.trans (hb3.mono hs2)).block w.heap.size (by omega)).trans R1.out
    obtain ⟨t0, t1, t2, g0, g1, g2⟩ := cells3Q r3
    have R3 := Lib.hid r3
    have OW3 := Lib.hid (hown3.base (show w.heap.size ≤ w2.heap.size by omega))
    have HB3 := Lib.hid (HB2.out.trans (hb3.mono (by omega)))
    clear r3 hown3 hb3
    go_wp2
    refine bodyPost_ret (v := .tuple #[.agg #[.int .i64 1, .slice Q1 S.length v1, .slice Q2 1 v2], .bool true]) (by simp [results, Try.results32, go_sem, t0, t1, t2]) rfl ⟨Q1, Q2, v1, v2, rfl, ?_, ?_⟩
    · exact ⟨own_set3Q OW3.out.1 R3.out (by decide) _ _ _, own_set3Q OW3.out.2 R3.out (by decide) _ _ _⟩
    · exact ((HB3.out.setCell (by simp) _).setCell (by simp) _).setCell (by simp) _

set_option maxRecDepth 100000 in
set_option maxHeartbeats 2000000 in
theorem implChainPlan_any (B : Nat) (A : Option Addr) (c : Nat) (l : List Int) (w : World) (hB : B ≤ w.heap.size) (hl : l.length ≤ 1048576) (hcap : l.length ≤ c) (hr : Rd w B 1 A l.length (l.map I)) :
    Calls Try.prog 33 #[.slice A l.length c] w fun e w' =>
      ∃ R1 R2 v1 v2, e = .returned (.tuple #[.agg #[.int .i64 (chP l).n, .slice R1 (chP l).s.length v1, .slice R2 (chP l).o.length v2], .bool (chG l)]) ∧ OwP w' w.heap.size R1 R2 v1 v2 (chP l) ∧ Below w.heap.size w w' := by
  have hS := fun (W : World) (hb : Below w.heap.size w W) => implSteps_any B A c l W (by have := hb.size; omega) hl hcap (hr.below' hb hB)
  clear hr
  cases hg : chG l with
  | false =>
    rw [hg] at hS
    rw [chS_false hg] at hS
    have HS := Lib.hid hS
    rw [chP_false hg]
    clear hS hg
    go_enter Try.func33, Try.ntmps33
    go_wp2_with fail
    go_at_call 20
    generalize hw1 : World.alloc w _ = w1
    have r1 : w1.heap[w.heap.size]? = some (.cells #[.int .i64 0, .slice none 0 0, .slice none 0 0] 39 (0, 0)) := by rw [← hw1]; exact Array.getElem?_push_size
    have hb1 : Below w.heap.size w w1 := by rw [← hw1]; exact (Below.refl _ _).alloc (Nat.le_refl _) _
    have hs1 : w1.heap.size = w.heap.size + 1 := by rw [← hw1]; simp
    clear hw1
    refine (HS.out w1 hb1).mono ?_
    rintro e w2 ⟨A2, c2, rfl, _, hb2⟩
    have r2 := (hb2.block w.heap.size (by omega)).trans r1
    obtain ⟨t0, t1, t2, g0, g1, g2⟩ := cells3Q r2
    have HB2 := Lib.hid (hb1.trans (hb2.mono (by omega)))
    clear r1 r2 hb1 hb2
    go_wp2
    refine bodyPost_ret (v := .tuple #[.agg #[.int .i64 0, .slice none 0 0, .slice none 0 0], .bool false]) (by simp [results, Try.results33, go_sem, t0, t1, t2]) rfl ⟨none, none, 0, 0, rfl, OwP.zPl _ _, ?_⟩
    exact ((HB2.out.setCell (by simp) _).setCell (by simp) _).setCell (by simp) _
  | true =>
    have hlen : ((stepsK l l.length).length : Int) = (l.length : Int) - 1 := by rw [stepsK_length]; have := (chG_chn hg).pos; omega
    have hSl : (stepsK l l.length).length ≤ 40 := by rw [stepsK_length]; have := (chG_chn hg).most; omega
    rw [hg] at hS
    rw [chS_true hg] at hS
    rw [chP_true hg]
    simp only
    obtain ⟨S, hSe⟩ : ∃ S, stepsK l l.length = S := ⟨_, rfl⟩
    rw [hSe] at hS hlen hSl ⊢
    have HS := Lib.hid hS
    have HL := Lib.hid hlen
    clear hS hg hSe hlen
    go_enter Try.func33, Try.ntmps33
    go_wp2_with fail
    go_at_call 20
    generalize hw1 : World.alloc w _ = w1
    have r1 : w1.heap[w.heap.size]? = some (.cells #[.int .i64 0, .slice none 0 0, .slice none 0 0] 39 (0, 0)) := by rw [← hw1]; exact Array.getElem?_push_size
    have hb1 : Below w.heap.size w w1 := by rw [← hw1]; exact (Below.refl _ _).alloc (Nat.le_refl _) _
    have hs1 : w1.heap.size = w.heap.size + 1 := by rw [← hw1]; simp
    clear hw1
    refine (HS.out w1 hb1).mono ?_
    rintro e w2 ⟨A2, c2, rfl, hown2, hb2⟩
    have r2 := (hb2.block w.heap.size (by omega)).trans r1
    have hR : ∀ o, (w2.alloc o).heap[w.heap.size]? = some (.cells #[.int .i64 0, .slice none 0 0, .slice none 0 0] 39 (0, 0)) := fun o => (Below.heap_alloc w2 o _ (by have := hb2.size; omega)).trans r2
    have t0 := fun o => (cells3Q (hR o)).1
    have t1 := fun o => (cells3Q (hR o)).2.1
    have t2 := fun o => (cells3Q (hR o)).2.2.1
    have g0 := fun o => (cells3Q (hR o)).2.2.2.1
    have g1 := fun o => (cells3Q (hR o)).2.2.2.2.1
    have g2 := fun o => (cells3Q (hR o)).2.2.2.2.2
    have hs2 : w.heap.size + 1 ≤ w2.heap.size := by have := hb2.size; omega
    have HB2 := Lib.hid (hb1.trans (hb2.mono (by omega)))
    have OW2 := Lib.hid hown2
    have HR := Lib.hid hR
    clear r1 r2 hb1 hb2 hown2 hR
    go_wp2
    refine bodyPost_ret (v := .tuple #[.agg #[.int .i64 1, .slice A2 S.length c2, .slice (some ⟨w2.heap.size, 0, none⟩) 1 1], .bool true]) (by simp [results, Try.results33, go_sem, t0, t1, t2]) rfl ⟨A2, some ⟨w2.heap.size, 0, none⟩, c2, 1, rfl, ?_, ?_⟩
    · rw [← HL.out]
      refine ⟨own_set3Q (own_base (World.ownsRow.alloc OW2.out _) (by omega)) (HR.out _) (by decide) _ _ _, own_set3Q (one_own _ (by omega)) (HR.out _) (by decide) _ _ _⟩
    · exact (((HB2.out.alloc (by omega) _).setCell (by simp) _).setCell (by simp) _).setCell (by simp) _
end Go.Proofs.Ytbbjgcagkmlngac
