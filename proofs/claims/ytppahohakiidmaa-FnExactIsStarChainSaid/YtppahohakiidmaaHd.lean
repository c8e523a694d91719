/- Whether a list is a star chain. -/
import Derived.Test.YtppahohakiidmaaQh
namespace Go.Proofs.Ytppahohakiidmaa
open Go.RowKit

def shK (l : List Int) (k : Nat) : Bool := (List.range k).all fun i => decide (i = 0) || hasI (l.take i) (l.getD i 0 - l.getD (i - 1) 0)
theorem shK_succ (l : List Int) (k : Nat) : shK l (k + 1) = (shK l k && (decide (k = 0) || hasI (l.take k) (l.getD k 0 - l.getD (k - 1) 0))) := by
  unfold shK
  rw [List.range_succ, List.all_append]
  simp
theorem shK_false {l : List Int} {k : Nat} (n : Nat) (hk : k < n) (h0 : k ≠ 0) (h : hasI (l.take k) (l.getD k 0 - l.getD (k - 1) 0) = false) : shK l n = false := by
  unfold shK
  rw [List.all_eq_false]
  exact ⟨k, List.mem_range.2 hk, by rw [h, decide_eq_false h0]; simp⟩
theorem shK_at {l : List Int} {n k : Nat} (h : shK l n = true) (hk : k < n) (h0 : 1 ≤ k) : ∃ a, a < k ∧ l.getD a 0 + l.getD (k - 1) 0 = l.getD k 0 := by
  unfold shK at h
  have := List.all_eq_true.1 h k (List.mem_range.2 hk)
  rw [decide_eq_false (by omega), Bool.false_or] at this
  unfold hasI at this
  rw [List.contains_iff_mem] at this
  obtain ⟨i, hi, he⟩ := List.mem_iff_getElem.1 this
  rw [List.length_take] at hi
  refine ⟨i, by omega, ?_⟩
  rw [List.getElem_take] at he
  rw [show l.getD i 0 = l[i]'(by omega) from by simp [show i < l.length by omega]]
  omega
def shB (l : List Int) : Bool := !decide (l.length = 0) && (l.getD 0 0 == 1) && shK l l.length
def isShB (l : List Int) : Bool := decide (l.length ≤ 41) && allB l 1 1000000 && shB l
theorem prsJ_snd {l : List Int} {k j : Nat} : ∀ p ∈ prsJ l k j, p.2 = (j : Int) := by
  intro p hp
  unfold prsJ prsI at hp
  obtain ⟨i, _, rfl⟩ := List.mem_map.1 hp
  rfl
theorem prsJ_ne {l : List Int} {k j a : Nat} (ha : a ≤ j) (h : l.getD a 0 + l.getD j 0 = l.getD k 0) : prsJ l k j ≠ [] := by
  intro e
  have hm : ((a : Int), (j : Int)) ∈ prsJ l k j := by
    unfold prsJ prsI
    exact List.mem_map.2 ⟨a, List.mem_filter.2 ⟨List.mem_range.2 (by omega), by simpa using h⟩, rfl⟩
  rw [e] at hm
  exact absurd hm (by simp)
theorem lastD_mem {l : List (Int × Int)} (h : l ≠ []) : l.getLastD (0, 0) ∈ l := by
  rw [last_form h]
  exact List.getElem_mem _
theorem starB_eq (l : List Int) : starB l = isShB l := by
  rw [Bool.eq_iff_iff]
  constructor
  · intro h
    unfold starB at h
    rw [Bool.and_eq_true] at h
    obtain ⟨hg, hs⟩ := h
    have CH := chG_chn hg
    have h1 := CH.pos
    have h2 := CH.most
    have h3 := CH.one
    rw [chS_true hg, stepsK_length] at hs
    unfold isShB shB
    have hall : allB l 1 1000000 = true := by
      unfold allB
      rw [List.all_eq_true]
      intro x hx
      obtain ⟨i, hi, rfl⟩ := List.mem_iff_getElem.1 hx
      have := CH.rng i hi
      rw [show l.getD i 0 = l[i] from by simp [hi]] at this
      unfold inB
      simpa using this
    have hK : shK l l.length = true := by
      unfold shK
      rw [List.all_eq_true]
      intro k hk
      rw [List.mem_range] at hk
      rcases Nat.eq_zero_or_pos k with h0 | h0
      · subst h0; rfl
      · rw [Bool.or_eq_true]
        right
        have hne := chG_sums hg k h0 hk
        have hl := lastD_mem hne
        obtain ⟨i, j, e, hij, hj, hsum⟩ := prs_mem k _ hl
        unfold starK at hs
        have h5 := List.all_eq_true.1 hs (k - 1) (List.mem_range.2 (by omega))
        rw [decide_eq_true_eq] at h5
        have h6 : (stepsK l l.length).getD (k - 1) (0, 0) = (prs l k k).getLastD (0, 0) := by
          unfold stepsK
          rw [List.getD_eq_getElem?_getD, List.getElem?_map, List.getElem?_range (by omega)]
          simp only [Option.map_some, Option.getD_some]
          rw [show k - 1 + 1 = k by omega]
        rw [h6, e] at h5
        have hj' : j = k - 1 := by
          have : (j : Int) = ((k - 1 : Nat) : Int) := h5
          omega
        subst hj'
        unfold hasI
        rw [List.contains_iff_mem, mem_take_getD (by omega)]
        exact ⟨i, by omega, by omega⟩
    rw [hall, hK, h3]
    simp [h2, show l.length ≠ 0 by omega]
  · intro h
    unfold isShB shB at h
    simp only [Bool.and_eq_true, decide_eq_true_eq, Bool.not_eq_true', decide_eq_false_iff_not, beq_iff_eq] at h
    obtain ⟨⟨h1, h2⟩, ⟨h3, h4⟩, h5⟩ := h
    have rng : ∀ i, i < l.length → 1 ≤ l.getD i 0 ∧ l.getD i 0 ≤ 1000000 := by
      intro i hi
      unfold allB at h2
      have := List.all_eq_true.1 h2 _ (List.getElem_mem hi)
      rw [show l.getD i 0 = l[i] from by simp [hi]]
      simpa [inB] using this
    have up : ∀ i, i + 1 < l.length → l.getD i 0 < l.getD (i + 1) 0 := by
      intro i hi
      obtain ⟨a, ha, he⟩ := shK_at h5 hi (by omega)
      rw [show i + 1 - 1 = i by omega] at he
      have := rng a (by omega)
      omega
    have hB : chB l = true := by
      unfold chB
      rw [risB_of l.length rng up, h4]
      unfold inB
      rw [decide_eq_true (show (1 : Int) ≤ ((l.length : Nat) : Int) by omega), decide_eq_true (show ((l.length : Nat) : Int) ≤ 41 by omega)]
      rfl
    have hlast : ∀ k, 1 ≤ k → k < l.length → prs l k k ≠ [] ∧ ((prs l k k).getLastD (0, 0)).2 = ((k - 1 : Nat) : Int) := by
      intro k hk1 hk
      obtain ⟨a, ha, he⟩ := shK_at h5 hk hk1
      have hJ := prsJ_ne (l := l) (k := k) (j := k - 1) (a := a) (by omega) he
      have hsplit : prs l k k = prs l k (k - 1) ++ prsJ l k (k - 1) := by
        have := prs_succ l k (k - 1)
        rwa [show k - 1 + 1 = k by omega] at this
      refine ⟨by rw [hsplit]; simp [hJ], ?_⟩
      have hL : (prs l k (k - 1) ++ prsJ l k (k - 1)).getLastD (0, 0) = (prsJ l k (k - 1)).getLastD (0, 0) := by
        rw [List.getLastD_eq_getLast?, List.getLastD_eq_getLast?, List.getLast?_append]
        obtain ⟨x, hx⟩ : ∃ x, (prsJ l k (k - 1)).getLast? = some x := by
          cases hq : (prsJ l k (k - 1)).getLast? with
          | none => exact absurd (List.getLast?_eq_none_iff.1 hq) hJ
          | some x => exact ⟨x, rfl⟩
        rw [hx]
        rfl
      rw [hsplit, hL]
      exact prsJ_snd _ (lastD_mem hJ)
    have hG : chG l = true := by
      unfold chG
      rw [hB, Bool.true_and]
      unfold sumsB
      rw [List.all_eq_true]
      intro k hk
      rw [List.mem_range] at hk
      rcases Nat.eq_zero_or_pos k with h0 | h0
      · subst h0; rfl
      · have := (hlast k h0 hk).1
        rw [Bool.or_eq_true]
        right
        cases hp : prs l k k with
        | nil => exact absurd hp this
        | cons _ _ => rfl
    unfold starB
    rw [hG, Bool.true_and, chS_true hG, stepsK_length]
    unfold starK
    rw [List.all_eq_true]
    intro i hi
    rw [List.mem_range] at hi
    have h6 : (stepsK l l.length).getD i (0, 0) = (prs l (i + 1) (i + 1)).getLastD (0, 0) := by
      unfold stepsK
      rw [List.getD_eq_getElem?_getD, List.getElem?_map, List.getElem?_range (by omega)]
      rfl
    rw [h6, decide_eq_true_eq]
    have := (hlast (i + 1) (by omega) (by omega)).2
    rw [show i + 1 - 1 = i by omega] at this
    exact this

set_option maxRecDepth 100000 in
set_option maxHeartbeats 2000000 in
theorem shChain_any (B : Nat) (A : Option Addr) (c : Nat) (l : List Int) (w : World) (h41 : l.length ≤ 41) (hall : allB l 1 1000000 = true) (hcap : l.length ≤ c) (hr : Rd w B 1 A l.length (l.map I)) :
    Calls Try.prog 47 #[.slice A l.length c] w fun e w' => e = .returned (.bool (shB l)) ∧ Dr w w' := by
  have H := Lib.hid hr
  have rng : ∀ i, i < l.length → 1 ≤ l.getD i 0 ∧ l.getD i 0 ≤ 1000000 := by
    intro i hi
    unfold allB at hall
    have := List.all_eq_true.1 hall _ (List.getElem_mem hi)
    rw [show l.getD i 0 = l[i] from by simp [hi]]
    simpa [inB] using this
  have RNG := Lib.hid rng
  clear hr hall rng
  by_cases h0 : l.length = 0
  · have i0 : ((l.length : Int) == 0) = true := by simp [h0]
    have G := Lib.hid (show shB l = false by unfold shB; rw [decide_eq_true h0]; rfl)
    clear h0
    go_enter Try.func47, Try.ntmps47
    go_wp2
    go_ret
    exact ⟨ret_bool G.out.symm, Dr.refl _⟩
  have i0 : ((l.length : Int) == 0) = false := by rw [beq_eq_false_iff_ne]; omega
  have ip : (0 : Int) < (l.length : Int) := by omega
  obtain ⟨b, off, rfl, hbB, hc⟩ := H.out.cells (by omega)
  have HC := Lib.hid hc
  have hc0 := hc 0 (by omega)
  rw [Nat.add_zero] at hc0
  obtain ⟨x, hx⟩ : ∃ x, l.getD 0 0 = x := ⟨_, rfl⟩
  rw [hx] at hc0
  clear hc
  by_cases h1 : x = 1
  case neg =>
    have G := Lib.hid (show shB l = false by unfold shB; rw [hx, (show (x == 1) = false by simpa using h1)]; simp)
    have h2b : (x != 1) = true := by simpa using h1
    clear hx h1 h0
    go_enter Try.func47, Try.ntmps47
    go_wp2
    go_ret
    exact ⟨ret_bool G.out.symm, Dr.refl _⟩
  case pos =>
  subst h1
  have E := Lib.hid (show ∀ v, shK l l.length = v → shB l = v from fun v hv => by unfold shB; rw [decide_eq_false h0, hx, hv]; rfl)
  clear hx
  have H0 := Lib.hid h0
  clear h0
  go_enter Try.func47, Try.ntmps47
  go_wp2
  go_loopw [3] (fun i wr => ∃ k n : Nat, 1 ≤ k ∧ k ≤ l.length ∧ i = .int .i64 k ∧ wr = w.drewN n ∧ shK l k = true) (fun i _ => l.length - (intOf i).toNat)
  case atStart => exact ⟨1, 0, by omega, by have := H0.out; omega, rfl, rfl, rfl⟩
  case round =>
    obtain ⟨k, n, hk1, hk, rfl, rfl, hq⟩ := hrel
    have Q := Lib.hid hq
    clear hq
    by_cases hlt : k < l.length
    · have ik : (k : Int) < (l.length : Int) := by omega
      obtain ⟨m, rfl⟩ : ∃ m, k = m + 1 := ⟨k - 1, by omega⟩
      have ic : (m : Int) + 1 ≤ (c : Int) := by omega
      have htn : ((m : Int) + 1).toNat = m + 1 := by omega
      have hj0 : (0 : Int) ≤ (m : Int) + 1 := by omega
      have im : (m : Int) < (l.length : Int) := by omega
      have c1 := HC.out (m + 1) hlt
      have c2 := HC.out m (by omega)
      have hw1 : IntKind.i64.wrap (m : Int) = (m : Int) := IntWalk.i64_in _ (by omega)
      have r1 := RNG.out (m + 1) hlt
      have r2 := RNG.out m (by omega)
      obtain ⟨y, hy⟩ : ∃ y, l.getD m 0 = y := ⟨_, rfl⟩
      obtain ⟨z, hz⟩ : ∃ z, l.getD (m + 1) 0 = z := ⟨_, rfl⟩
      rw [hy] at c2 r2
      rw [hz] at c1 r1
      have hsub : IntKind.i64.wrap (z - y) = z - y := IntWalk.i64_in _ (by omega)
      obtain ⟨v, hv⟩ : ∃ v, hasI (l.take (m + 1)) (z - y) = v := ⟨_, rfl⟩
      have hlen : (l.take (m + 1)).length = m + 1 := by rw [List.length_take]; omega
      have HH := Lib.hid (show Calls Try.prog 76 #[.slice (some ⟨b, off, none⟩) (m + 1) c, .int .i64 (z - y)] (w.drewN n).drew fun e w' => e = .returned (.bool v) ∧ (w.drewN n).drew = w' by
        have := l1Has_any B (some ⟨b, off, none⟩) c (l.take (m + 1)) (z - y) (w.drewN n).drew (by omega) (by rw [hlen]; exact (H.out.take (by omega)).drewN n |>.drew)
        rwa [hlen, hv] at this)
      have S1 := Lib.hid (show shK l (m + 1 + 1) = v by rw [shK_succ, Q.out, decide_eq_false (by omega), Nat.add_sub_cancel, hy, hz, hv]; rfl)
      have S2 := Lib.hid (show v = false → shK l l.length = false from fun h => shK_false l.length hlt (by omega) (by rw [Nat.add_sub_cancel, hy, hz, hv]; exact h))
      clear hy hz hv r1 r2 hlen
      go_wp2
      refine wp_region_Tw [0, 1, 2, 3, 4, 5, 6, 7, 8, 9, 10, 11, 12, 14] [6, 11] (.lp 0 (.lp 1 (.lp 2 (.lp 3 (.lp 4 (.lp 5 (.lp 7 (.lp 8 (.lp 9 (.lp 10 (.ls 6 (.ls 11 (.lp 12 (.hv 13 (.lp 14 (.done)))))))))))))))) (by kernel_rfl) (by kernel_rfl) ?_
      (repeat (first | (refine T_lp rfl (fun K hK => ?_); go_simp; refine hK _ ?_; clear hK K) | (refine T_ls rfl rfl (fun K hK => ?_); go_simp; refine hK _ ?_; clear hK K)))
      (refine T_hv rfl (by kernel_rfl) (fun K hK => ?_); go_simp)
      go_at_call 76
      refine HH.out.mono ?_
      rintro e w' ⟨rfl, rfl⟩
      (go_simp; refine hK _ _ ?_; clear hK K)
      (repeat (first | (refine T_lp rfl (fun K hK => ?_); go_simp; refine hK _ ?_; clear hK K) | (refine T_ls rfl rfl (fun K hK => ?_); go_simp; refine hK _ ?_; clear hK K)))
      refine T_done ?_
      cases v with
      | true =>
        go_wp2
        go_roundw
        case rel => exact ⟨m + 2, n + 1, by omega, by omega, by go_num, rfl, S1.out⟩
        case measure => simp [intOf]; omega
      | false =>
        go_wp2
        go_ret
        exact ⟨ret_bool (E.out _ (S2.out (by first | rfl | trivial))).symm, ⟨n + 1, rfl⟩⟩
    · have e : k = l.length := by omega
      subst e
      go_wp2
      go_ret
      exact ⟨ret_bool (E.out _ Q.out).symm, Dr.mk _ _⟩

set_option maxRecDepth 100000 in
set_option maxHeartbeats 1000000 in
theorem specIsStar_any (B : Nat) (A : Option Addr) (c : Nat) (l : List Int) (w : World) (_hB : B ≤ w.heap.size) (hl : l.length ≤ 1048576) (hcap : l.length ≤ c) (hr : Rd w B 1 A l.length (l.map I)) :
    Calls Try.prog 15 #[.slice A l.length c] w fun e w' => e = .returned (.bool (starB l)) ∧ Below w.heap.size w w' := by
  rw [starB_eq]
  by_cases h41 : l.length ≤ 41
  · have i41 : (l.length : Int) ≤ 41 := by omega
    have hA := l1All_any B A c l 1 1000000 w (by omega) hr
    cases ha : allB l 1 1000000 with
    | false =>
      have G := Lib.hid (show isShB l = false by unfold isShB; rw [ha]; simp)
      rw [ha] at hA
      have HA := Lib.hid hA
      clear hA hr ha
      go_enter Try.func15, Try.ntmps15
      go_wp2_with (go_at_call 46; refine HA.out.mono ?_; rintro e w' ⟨rfl, rfl⟩)
      go_ret
      exact ⟨ret_bool G.out.symm, Below.refl _ _⟩
    | true =>
      have G := Lib.hid (show isShB l = shB l by unfold isShB; rw [ha, decide_eq_true h41]; rfl)
      have hS := shChain_any B A c l w h41 ha hcap hr
      rw [ha] at hA
      have HA := Lib.hid hA
      have HS := Lib.hid hS
      clear hA hr ha hS
      go_enter Try.func15, Try.ntmps15
      go_wp2_with (first
        | (go_at_call 46; refine HA.out.mono ?_; rintro e w' ⟨rfl, rfl⟩)
        | (go_at_call 47; refine HS.out.mono ?_; rintro e w' ⟨rfl, ⟨n, rfl⟩⟩))
      go_ret
      exact ⟨ret_bool G.out.symm, bDrewN (Below.refl _ _) n⟩
  · have i41 : ¬ (l.length : Int) ≤ 41 := by omega
    have G := Lib.hid (show isShB l = false by unfold isShB; rw [decide_eq_false h41]; rfl)
    clear hr
    go_enter Try.func15, Try.ntmps15
    go_wp2
    go_ret
    exact ⟨ret_bool G.out.symm, Below.refl _ _⟩
set_option maxRecDepth 100000 in
set_option maxHeartbeats 1000000 in
theorem implIsStar_any (B : Nat) (A : Option Addr) (c : Nat) (l : List Int) (w : World) (hB : B ≤ w.heap.size) (hl : l.length ≤ 1048576) (hcap : l.length ≤ c) (hr : Rd w B 1 A l.length (l.map I)) :
    Calls Try.prog 17 #[.slice A l.length c] w fun e w' => e = .returned (.bool (starB l)) ∧ Below w.heap.size w w' := by
  have hS := implStar_any B A c l w hB hl hcap hr
  have HS := Lib.hid hS
  clear hS hr
  go_enter Try.func17, Try.ntmps17
  go_wp2_with (go_at_call 48; refine HS.out.mono ?_; rintro e w2 ⟨rfl, hb2⟩)
  go_ret
  exact ⟨rfl, hb2⟩
end Go.Proofs.Ytppahohakiidmaa
