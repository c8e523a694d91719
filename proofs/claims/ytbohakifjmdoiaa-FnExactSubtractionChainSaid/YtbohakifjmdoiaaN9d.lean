/- Sums, weights and what is apart: of the model. -/
import Derived.Test.YtbohakifjmdoiaaN9c
namespace Go.Proofs.Ytbohakifjmdoiaa
open Go.RowKit

theorem smD_take {l : List Int} {k : Nat} (hk : k < l.length) : smD (l.take (k + 1)) = smD (l.take k) + l[k] * 2 ^ k := by
  rw [List.take_succ_eq_append_getElem hk, smD_app, List.length_take, Nat.min_eq_left (by omega)]
  simp only [smD]
  rw [Int.mul_comm]; simp
theorem two24 {k : Nat} (hk : k ≤ 24) : (0 : Int) < 2 ^ k ∧ (2 : Int) ^ k ≤ 16777216 := by
  have h1 : 2 ^ k ≤ 2 ^ 24 := Nat.pow_le_pow_right (by omega) hk
  have h0 : 0 < 2 ^ k := Nat.pow_pos (by omega)
  have h2 : ((2 ^ k : Nat) : Int) ≤ 16777216 := by omega
  have h3 : (0 : Int) < ((2 ^ k : Nat) : Int) := by omega
  rw [show ((2 ^ k : Nat) : Int) = 2 ^ k by simp] at h2 h3
  exact ⟨h3, h2⟩
theorem smD_24 {l : List Int} (hl : l.length ≤ 24) (h : ∀ d ∈ l, -31 ≤ d ∧ d ≤ 31) : -520093696 ≤ smD l ∧ smD l ≤ 520093696 := by
  have hb := smD_bd l (M := 31) (by omega) h
  have := two24 hl
  omega
theorem shl_bd {d : Int} {k : Nat} (hk : k ≤ 24) (hd : -31 ≤ d ∧ d ≤ 31) : -520093696 ≤ d * 2 ^ k ∧ d * 2 ^ k ≤ 520093696 := by
  obtain ⟨h1, h2⟩ := two24 hk
  obtain ⟨P, hP⟩ : ∃ P : Int, 2 ^ k = P := ⟨_, rfl⟩
  rw [hP] at h1 h2 ⊢
  have a1 : d * P ≤ 31 * P := Int.mul_le_mul_of_nonneg_right hd.2 (by omega)
  have a2 : -31 * P ≤ d * P := Int.mul_le_mul_of_nonneg_right hd.1 (by omega)
  omega

set_option maxHeartbeats 1000000 in
theorem siSum_any (B : Nat) (A : Option Addr) (c : Nat) (l : List Int) (w : World) (hl : l.length ≤ 24) (hd : ∀ d ∈ l, -31 ≤ d ∧ d ≤ 31) (hr : Rd w B 1 A l.length (l.map I)) :
    Calls Try.prog 56 #[.slice A l.length c] w fun e w' => e = .returned (.int .i64 (smD l)) ∧ w = w' := by
  have H := Lib.hid hr
  have HD := Lib.hid hd
  clear hr hd
  go_enter Try.func56, Try.ntmps56
  go_wp2
  go_loop [3, 8] (fun s i => ∃ k : Nat, k ≤ l.length ∧ i = .int .i64 k ∧ s = .int .i64 (smD (l.take k))) (fun _ i => l.length - (intOf i).toNat)
  case atStart => exact ⟨0, by omega, rfl, rfl⟩
  case round =>
    obtain ⟨k, hk, rfl, rfl⟩ := hrel
    by_cases hlt : k < l.length
    · obtain ⟨b, off, rfl, hb, hcell⟩ := H.out.int hlt
      have hbd := smD_24 (l := l.take k) (by simp; omega) (fun d hd => HD.out d (List.mem_of_mem_take hd))
      have hbn := smD_24 (l := l.take (k + 1)) (by simp; omega) (fun d hd => HD.out d (List.mem_of_mem_take hd))
      have hds := shl_bd (k := k) (by omega) (HD.out _ (List.getElem_mem hlt))
      have E := Lib.hid (smD_take hlt)
      rw [E.out] at hbn
      obtain ⟨s, hs⟩ : ∃ s, smD (l.take k) = s := ⟨_, rfl⟩
      rw [hs] at hbd hbn E ⊢
      obtain ⟨x, hx⟩ : ∃ x, l[k] = x := ⟨_, rfl⟩
      rw [hx] at hcell hds hbn E
      obtain ⟨P, hP⟩ : ∃ P, x * 2 ^ k = P := ⟨_, rfl⟩
      rw [hP] at hds hbn E
      have ik : (k : Int) ≤ 64 := by omega
      have e1 : IntKind.i64.wrap (x * 2 ^ k) = P := by rw [hP]; exact IntWalk.i64_in _ (by omega)
      have e2 : IntKind.i64.wrap (s + P) = s + P := IntWalk.i64_in _ (by omega)
      have e3 : wrap64 (s + P) = s + P := IntWalk.wrap64_in _ (by omega)
      clear hs hx hP
      go_wp2
      go_round
      case rel => exact ⟨k + 1, by omega, by go_num, by rw [E.out]⟩
      case measure => simp [intOf]; omega
    · have E := Lib.hid (show smD (l.take k) = smD l by rw [List.take_of_length_le (by omega)])
      go_wp2
      go_ret
      exact ⟨ret_int (by rw [E.out]), rfl⟩

theorem wtD_take {l : List Int} {k : Nat} (hk : k < l.length) : wtD (l.take (k + 1)) = wtD (l.take k) + (if l[k] = 0 then 0 else 1) := by
  rw [List.take_succ_eq_append_getElem hk, wtD_cons]
set_option maxHeartbeats 1000000 in
theorem siWeight_any (B : Nat) (A : Option Addr) (c : Nat) (l : List Int) (w : World) (hl : l.length ≤ 1000000) (hr : Rd w B 1 A l.length (l.map I)) :
    Calls Try.prog 60 #[.slice A l.length c] w fun e w' => e = .returned (.int .i64 (wtD l)) ∧ w = w' := by
  have H := Lib.hid hr
  clear hr
  go_enter Try.func60, Try.ntmps60
  go_wp2
  go_loop [3, 8] (fun s i => ∃ k : Nat, k ≤ l.length ∧ i = .int .i64 k ∧ s = .int .i64 (wtD (l.take k))) (fun _ i => l.length - (intOf i).toNat)
  case atStart => exact ⟨0, by omega, rfl, rfl⟩
  case round =>
    obtain ⟨k, hk, rfl, rfl⟩ := hrel
    by_cases hlt : k < l.length
    · obtain ⟨b, off, rfl, hb, hcell⟩ := H.out.int hlt
      have hbd := wtD_le (l.take k)
      rw [List.length_take] at hbd
      have E := Lib.hid (wtD_take hlt)
      obtain ⟨s, hs⟩ : ∃ s, wtD (l.take k) = s := ⟨_, rfl⟩
      rw [hs] at hbd E ⊢
      obtain ⟨x, hx⟩ : ∃ x, l[k] = x := ⟨_, rfl⟩
      rw [hx] at hcell E
      have hb1 : 0 ≤ s ∧ s ≤ 1000000 := by omega
      clear hs hx hbd
      by_cases h0 : x = 0
      · have E2 := Lib.hid (show wtD (l.take (k + 1)) = s by rw [E.out, if_pos h0]; omega)
        have i0 : (x != 0) = false := by simpa using h0
        clear h0
        go_wp2
        go_round
        case rel => exact ⟨k + 1, by omega, by go_num, by rw [E2.out]⟩
        case measure => simp [intOf]; omega
      · have E2 := Lib.hid (show wtD (l.take (k + 1)) = s + 1 by rw [E.out, if_neg h0])
        have i0 : (x != 0) = true := by simpa using h0
        clear h0
        go_wp2
        go_round
        case rel => exact ⟨k + 1, by omega, by go_num, by rw [E2.out]⟩
        case measure => simp [intOf]; omega
    · have E := Lib.hid (show wtD (l.take k) = wtD l by rw [List.take_of_length_le (by omega)])
      go_wp2
      go_ret
      exact ⟨ret_int (by rw [E.out]), rfl⟩

theorem apD_init (w : Int) : ∀ (l : List Int) (z z' : Int), w - 1 ≤ z → w - 1 ≤ z' → apD w z l = apD w z' l := by
  intro l
  induction l with
  | nil => intro _ _ _ _; rfl
  | cons d l ih =>
    intro z z' h h'
    simp only [apD]
    split
    · exact ih _ _ (by omega) (by omega)
    · simp [h, h']
/-- What is apart, as the model says it. -/
def apS (w : Int) (l : List Int) : Bool := apD w (w - 1) l && (l.isEmpty || lnz w l)
theorem apD_drop {w z : Int} {l : List Int} {k : Nat} (hk : k < l.length) : apD w z (l.drop k) = if l[k] = 0 then apD w (z + 1) (l.drop (k + 1)) else decide (w - 1 ≤ z) && apD w 0 (l.drop (k + 1)) := by
  rw [List.drop_eq_getElem_cons hk, apD]
theorem apS_last {w : Int} {l : List Int} (h : apD w (w - 1) l = true) (hl : 0 < l.length) : apS w l = decide (l[l.length - 1]'(by omega) ≠ 0) := by
  obtain ⟨q, d, rfl⟩ : ∃ q d, l = q ++ [d] := ⟨l.dropLast, l.getLast (by intro e; subst e; simp at hl), (List.dropLast_concat_getLast _).symm⟩
  unfold apS
  rw [h, lnz_last]
  simp

set_option maxRecDepth 100000 in
set_option maxHeartbeats 1000000 in
theorem siApart_any (B : Nat) (A : Option Addr) (c : Nat) (l : List Int) (W : Int) (w : World) (hl : l.length ≤ 1000000) (hW : 2 ≤ W ∧ W ≤ 6) (hr : Rd w B 1 A l.length (l.map I)) :
    Calls Try.prog 61 #[.slice A l.length c, .int .i64 W] w fun e w' => e = .returned (.bool (apS W l)) ∧ w = w' := by
  have H := Lib.hid hr
  obtain ⟨hW1, hW2⟩ := hW
  clear hr
  go_enter Try.func61, Try.ntmps61
  go_wp2
  go_loop [5, 12] (fun s i => ∃ (k : Nat) (L : Int), k ≤ l.length ∧ i = .int .i64 k ∧ s = .int .i64 L ∧ -6 ≤ L ∧ L < k ∧ apD W ((k : Int) - L - 1) (l.drop k) = apD W (W - 1) l) (fun _ i => l.length - (intOf i).toNat)
  case atStart => exact ⟨0, -W, by omega, rfl, rfl, by omega, by omega, by simp⟩
  case round =>
    obtain ⟨k, L, hk, rfl, rfl, hL1, hL2, hq⟩ := hrel
    by_cases hlt : k < l.length
    · obtain ⟨b, off, rfl, hb, hcell⟩ := H.out.int hlt
      rw [apD_drop hlt] at hq
      obtain ⟨x, hx⟩ : ∃ x, l[k] = x := ⟨_, rfl⟩
      rw [hx] at hcell hq
      clear hx
      by_cases h0 : x = 0
      · rw [if_pos h0] at hq
        have Q := Lib.hid (show apD W (((k + 1 : Nat) : Int) - L - 1) (l.drop (k + 1)) = apD W (W - 1) l by rw [← hq]; congr 1; omega)
        have i0 : (x == 0) = true := by simpa using h0
        clear h0 hq
        go_wp2
        go_round
        case rel => exact ⟨k + 1, L, by omega, by go_num, rfl, hL1, by omega, Q.out⟩
        case measure => simp [intOf]; omega
      · rw [if_neg h0] at hq
        have i0 : (x == 0) = false := by simpa using h0
        clear h0
        by_cases hz : (k : Int) - L < W
        · have E := Lib.hid (show apS W l = false by
            rw [decide_eq_false (by omega), Bool.false_and] at hq
            unfold apS; rw [← hq, Bool.false_and])
          clear hq
          go_wp2
          go_ret
          exact ⟨ret_bool (by rw [E.out]), rfl⟩
        · have Q := Lib.hid (show apD W (((k + 1 : Nat) : Int) - (k : Int) - 1) (l.drop (k + 1)) = apD W (W - 1) l by
            rw [← hq, decide_eq_true (by omega), Bool.true_and]; congr 1; omega)
          clear hq
          go_wp2
          go_round
          case rel => exact ⟨k + 1, k, by omega, by go_num, rfl, by omega, by omega, Q.out⟩
          case measure => simp [intOf]; omega
    · obtain rfl : k = l.length := by omega
      have hap : apD W (W - 1) l = true := by rw [← hq, List.drop_length]; rfl
      clear hq
      by_cases h0 : l.length = 0
      · have E := Lib.hid (show apS W l = true by unfold apS; rw [hap]; have : l = [] := List.length_eq_zero_iff.1 h0
                                                  subst this; rfl)
        have i0 : ((l.length : Int) == 0) = true := by simp [h0]
        clear hap
        go_wp2
        go_ret
        exact ⟨ret_bool (by rw [E.out]), rfl⟩
      · have hp : l.length - 1 < l.length := by omega
        obtain ⟨b, off, rfl, hb, hcell⟩ := H.out.int hp
        have E := Lib.hid (apS_last hap (by omega))
        obtain ⟨p, hpe⟩ : ∃ p, l.length - 1 = p := ⟨_, rfl⟩
        have ep : (l.length : Int) - 1 = (p : Int) := by omega
        obtain ⟨x, hx⟩ : ∃ x, l[l.length - 1] = x := ⟨_, rfl⟩
        rw [hx] at E hcell
        rw [hpe] at hcell
        have i0 : ((l.length : Int) == 0) = false := by simpa using (show ¬ l = [] by intro e; subst e; exact h0 rfl)
        have ip : (p : Int) < (l.length : Int) := by omega
        have ip0 : (0 : Int) ≤ (p : Int) := by omega
        clear hx hap
        go_wp2
        go_ret
        exact ⟨ret_bool (by rw [E.out]; by_cases h : x = 0 <;> simp [h]), rfl⟩
end Go.Proofs.Ytbohakifjmdoiaa
