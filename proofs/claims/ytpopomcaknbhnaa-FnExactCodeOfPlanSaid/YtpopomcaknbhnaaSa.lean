/- Contracts of the small functions of the model. -/
import Derived.Test.YtpopomcaknbhnaaBase
namespace Go.Proofs.Ytpopomcaknbhnaa
open Go.RowKit

def inB (n lo hi : Int) : Bool := decide (lo ≤ n) && decide (n ≤ hi)
def hasI (l : List Int) (n : Int) : Bool := l.contains n
def allB (l : List Int) (lo hi : Int) : Bool := l.all fun n => inB n lo hi

theorem hasI_take {l : List Int} {n : Int} {k : Nat} (hk : k < l.length) (h : hasI (l.take k) n = false) : hasI (l.take (k + 1)) n = (l[k] == n) := by
  unfold hasI at *
  rw [List.take_succ_eq_append_getElem hk]
  simp only [List.contains_append, h, Bool.false_or, List.contains_cons, List.contains_nil, Bool.or_false]
  exact Bool.beq_comm
theorem hasI_hit {l : List Int} {n : Int} {k : Nat} (hk : k < l.length) (h : (l[k] == n) = true) : hasI l n = true := by
  unfold hasI
  simp at h ⊢
  exact h ▸ List.getElem_mem hk
theorem hasI_end {l : List Int} {n : Int} {k : Nat} (hk : ¬ k < l.length) (h : hasI (l.take k) n = false) : hasI l n = false := by
  rwa [List.take_of_length_le (by omega)] at h
theorem allB_take {l : List Int} {lo hi : Int} {k : Nat} (hk : k < l.length) (h : allB (l.take k) lo hi = true) : allB (l.take (k + 1)) lo hi = inB l[k] lo hi := by
  unfold allB at *
  rw [List.take_succ_eq_append_getElem hk, List.all_append, h]
  simp
theorem allB_miss {l : List Int} {lo hi : Int} {k : Nat} (hk : k < l.length) (h : inB l[k] lo hi = false) : allB l lo hi = false := by
  unfold allB
  rw [List.all_eq_false]
  exact ⟨_, List.getElem_mem hk, by simp [h]⟩
theorem allB_end {l : List Int} {lo hi : Int} {k : Nat} (hk : ¬ k < l.length) (h : allB (l.take k) lo hi = true) : allB l lo hi = true := by
  rwa [List.take_of_length_le (by omega)] at h

set_option maxHeartbeats 400000 in
theorem l1In_any (n lo hi : Int) (w : World) :
    Calls Try.prog 93 #[.int .i64 n, .int .i64 lo, .int .i64 hi] w fun e w' => e = .returned (.bool (inB n lo hi)) ∧ w = w' := by
  by_cases h1 : lo ≤ n <;> by_cases h2 : n ≤ hi
  all_goals
    go_enter Try.func93, Try.ntmps93
    go_wp2
    go_ret
    exact ⟨ret_bool (by simp [inB, h1, h2]), rfl⟩

set_option maxHeartbeats 400000 in
theorem l1Has_any (B : Nat) (A : Option Addr) (c : Nat) (l : List Int) (n : Int) (w : World) (hm : l.length ≤ 4000000) (hr : Rd w B 1 A l.length (l.map I)) :
    Calls Try.prog 79 #[.slice A l.length c, .int .i64 n] w fun e w' => e = .returned (.bool (hasI l n)) ∧ w = w' := by
  have H := Lib.hid hr
  clear hr
  go_enter Try.func79, Try.ntmps79
  go_wp2
  go_loop [9] (fun i => ∃ k : Nat, k ≤ l.length ∧ i = .int .i64 k ∧ hasI (l.take k) n = false) (fun i => l.length - (intOf i).toNat)
  case atStart => exact ⟨0, by omega, rfl, rfl⟩
  case round =>
    obtain ⟨k, hk, rfl, hq⟩ := hrel
    have Q := Lib.hid hq
    clear hq
    by_cases hlt : k < l.length
    · obtain ⟨b, off, rfl, hb, hcell⟩ := H.out.int hlt
      go_wp2
      · go_ret
        exact ⟨ret_bool (hasI_hit hlt (by assumption)).symm, rfl⟩
      · have hne : (l[k] == n) = false := by assumption
        go_round
        case rel => exact ⟨k + 1, by omega, by go_num, by rw [hasI_take hlt Q.out]; exact hne⟩
        case measure => simp [intOf]; omega
    · go_wp2
      go_ret
      exact ⟨ret_bool (hasI_end hlt Q.out).symm, rfl⟩

set_option maxHeartbeats 400000 in
theorem l1All_any (B : Nat) (A : Option Addr) (c : Nat) (l : List Int) (lo hi : Int) (w : World) (hm : l.length ≤ 4000000) (hr : Rd w B 1 A l.length (l.map I)) :
    Calls Try.prog 132 #[.slice A l.length c, .int .i64 lo, .int .i64 hi] w fun e w' => e = .returned (.bool (allB l lo hi)) ∧ w = w' := by
  have H := Lib.hid hr
  clear hr
  go_enter Try.func132, Try.ntmps132
  go_wp2
  go_loop [11] (fun i => ∃ k : Nat, k ≤ l.length ∧ i = .int .i64 k ∧ allB (l.take k) lo hi = true) (fun i => l.length - (intOf i).toNat)
  case atStart => exact ⟨0, by omega, rfl, rfl⟩
  case round =>
    obtain ⟨k, hk, rfl, hq⟩ := hrel
    have Q := Lib.hid hq
    clear hq
    by_cases hlt : k < l.length
    · obtain ⟨b, off, rfl, hb, hcell⟩ := H.out.int hlt
      by_cases hin : inB l[k] lo hi = true
      · go_wp2_with (go_at_call 93; refine (l1In_any _ _ _ _).mono ?_; rintro e w' ⟨rfl, rfl⟩)
        go_round
        case rel => exact ⟨k + 1, by omega, by go_num, by rw [allB_take hlt Q.out]; exact hin⟩
        case measure => simp [intOf]; omega
      · have hin' : inB l[k] lo hi = false := by simpa using hin
        clear hin
        go_wp2_with (go_at_call 93; refine (l1In_any _ _ _ _).mono ?_; rintro e w' ⟨rfl, rfl⟩)
        go_ret
        exact ⟨ret_bool (allB_miss hlt hin').symm, rfl⟩
    · go_wp2
      go_ret
      exact ⟨ret_bool (allB_end hlt Q.out).symm, rfl⟩

def eqI (a b : List Int) : Bool := decide (a = b)
theorem same_take {a b : List Int} {k : Nat} (ha : k < a.length) (hb : k < b.length) (h : a.take k = b.take k) (he : a[k] = b[k]) : a.take (k + 1) = b.take (k + 1) := by
  rw [List.take_succ_eq_append_getElem ha, List.take_succ_eq_append_getElem hb, h, he]
theorem eqI_miss {a b : List Int} {k : Nat} (ha : k < a.length) (hb : k < b.length) (h : (a[k] != b[k]) = true) : eqI a b = false := by
  unfold eqI
  rw [decide_eq_false_iff_not]
  intro e
  subst e
  simp at h
theorem eqI_len {a b : List Int} (h : a.length ≠ b.length) : eqI a b = false := by
  unfold eqI
  rw [decide_eq_false_iff_not]
  intro e
  exact h (by rw [e])
theorem eqI_end {a b : List Int} {k : Nat} (hl : a.length = b.length) (hk : ¬ k < a.length) (h : a.take k = b.take k) : eqI a b = true := by
  unfold eqI
  rw [List.take_of_length_le (by omega), List.take_of_length_le (by omega)] at h
  simp [h]

set_option maxHeartbeats 400000 in
theorem l1Same_any (B : Nat) (A A' : Option Addr) (c c' : Nat) (a b : List Int) (w : World) (hm : a.length ≤ 4000000) (_hm' : b.length ≤ 4000000) (hr : Rd w B 1 A a.length (a.map I)) (hr' : Rd w B 1 A' b.length (b.map I)) :
    Calls Try.prog 108 #[.slice A a.length c, .slice A' b.length c'] w fun e w' => e = .returned (.bool (eqI a b)) ∧ Dr w w' := by
  have H := Lib.hid hr
  have H' := Lib.hid hr'
  clear hr hr'
  by_cases hl : a.length = b.length
  · have hlb : ((a.length : Int) == (b.length : Int)) = true := by simp [hl]
    have L := Lib.hid hl
    clear hl
    go_enter Try.func108, Try.ntmps108
    go_wp2
    go_loopw [13] (fun i wr => ∃ k n : Nat, k ≤ a.length ∧ i = .int .i64 k ∧ a.take k = b.take k ∧ wr = w.drewN n) (fun i _ => a.length - (intOf i).toNat)
    case atStart => exact ⟨0, 0, by omega, rfl, rfl, rfl⟩
    case round =>
      obtain ⟨k, n, hk, rfl, hq, rfl⟩ := hrel
      have Q := Lib.hid hq
      clear hq
      by_cases hlt : k < a.length
      · have hlt' : k < b.length := by have := L.out; omega
        obtain ⟨b1, off, rfl, hb, hcell⟩ := H.out.int hlt
        obtain ⟨b2, off2, rfl, hb2, hcell2⟩ := H'.out.int hlt'
        have i1 : (k : Int) < (a.length : Int) := by omega
        have i2 : (k : Int) < (b.length : Int) := by omega
        have i0 : (0 : Int) ≤ (k : Int) := by omega
        go_wp2
        go_quiet (fail)
        go_wp2
        · go_ret
          exact ⟨ret_bool (eqI_miss hlt hlt' (by assumption)).symm, Dr.mk2 _ _ _⟩
        · have he : (a[k] != b[k]) = false := by assumption
          go_roundw
          case rel => exact ⟨k + 1, _, by omega, by go_num, same_take hlt hlt' Q.out (by simpa using he), rfl⟩
          case measure => simp [intOf]; omega
      · go_wp2
        go_ret
        exact ⟨ret_bool (eqI_end L.out hlt Q.out).symm, Dr.mk _ _⟩
  · have hlb : ((a.length : Int) != (b.length : Int)) = true := by rw [bne_iff_ne]; omega
    have L := Lib.hid hl
    clear hl
    go_enter Try.func108, Try.ntmps108
    go_wp2
    go_ret
    exact ⟨ret_bool (eqI_len L.out).symm, Dr.refl _⟩

def mostI (a b : Int) : Int := if b < a then a else b
def leastI (a b : Int) : Int := if a < b then a else b
set_option maxHeartbeats 400000 in
theorem l1Least_any (a b : Int) (w : World) :
    Calls Try.prog 123 #[.int .i64 a, .int .i64 b] w fun e w' => e = .returned (.int .i64 (leastI a b)) ∧ w = w' := by
  by_cases h1 : a < b
  · have e : leastI a b = a := by simp [leastI, h1]
    rw [e]
    go_enter Try.func123, Try.ntmps123
    go_wp2
    go_ret
    exact ⟨rfl, rfl⟩
  · have e : leastI a b = b := by simp [leastI, h1]
    rw [e]
    go_enter Try.func123, Try.ntmps123
    go_wp2
    go_ret
    exact ⟨rfl, rfl⟩
set_option maxHeartbeats 400000 in
theorem l1Most_any (a b : Int) (w : World) :
    Calls Try.prog 78 #[.int .i64 a, .int .i64 b] w fun e w' => e = .returned (.int .i64 (mostI a b)) ∧ w = w' := by
  by_cases h1 : b < a
  · have e : mostI a b = a := by simp [mostI, h1]
    rw [e]
    go_enter Try.func78, Try.ntmps78
    go_wp2
    go_ret
    exact ⟨rfl, rfl⟩
  · have e : mostI a b = b := by simp [mostI, h1]
    rw [e]
    go_enter Try.func78, Try.ntmps78
    go_wp2
    go_ret
    exact ⟨rfl, rfl⟩

def sumL (a b : List Int) : List Int := List.zipWith (fun x y => leastI (x + y) 1000001) a b
theorem sumL_length (a b : List Int) (h : a.length ≤ b.length) : (sumL a b).length = a.length := by simp [sumL]; omega
theorem sumL_take {a b : List Int} {k : Nat} (ha : k < a.length) (hb : k < b.length) : (sumL a b).take (k + 1) = (sumL a b).take k ++ [leastI (a[k] + b[k]) 1000001] := by
  rw [List.take_succ_eq_append_getElem (by simp [sumL]; omega)]
  simp [sumL]

set_option maxRecDepth 100000 in
set_option maxHeartbeats 1000000 in
theorem plSum_any (B : Nat) (A A' : Option Addr) (c c' : Nat) (a b : List Int) (w : World) (hm : a.length ≤ 1000) (hab : a.length ≤ b.length) (hB : B ≤ w.heap.size)
    (ha : ∀ x ∈ a, 0 ≤ x ∧ x ≤ 1000001) (hbb : ∀ x ∈ b, 0 ≤ x ∧ x ≤ 1000001)
    (hr : Rd w B 1 A a.length (a.map I)) (hr' : Rd w B 1 A' b.length (b.map I)) :
    Calls Try.prog 150 #[.slice A a.length c, .slice A' b.length c'] w fun e w' => ∃ A1 c1, e = .returned (.slice A1 a.length c1) ∧ OwI w' w.heap.size (.slice A1 a.length c1) (sumL a b) ∧ Below w.heap.size w w' := by
  have H := Lib.hid hr
  have H' := Lib.hid hr'
  have Ha := Lib.hid ha
  have Hb := Lib.hid hbb
  clear hr hr' ha hbb
  obtain ⟨S, hS⟩ : ∃ S, S = w.heap.size := ⟨_, rfl⟩
  rw [← hS]
  have HS := Lib.hid hS
  clear hS
  go_enter Try.func150, Try.ntmps150
  go_wp2
  go_loopw [5, 9] (fun o i wr => ∃ (k : Nat) (A1 : Option Addr) (c1 : Nat), k ≤ a.length ∧ i = .int .i64 k ∧ o = .slice A1 k c1 ∧ OwI wr S o ((sumL a b).take k) ∧ Below S w wr) (fun _ i _ => a.length - (intOf i).toNat)
  case atStart => exact ⟨0, none, 0, by omega, rfl, rfl, OwI.nil _ _, Below.refl _ _⟩
  case round =>
    obtain ⟨k, A1, c1, hk, rfl, rfl, hown, hbel⟩ := hrel
    by_cases hlt : k < a.length
    · have hlt' : k < b.length := by omega
      have hSs : S ≤ wr.heap.size := by have := HS.out; have := hbel.size; omega
      obtain ⟨b1, off, rfl, hb1, hcell⟩ := (H.out.below' hbel (by have := HS.out; omega)).int hlt
      obtain ⟨b2, off2, rfl, hb2, hcell2⟩ := (H'.out.below' hbel (by have := HS.out; omega)).int hlt'
      have i1 : (k : Int) < (a.length : Int) := by omega
      have i2 : (k : Int) < (b.length : Int) := by omega
      have i0 : (0 : Int) ≤ (k : Int) := by omega
      have q1 := Ha.out _ (List.getElem_mem hlt)
      have q2 := Hb.out _ (List.getElem_mem hlt')
      have hlen : ((sumL a b).take k).length = k := by simp [sumL_length a b hab]; omega
      have HL := Lib.hid hlen
      have hsum : IntKind.i64.wrap (a[k] + b[k]) = a[k] + b[k] := IntWalk.i64_in _ (by omega)
      clear hlen
      have W := Lib.hid hown
      have W2 := Lib.hid hbel
      clear hown hbel
      go_wp2
      refine wp_region_Tw [0, 1, 2, 3, 4, 5, 6, 7, 8, 9, 13] [4, 8] (.lp 0 (.lp 1 (.lp 2 (.lp 3 (.lp 5 (.lp 6 (.lp 7 (.ls 4 (.ls 8 (.lp 9 (.hv 10 (.hv 11 (.hv 12 (.lp 13 (.done))))))))))))))) (by kernel_rfl) (by kernel_rfl) ?_
      (repeat (first | (refine T_lp rfl (fun K hK => ?_); go_simp; refine hK _ ?_; clear hK K) | (refine T_ls rfl rfl (fun K hK => ?_); go_simp; refine hK _ ?_; clear hK K)))
      (refine T_hv rfl (by kernel_rfl) (fun K hK => ?_); go_simp)
      go_at_call 123
      refine (l1Least_any _ _ _).mono ?_
      rintro e w' ⟨rfl, rfl⟩
      (go_simp; refine hK _ _ ?_; clear hK K)
      (refine T_hv rfl (by kernel_rfl) (fun K hK => ?_); go_simp; refine hK _ _ ?_; clear hK K)
      refine T_hv rfl (by kernel_rfl) (fun K hK => ?_)
      refine step_app_int rfl (.tmp 12) (.tmp 23) rfl S k _ _ rfl ((OwI.alloc W.out _).drew) HL.out wr.heap.size 1 (leastI (a[k] + b[k]) 1000001) rfl (by simp) (by omega) (by simp; omega) ?_
      intro A2 c2 w2 hown2 hg2 hbel2
      (go_simp; refine hK _ _ ?_; clear hK K)
      (repeat (first | (refine T_lp rfl (fun K hK => ?_); go_simp; refine hK _ ?_; clear hK K) | (refine T_ls rfl rfl (fun K hK => ?_); go_simp; refine hK _ ?_; clear hK K)))
      refine T_done ?_
      go_wp2
      go_roundw
      case rel => exact ⟨k + 1, A2, c2, by omega, by go_num, rfl, by rw [sumL_take hlt hlt']; exact hown2, ((W2.out.alloc hSs _).drew).trans hbel2⟩
      case measure => simp [intOf]; omega
    · have hk' : k = a.length := by omega
      subst hk'
      rw [List.take_of_length_le (by rw [sumL_length a b hab]; exact Nat.le_refl _)] at hown
      go_wp2
      go_ret
      exact ⟨A1, c1, rfl, hown, hbel⟩
end Go.Proofs.Ytpopomcaknbhnaa
