/- The program's search in a rising list, and the sums of a number. -/
import Derived.Test.YtbbjgcagkmlngadDoorQd
namespace Go.Proofs.YtbbjgcagkmlngadDoor
open Go.RowKit

/-- How many numbers of the list are less than x. -/
def cnt (l : List Int) (x : Int) : Nat := l.countP fun y => decide (y < x)
theorem cnt_at {l : List Int} {x : Int} {i : Nat} (hi : i ≤ l.length) (h1 : ∀ t, t < i → l.getD t 0 < x) (h2 : ∀ t, i ≤ t → t < l.length → x ≤ l.getD t 0) : cnt l x = i := by
  unfold cnt
  rw [← List.take_append_drop i l, List.countP_append, count_at i hi h1]
  have : (l.drop i).countP (fun y => decide (y < x)) = 0 := by
    rw [List.countP_eq_zero]
    intro y hy
    obtain ⟨j, hj, rfl⟩ := List.mem_iff_getElem.1 hy
    rw [List.length_drop] at hj
    have := h2 (i + j) (by omega) (by omega)
    rw [List.getElem_drop]
    simp only [decide_eq_true_eq]
    have e : l.getD (i + j) 0 = l[i + j]'(by omega) := by simp [show i + j < l.length by omega]
    omega
  omega
theorem mem_at {l : List Int} (ha : Asc l) {x : Int} {i : Nat} (hi : i ≤ l.length) (h1 : ∀ t, t < i → l.getD t 0 < x) (h2 : ∀ t, i ≤ t → t < l.length → x ≤ l.getD t 0) : decide (x ∈ l) = decide (i < l.length ∧ l.getD i 0 = x) := by
  rw [decide_eq_decide]
  have e := mem_take_getD (l := l) (k := l.length) (x := x) (Nat.le_refl _)
  rw [List.take_length] at e
  rw [e]
  constructor
  · rintro ⟨j, hj, rfl⟩
    rcases Nat.lt_trichotomy j i with h | rfl | h
    · have := h1 j h; omega
    · exact ⟨hj, rfl⟩
    · have := h2 i (Nat.le_refl _) (by omega)
      have := ha i j h hj
      omega
  · rintro ⟨h, rfl⟩
    exact ⟨i, h, rfl⟩
theorem asc_le {l : List Int} (ha : Asc l) {i j : Nat} (h : i ≤ j) (hj : j < l.length) : l.getD i 0 ≤ l.getD j 0 := by
  rcases Nat.lt_or_eq_of_le h with h | rfl
  · exact Int.le_of_lt (ha i j h hj)
  · exact Int.le_refl _

theorem cisNaN_any (x : Int) (w : World) : Calls Tryd.prog 148 #[.int .i64 x] w fun e w' => e = .returned (.bool false) ∧ w' = w := by
  go_enter Tryd.func148, Tryd.ntmps148
  go_wp2
  go_ret
  exact ⟨by simp, rfl⟩
theorem sisNaN_any (x : Int) (w : World) : Calls Tryd.prog 143 #[.int .i64 x] w fun e w' => e = .returned (.bool false) ∧ w' = w := by
  go_enter Tryd.func143, Tryd.ntmps143
  go_wp2
  go_ret
  exact ⟨by simp, rfl⟩
theorem less_any (x y : Int) (w : World) : Calls Tryd.prog 142 #[.int .i64 x, .int .i64 y] w fun e w' => e = .returned (.bool (decide (x < y))) ∧ w' = w := by
  go_enter Tryd.func142, Tryd.ntmps142
  go_wp2_with (go_at_call 148; refine (cisNaN_any _ _).mono ?_; rintro e w' ⟨rfl, rfl⟩)
  go_ret
  exact ⟨rfl, rfl⟩

set_option maxRecDepth 100000 in
set_option maxHeartbeats 2000000 in
theorem search_any (B : Nat) (A : Option Addr) (c : Nat) (l : List Int) (x : Int) (w : World) (hm : l.length ≤ 4000000) (ha : Asc l) (hr : Rd w B 1 A l.length (l.map I)) :
    Calls Tryd.prog 126 #[.slice A l.length c, .int .i64 x] w fun e w' => e = .returned (.tuple #[.int .i64 (cnt l x), .bool (decide (x ∈ l))]) ∧ Dr w w' := by
  have H := Lib.hid hr
  have HA := Lib.hid ha
  clear hr ha
  go_enter Tryd.func126, Tryd.ntmps126
  go_wp2
  go_loopw [7, 8] (fun lo hi wr => ∃ i j n : Nat, lo = .int .i64 i ∧ hi = .int .i64 j ∧ i ≤ j ∧ j ≤ l.length ∧ wr = w.drewN n ∧ (∀ t, t < i → l.getD t 0 < x) ∧ (∀ t, j ≤ t → t < l.length → x ≤ l.getD t 0)) (fun lo hi _ => (intOf hi).toNat - (intOf lo).toNat)
  case atStart => exact ⟨0, l.length, 0, rfl, rfl, by omega, by omega, rfl, fun t h => absurd h (by omega), fun t h1 h2 => by omega⟩
  case round =>
    obtain ⟨i, j, n, rfl, rfl, hij, hj, rfl, h1, h2⟩ := hrel
    have H1 := Lib.hid h1
    have H2 := Lib.hid h2
    clear h1 h2
    by_cases hlt : i < j
    · obtain ⟨b, off, rfl, hb, hc⟩ := H.out.cells (by omega)
      have cm := hc ((i + j) / 2) (by omega)
      obtain ⟨y, hy⟩ : ∃ y, l.getD ((i + j) / 2) 0 = y := ⟨_, rfl⟩
      rw [hy] at cm
      have HY := Lib.hid hy
      clear hc hy
      by_cases hyx : y < x
      · go_wp2_with (go_at_call 142; refine (less_any _ _ _).mono ?_; rintro e w' ⟨rfl, rfl⟩)
        go_roundw
        case rel =>
          refine ⟨(i + j) / 2 + 1, j, _, by rw [show ((i : Int) + (j : Int)) / 2 + 1 = (((i + j) / 2 + 1 : Nat) : Int) by omega], rfl, by omega, by omega, rfl, fun t ht => ?_, H2.out⟩
          have := asc_le HA.out (i := t) (j := (i + j) / 2) (by omega) (by omega)
          rw [HY.out] at this
          omega
        case measure => simp [intOf]; omega
      · go_wp2_with (go_at_call 142; refine (less_any _ _ _).mono ?_; rintro e w' ⟨rfl, rfl⟩)
        go_roundw
        case rel =>
          refine ⟨i, (i + j) / 2, _, rfl, by rw [show ((i : Int) + (j : Int)) / 2 = (((i + j) / 2 : Nat) : Int) by omega], by omega, by omega, rfl, H1.out, fun t ht htn => ?_⟩
          have := asc_le HA.out (i := (i + j) / 2) (j := t) ht htn
          rw [HY.out] at this
          omega
        case measure => simp [intOf]; omega
    · have : i = j := by omega
      subst this
      have E1 := Lib.hid (cnt_at hj H1.out H2.out)
      have E2 := Lib.hid (mem_at HA.out hj H1.out H2.out)
      by_cases hn : i < l.length
      · obtain ⟨b, off, rfl, hb, hc⟩ := H.out.cells (by omega)
        have cl := hc i hn
        obtain ⟨y, hy⟩ : ∃ y, l.getD i 0 = y := ⟨_, rfl⟩
        rw [hy] at cl
        have HY := Lib.hid hy
        have ii : (i : Int) < (l.length : Int) := by omega
        clear hc hy
        by_cases hyx : y = x
        · have hb : (y == x) = true := by simpa using hyx
          go_wp2_with (go_at_call 143; refine (sisNaN_any _ _).mono ?_; rintro e w' ⟨rfl, rfl⟩)
          go_ret2
          refine ⟨?_, Dr.mk _ _⟩
          rw [E1.out, E2.out, HY.out, decide_eq_true (show i < l.length ∧ y = x from ⟨hn, hyx⟩)]
          first | rfl | simp [*]
        · have hb : (y == x) = false := by simpa using hyx
          go_wp2_with (go_at_call 143; refine (sisNaN_any _ _).mono ?_; rintro e w' ⟨rfl, rfl⟩)
          go_ret2
          refine ⟨?_, Dr.mk _ _⟩
          rw [E1.out, E2.out, HY.out, decide_eq_false (show ¬ (i < l.length ∧ y = x) from fun h => hyx h.2)]
          first | rfl | simp [*]
      · go_wp2_with (go_at_call 143; refine (sisNaN_any _ _).mono ?_; rintro e w' ⟨rfl, rfl⟩)
        go_ret2
        refine ⟨?_, Dr.mk _ _⟩
        rw [E1.out, E2.out, decide_eq_false (show ¬ (i < l.length ∧ l.getD i 0 = x) from fun h => hn h.1)]
        first | rfl | simp [*]

theorem find_any (B : Nat) (A : Option Addr) (c : Nat) (l : List Int) (x : Int) (w : World) (hm : l.length ≤ 4000000) (ha : Asc l) (hr : Rd w B 1 A l.length (l.map I)) :
    Calls Tryd.prog 101 #[.slice A l.length c, .int .i64 x] w fun e w' => e = .returned (.tuple #[.int .i64 (cnt l x), .bool (decide (x ∈ l))]) ∧ Dr w w' := by
  have H := Lib.hid (search_any B A c l x w hm ha hr)
  clear ha hr
  go_enter Tryd.func101, Tryd.ntmps101
  go_wp2_with (go_at_call 126; refine H.out.mono ?_; rintro e w' ⟨rfl, hd⟩)
  go_ret2
  exact ⟨rfl, hd⟩
end Go.Proofs.YtbbjgcagkmlngadDoor
