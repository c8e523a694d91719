/- What is in one of two chains. -/
import Derived.Test.YtlkieebmfmiafaaQv
namespace Go.Proofs.Ytlkieebmfmiafaa
open Go.RowKit

theorem mem_at_cnt {l : List Int} (ha : Asc l) {x : Int} (hx : x ∈ l) : cnt l x < l.length ∧ l.getD (cnt l x) 0 = x := by
  obtain ⟨h1, h2⟩ := cnt_parts ha x
  have h := mem_at ha (cnt_le l x) h1 h2
  rw [decide_eq_true hx] at h
  exact of_decide_eq_true h.symm

set_option maxRecDepth 100000 in
set_option maxHeartbeats 1000000 in
/-- Of a number that is there the list itself is answered. -/
theorem l1PutH_any (B : Nat) (A : Option Addr) (c : Nat) (l : List Int) (x : Int) (w : World) (hm : l.length ≤ 1000) (ha : Asc l) (hx : x ∈ l) (hr : Rd w B 1 A l.length (l.map I)) :
    Calls Try.prog 119 #[.slice A l.length c, .int .i64 x] w fun e w' => e = .returned (.slice A l.length c) ∧ w = w' := by
  obtain ⟨q1, q2⟩ := mem_at_cnt ha hx
  obtain ⟨p1, _⟩ := cnt_parts ha x
  obtain ⟨b, off, rfl, hb, hc⟩ := hr.cells (by omega)
  have HC := Lib.hid hc
  have P1 := Lib.hid p1
  obtain ⟨a, haa⟩ : ∃ a, cnt l x = a := ⟨_, rfl⟩
  rw [haa] at q1 q2
  have AA := Lib.hid haa
  have Q2 := Lib.hid q2
  clear hr hc ha hx p1 haa q2
  go_enter Try.func119, Try.ntmps119
  go_wp2
  go_loop [5] (fun i => ∃ k : Nat, k ≤ a ∧ i = .int .i64 k) (fun i => a - (intOf i).toNat)
  case atStart => exact ⟨0, by omega, rfl⟩
  case round =>
    obtain ⟨k, hk, rfl⟩ := hrel
    have ck := HC.out k (by omega)
    have ik : (k : Int) < (l.length : Int) := by omega
    by_cases hka : k < a
    · have hlt : l.getD k 0 < x := P1.out k (by rw [AA.out]; exact hka)
      obtain ⟨y, hy⟩ : ∃ y, l.getD k 0 = y := ⟨_, rfl⟩
      rw [hy] at ck hlt
      clear hy
      go_wp2
      go_round
      case rel => exact ⟨k + 1, by omega, by go_num⟩
      case measure => simp [intOf]; omega
    · have e : k = a := by omega
      subst e
      rw [Q2.out] at ck
      go_wp2
      go_ret
      exact ⟨rfl, rfl⟩

set_option maxHeartbeats 1000000 in
theorem l1PutO_any (B0 : Nat) (A : Option Addr) (c : Nat) (l : List Int) (x : Int) (w : World) (hm : l.length ≤ 1000) (ha : Asc l) (hB : B0 ≤ w.heap.size) (hown : OwI w B0 (.slice A l.length c) l) :
    Calls Try.prog 119 #[.slice A l.length c, .int .i64 x] w fun e w' => ∃ A' c', e = .returned (.slice A' (putI l x).length c') ∧ OwI w' B0 (.slice A' (putI l x).length c') (putI l x) ∧ Below w.heap.size w w' := by
  by_cases hx : x ∈ l
  · refine (l1PutH_any w.heap.size A c l x w hm ha hx hown.rd).mono ?_
    rintro e w' ⟨rfl, rfl⟩
    rw [putI_has hx]
    exact ⟨A, c, rfl, hown, Below.refl _ _⟩
  · refine (l1PutN_any w.heap.size A c l x w hm ha hx hown.cap (Nat.le_refl _) hown.rd).mono ?_
    rintro e w' ⟨A', c', rfl, h1, h2⟩
    exact ⟨A', c', rfl, h1.base hB, h2⟩

def uniK (a b : List Int) (k : Nat) : List Int := (b.take k).foldl putI a
def uni (a b : List Int) : List Int := b.foldl putI a
theorem uniK_end (a b : List Int) : uniK a b b.length = uni a b := by unfold uniK uni; rw [List.take_length]
theorem uniK_zero (a b : List Int) : uniK a b 0 = a := rfl
theorem uniK_succ {a b : List Int} {k : Nat} (hk : k < b.length) : uniK a b (k + 1) = putI (uniK a b k) (b.getD k 0) := by
  unfold uniK
  rw [take_succ_getD hk, List.foldl_append]
  rfl
theorem uniK_ok {a b : List Int} (ha : Asc a) (h0 : 1 ≤ a.length) : ∀ k, k ≤ b.length → Asc (uniK a b k) ∧ 1 ≤ (uniK a b k).length ∧ (uniK a b k).length ≤ a.length + k := by
  intro k
  induction k with
  | zero => intro _; rw [uniK_zero]; exact ⟨ha, h0, by omega⟩
  | succ k ih =>
    intro hk
    obtain ⟨h1, h2, h3⟩ := ih (by omega)
    rw [uniK_succ (by omega)]
    refine ⟨putI_asc h1 _, ?_, ?_⟩
    · have := List.length_pos_of_mem (mem_putI (uniK a b k) (b.getD k 0))
      omega
    · have := putI_le (uniK a b k) (b.getD k 0)
      omega
def unG (a b : List Int) : Bool := (chG a && chG b) && chG (uni a b)

end Go.Proofs.Ytlkieebmfmiafaa
