/- Whether each number of a chain is made of the one just before it. -/
import Derived.Test.YtbbjgcagkmlngacQg
namespace Go.Proofs.Ytbbjgcagkmlngac
open Go.RowKit

/-- Up to step k, the step i has the index i as B. -/
def starK (s : List (Int × Int)) (k : Nat) : Bool := (List.range k).all fun i => decide ((s.getD i (0, 0)).2 = (i : Int))
theorem starK_succ (s : List (Int × Int)) (k : Nat) : starK s (k + 1) = (starK s k && decide ((s.getD k (0, 0)).2 = (k : Int))) := by
  unfold starK
  rw [List.range_succ, List.all_append]
  simp
theorem starK_false {s : List (Int × Int)} {k : Nat} (n : Nat) (hk : k < n) (h : ¬ (s.getD k (0, 0)).2 = (k : Int)) : starK s n = false := by
  unfold starK
  rw [List.all_eq_false]
  exact ⟨k, List.mem_range.2 hk, by simpa using h⟩
def starB (l : List Int) : Bool := chG l && starK (chS l) (chS l).length

/-- The two cells of step k of an own row. -/
theorem OwS.at_ {w : World} {B : Nat} {A : Option Addr} {c : Nat} {s : List (Int × Int)} (h : OwS w B (.slice A s.length c) s) {k : Nat} (hk : k < s.length) :
    ∃ g, A = some ⟨g, 0, none⟩ ∧ B ≤ g ∧ g < w.heap.size ∧ w.cell? ⟨g, k * 2, none⟩ = some (.int .i64 (s.getD k (0, 0)).1) ∧ w.cell? ⟨g, k * 2 + 1, none⟩ = some (.int .i64 (s.getD k (0, 0)).2) := by
  obtain ⟨g, rfl, hB, hg, hc, _⟩ := own_at h (by omega)
  obtain ⟨f1, f2⟩ := fl_at hk
  have e : s.getD k (0, 0) = s[k] := by simp [hk]
  exact ⟨g, rfl, hB, hg, by rw [hc _ (by omega), f1, e], by rw [hc _ (by omega), f2, e]⟩

set_option maxRecDepth 100000 in
set_option maxHeartbeats 2000000 in
theorem chStar_any (B : Nat) (A : Option Addr) (c : Nat) (l : List Int) (w : World) (hg : chG l = true) (hB : B ≤ w.heap.size) (hr : Rd w B 1 A l.length (l.map I)) :
    Calls Try.prog 54 #[.slice A l.length c] w fun e w' => e = .returned (.bool (starK (stepsK l l.length) (stepsK l l.length).length)) ∧ Below w.heap.size w w' := by
  have hS := chSteps_any B A c l w hg hB hr
  have hle : (stepsK l l.length).length ≤ 40 := by rw [stepsK_length]; have := (chG_chn hg).most; omega
  obtain ⟨S, hSe⟩ : ∃ S, stepsK l l.length = S := ⟨_, rfl⟩
  rw [hSe] at hS hle ⊢
  have HS := Lib.hid hS
  clear hS hg hr hSe
  go_enter Try.func54, Try.ntmps54
  go_wp2_with (go_at_call 50; refine HS.out.mono ?_; rintro e w2 ⟨A', c', rfl, hown, hb2⟩)
  have OWN := Lib.hid hown
  have HB2 := Lib.hid hb2
  have hs2 : w.heap.size ≤ w2.heap.size := hb2.size
  clear hown hb2
  go_loopw [8] (fun i wr => ∃ k : Nat, k ≤ S.length ∧ i = .int .i64 k ∧ starK S k = true ∧ Below w2.heap.size w2 wr) (fun i _ => S.length - (intOf i).toNat)
  case atStart => exact ⟨0, by omega, rfl, rfl, Below.refl _ _⟩
  case round =>
    obtain ⟨k, hk, rfl, hq, hbel⟩ := hrel
    have Q := Lib.hid hq
    have BEL := Lib.hid hbel
    have hs3 : w2.heap.size ≤ wr.heap.size := hbel.size
    by_cases hlt : k < S.length
    · obtain ⟨g, rfl, _, hgs, cx, cy⟩ := (OWN.out.below hbel).at_ hlt
      obtain ⟨x, hx⟩ : ∃ x, (S.getD k (0, 0)).1 = x := ⟨_, rfl⟩
      obtain ⟨y, hy⟩ : ∃ y, (S.getD k (0, 0)).2 = y := ⟨_, rfl⟩
      rw [hx] at cx
      rw [hy] at cy
      clear hq hbel hx
      by_cases he : y = (k : Int)
      · have G := Lib.hid (show starK S (k + 1) = true by rw [starK_succ, Q.out, hy, he]; simp)
        have hb : (y != (k : Int)) = false := by simp [he]
        clear hy he
        go_wp2
        go_roundw
        case rel => exact ⟨k + 1, by omega, by go_num, G.out, BEL.out.alloc (by omega) _⟩
        case measure => simp [intOf]; omega
      · have G := Lib.hid (starK_false (s := S) S.length hlt (by rw [hy]; exact he))
        have hb : (y != (k : Int)) = true := by simpa using he
        clear hy he
        go_wp2
        go_ret
        exact ⟨ret_bool G.out.symm, HB2.out.trans ((BEL.out.alloc (by omega) _).mono hs2)⟩
    · have e : k = S.length := by omega
      subst e
      clear hq hbel
      go_wp2
      go_ret
      exact ⟨ret_bool Q.out.symm, HB2.out.trans (BEL.out.mono hs2)⟩

set_option maxRecDepth 100000 in
set_option maxHeartbeats 2000000 in
theorem specStar_any (B : Nat) (A : Option Addr) (c : Nat) (l : List Int) (w : World) (hB : B ≤ w.heap.size) (hl : l.length ≤ 1048576) (_hcap : l.length ≤ c) (hr : Rd w B 1 A l.length (l.map I)) :
    Calls Try.prog 25 #[.slice A l.length c] w fun e w' => e = .returned (.tuple #[.bool (starB l), .bool (chG l)]) ∧ Below w.heap.size w w' := by
  have hS := chGood_any B A c l w hl hB hr
  cases hg : chG l with
  | false =>
    rw [hg] at hS
    have HS := Lib.hid hS
    have GG := Lib.hid hg
    clear hS hr hg
    go_enter Try.func25, Try.ntmps25
    go_wp2_with (go_at_call 49; refine HS.out.mono ?_; rintro e w2 ⟨rfl, hb2⟩)
    go_ret2
    exact ⟨by unfold starB; rw [GG.out]; rfl, hb2⟩
  | true =>
    rw [hg] at hS
    have HS := Lib.hid hS
    have H := Lib.hid hr
    have GG := Lib.hid hg
    have E := Lib.hid (show starB l = starK (stepsK l l.length) (stepsK l l.length).length by unfold starB; rw [hg, chS_true hg]; rfl)
    clear hS hr hg
    go_enter Try.func25, Try.ntmps25
    go_wp2_with (first
      | (go_at_call 49; refine HS.out.mono ?_; rintro e w2 ⟨rfl, hb2⟩)
      | (go_at_call 54; refine (chStar_any B A c l w2 GG.out (by have := hb2.size; omega) (H.out.below' hb2 hB)).mono ?_; rintro e w3 ⟨rfl, hb3⟩))
    go_ret2
    exact ⟨by rw [E.out]; rfl, hb2.trans (hb3.mono hb2.size)⟩

set_option maxRecDepth 100000 in
set_option maxHeartbeats 2000000 in
theorem implStar_any (B : Nat) (A : Option Addr) (c : Nat) (l : List Int) (w : World) (hB : B ≤ w.heap.size) (hl : l.length ≤ 1048576) (hcap : l.length ≤ c) (hr : Rd w B 1 A l.length (l.map I)) :
    Calls Try.prog 26 #[.slice A l.length c] w fun e w' => e = .returned (.tuple #[.bool (starB l), .bool (chG l)]) ∧ Below w.heap.size w w' := by
  have hS := implSteps_any B A c l w hB hl hcap hr
  clear hr
  cases hg : chG l with
  | false =>
    rw [hg] at hS
    have HS := Lib.hid hS
    have GG := Lib.hid hg
    clear hS hg
    go_enter Try.func26, Try.ntmps26
    go_wp2_with (go_at_call 20; refine HS.out.mono ?_; rintro e w2 ⟨A', c', rfl, _, hb2⟩)
    go_ret2
    exact ⟨by unfold starB; rw [GG.out]; rfl, hb2⟩
  | true =>
    rw [hg] at hS
    have hle := chS_le l
    have E := Lib.hid (show starB l = starK (chS l) (chS l).length by unfold starB; rw [hg]; rfl)
    obtain ⟨S, hSe⟩ : ∃ S, chS l = S := ⟨_, rfl⟩
    rw [hSe] at hS hle E
    have HS := Lib.hid hS
    clear hS hSe hg
    go_enter Try.func26, Try.ntmps26
    go_wp2_with (go_at_call 20; refine HS.out.mono ?_; rintro e w2 ⟨A', c', rfl, hown, hb2⟩)
    have OWN := Lib.hid hown
    have HB2 := Lib.hid hb2
    have hs2 : w.heap.size ≤ w2.heap.size := hb2.size
    clear hown hb2
    go_loopw [17] (fun i wr => ∃ k : Nat, k ≤ S.length ∧ i = .int .i64 k ∧ starK S k = true ∧ Below w2.heap.size w2 wr) (fun i _ => S.length - (intOf i).toNat)
    case atStart => exact ⟨0, by omega, rfl, rfl, Below.refl _ _⟩
    case round =>
      obtain ⟨k, hk, rfl, hq, hbel⟩ := hrel
      have Q := Lib.hid hq
      have BEL := Lib.hid hbel
      have hs3 : w2.heap.size ≤ wr.heap.size := hbel.size
      by_cases hlt : k < S.length
      · obtain ⟨g, rfl, _, hgs, cx, cy⟩ := (OWN.out.below hbel).at_ hlt
        obtain ⟨x, hx⟩ : ∃ x, (S.getD k (0, 0)).1 = x := ⟨_, rfl⟩
        obtain ⟨y, hy⟩ : ∃ y, (S.getD k (0, 0)).2 = y := ⟨_, rfl⟩
        rw [hx] at cx
        rw [hy] at cy
        clear hq hbel hx
        by_cases he : y = (k : Int)
        · have G := Lib.hid (show starK S (k + 1) = true by rw [starK_succ, Q.out, hy, he]; simp)
          have hb : (y != (k : Int)) = false := by simp [he]
          clear hy he
          go_wp2
          go_roundw
          case rel => exact ⟨k + 1, by omega, by go_num, G.out, BEL.out.alloc (by omega) _⟩
          case measure => simp [intOf]; omega
        · have G := Lib.hid (starK_false (s := S) S.length hlt (by rw [hy]; exact he))
          have hb : (y != (k : Int)) = true := by simpa using he
          clear hy he
          go_wp2
          go_ret2
          exact ⟨by rw [E.out, G.out]; rfl, HB2.out.trans ((BEL.out.alloc (by omega) _).mono hs2)⟩
      · have e : k = S.length := by omega
        subst e
        clear hq hbel
        go_wp2
        go_ret2
        exact ⟨by rw [E.out, Q.out]; rfl, HB2.out.trans (BEL.out.mono hs2)⟩
end Go.Proofs.Ytbbjgcagkmlngac
