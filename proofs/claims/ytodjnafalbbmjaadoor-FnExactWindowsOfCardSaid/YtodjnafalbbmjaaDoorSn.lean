/- WindowsOf, by the program. -/
import Derived.Test.YtodjnafalbbmjaaDoorSm
import Derived.Test.YtodjnafalbbmjaaDoorQl
namespace Go.Proofs.YtodjnafalbbmjaaDoor
open Go.RowKit

def isWd (y : Int) : Bool := inB y 1 5
theorem isWd_rng {y : Int} (h : isWd y = true) : 1 ≤ y ∧ y ≤ 5 := by simpa [isWd, inB] using h
set_option maxHeartbeats 400000 in
theorem meWideS_any (y : Int) (w : World) : Calls Tryd.prog 10 #[.int .i64 y] w fun e w' => e = .returned (.bool (isWd y)) ∧ w = w' := by
  go_enter Tryd.func10, Tryd.ntmps10
  go_wp2_with (go_at_call 15; refine (l1In_any _ _ _ _).mono ?_; rintro e w' ⟨rfl, rfl⟩)
  go_ret
  exact ⟨rfl, rfl⟩
set_option maxHeartbeats 400000 in
theorem isWidthS_any (y : Int) (w : World) : Calls Tryd.prog 13 #[.int .i64 y] w fun e w' => e = .returned (.bool (isWd y)) ∧ w = w' := by
  by_cases h1 : 1 ≤ y <;> by_cases h2 : y ≤ 5
  all_goals
    go_enter Tryd.func13, Tryd.ntmps13
    go_wp2
    go_ret
    exact ⟨ret_bool (by simp [isWd, inB, h1, h2]), rfl⟩
/-- What both sides answer. -/
def woB (x y : Int) : Bool := isNum x && isWd y
def woR (x y : Int) : List Int := if woB x y then slR y.toNat x.toNat else []
theorem slJ_le (k n : Nat) : slJ k n ≤ 20 := by
  unfold slJ
  cases h : (List.range 21).find? fun j => (slI k n j).1 == 0 with
  | none => simp
  | some j =>
    have := List.mem_of_find?_eq_some h
    have := List.mem_range.1 this
    simp
    omega
theorem slR_len (k n : Nat) : (slR k n).length ≤ 20 := by unfold slR; rw [slN_len]; exact slJ_le k n
theorem woR_le (x y : Int) : (woR x y).length ≤ 1000 := by
  unfold woR
  split
  · have := slR_len y.toNat x.toNat; omega
  · simp
theorem woR_true {k n : Nat} (h : woB (n : Int) (k : Int) = true) : woR (n : Int) (k : Int) = slR k n := by unfold woR; rw [if_pos h]; rfl
theorem woR_false {x y : Int} (h : woB x y = false) : woR x y = [] := by unfold woR; rw [h]; rfl
theorem slN_at {k n J i : Nat} (h : i < J) : ∃ (h1 : i < (slW k n J).length) (h2 : i < (slN k n J).length), (slN k n J)[i] = ((slW k n J)[i]).2 := by
  refine ⟨by rw [slW_len]; exact h, by rw [slN_len]; exact h, ?_⟩
  simp [slN, slW]

set_option maxRecDepth 100000 in
set_option maxHeartbeats 2000000 in
theorem implWindowsOf_some (k n : Nat) (w : World) (hk : 1 ≤ k) (hk5 : k ≤ 5) (hn : isNum (n : Int) = true) (hT : TzT w) :
    Calls Tryd.prog 5 #[.int .i64 (n : Int), .int .i64 (k : Int)] w fun e w' => ∃ A' c', e = .returned (.tuple #[.slice A' (slR k n).length c', .bool true]) ∧ OwI w' w.heap.size (.slice A' (slR k n).length c') (slR k n) ∧ Below w.heap.size w w' := by
  have ⟨hn1, hn2⟩ := isNum_rng hn
  have HN := Lib.hid hn
  have HK := Lib.hid (show isWd (k : Int) = true by simp [isWd, inB]; omega)
  have HS := Lib.hid (sliding_any k n w hk hk5 (by omega) hT)
  have HJE := Lib.hid (fun J h => slJ_eq (k := k) (n := n) (j := J) hk (by omega) h)
  clear hn hT
  go_enter Tryd.func5, Tryd.ntmps5
  go_wp2_with (first | (go_at_call 12; refine (isExponent_any _ _).mono ?_; rw [HN.out]; rintro e w' ⟨rfl, hww⟩; subst w') | (go_at_call 13; refine (isWidthS_any _ _).mono ?_; rw [HK.out]; rintro e w' ⟨rfl, hww⟩; subst w') | (go_at_call 14; refine HS.out.mono ?_; rintro e w1 ⟨A, c, J, rfl, hend, hov, hb1⟩; have HEND := Lib.hid hend; have HOV := Lib.hid hov; have HB1 := Lib.hid hb1; have hJ20 := slJ_le k n; rw [HJE.out J hend] at hJ20; clear hend hov hb1))
  go_loopw [6, 21] (fun sv iv wr => ∃ (i : Nat) (A2 : Option Addr) (c2 : Nat), i ≤ J ∧ iv = .int .i64 (i : Int) ∧ sv = .slice A2 i c2 ∧ OwI wr w.heap.size (.slice A2 i c2) ((slN k n J).take i) ∧ OwV wr w.heap.size (.slice A J c) (slW k n J) ∧ Below w.heap.size w wr) (fun _ iv _ => J - (intOf iv).toNat)
  case atStart => exact ⟨0, none, 0, by omega, rfl, rfl, OwI.nil _ _, HOV.out, HB1.out⟩
  case round =>
    obtain ⟨i, A2, c2, hi, rfl, rfl, hown, hov, hbel⟩ := hrel
    have OWN := Lib.hid hown
    have OV := Lib.hid hov
    have BEL := Lib.hid hbel
    have hs : w.heap.size ≤ wr.heap.size := hbel.size
    clear hown hov hbel
    by_cases hlt : i < J
    · obtain ⟨h1, h2, h3⟩ := slN_at (k := k) (n := n) hlt
      obtain ⟨p, hp⟩ : ∃ p, (slW k n J)[i] = p := ⟨_, rfl⟩
      have hrd : Rd wr wr.heap.size 2 A (slW k n J).length (fl (slW k n J)) := by
        have h := OV.out
        unfold OwV at h
        rw [slW_len] at h ⊢
        exact Rd.of_own h
      obtain ⟨b, off, rfl, hb, hc1, hc2⟩ := hrd.stp h1
      rw [hp] at hc1 hc2 h3
      have HTK := Lib.hid (show (slN k n J).take (i + 1) = (slN k n J).take i ++ [p.2] by rw [List.take_succ_eq_append_getElem h2, h3])
      have HTL := Lib.hid (show ((slN k n J).take i).length = i by rw [List.length_take, slN_len]; omega)
      have il : (i : Int) < (J : Int) := by omega
      clear hp hrd h1 h2 h3
      go_wp2_with (at_builtin; refine list_step (fun K hK => ?_); refine step_app_int rfl (.tmp 25) (.tmp 28) rfl w.heap.size i _ ((slN k n J).take i) rfl ((OWN.out.alloc _).alloc _) HTL.out (wr.heap.size + 1) 1 p.2 rfl (by simp) (by omega) (by simp; omega) ?_; intro A3 c3 w3 hown3 hg3 hbel3; have HO3 := Lib.hid hown3; have HG3 := Lib.hid hg3; have HB3 := Lib.hid (((BEL.out.alloc hs _).alloc (by simp; omega) _).trans hbel3); clear hown3 hg3 hbel3; go_simp; refine hK _ _ ?_; clear hK K)
      go_roundw
      case rel =>
        refine ⟨i + 1, A3, c3, by omega, by go_num, rfl, by rw [HTK.out]; exact HO3.out, ?_, HB3.out⟩
        refine World.ownsRow.kept ?_ HG3.out (own_ne OV.out OWN.out (by decide))
        exact World.ownsRow.alloc (World.ownsRow.alloc OV.out _) _
      case measure => simp [intOf]; omega
    · have e : i = J := by omega
      subst e
      have il : ¬ (i : Int) < (i : Int) := by omega
      have HE := Lib.hid (show slR k n = (slN k n i).take i from by
        unfold slR
        rw [HJE.out i HEND.out, List.take_of_length_le (by rw [slN_len]; exact Nat.le_refl _)])
      have HL := Lib.hid (show ((slN k n i).take i).length = i by rw [List.length_take, slN_len]; omega)
      clear hlt
      go_wp2
      go_ret2
      exact ⟨A2, c2, by rw [HE.out, HL.out]; rfl, by rw [HE.out, HL.out]; exact OWN.out, BEL.out⟩

set_option maxRecDepth 100000 in
set_option maxHeartbeats 1000000 in
theorem implWindowsOf_any (x y : Int) (w : World) (hT : TzT w) : Calls Tryd.prog 5 #[.int .i64 x, .int .i64 y] w fun e w' => ∃ A' c', e = .returned (.tuple #[.slice A' (woR x y).length c', .bool (woB x y)]) ∧ OwI w' w.heap.size (.slice A' (woR x y).length c') (woR x y) ∧ Below w.heap.size w w' := by
  cases hg : woB x y with
  | true =>
    obtain ⟨g1, g2⟩ : isNum x = true ∧ isWd y = true := by simpa [woB] using hg
    have ⟨r1, r2⟩ := isNum_rng g1
    have ⟨r3, r4⟩ := isWd_rng g2
    obtain ⟨n, rfl⟩ : ∃ n : Nat, x = n := ⟨x.toNat, by omega⟩
    obtain ⟨k, rfl⟩ : ∃ k : Nat, y = k := ⟨y.toNat, by omega⟩
    rw [woR_true hg]
    exact implWindowsOf_some k n w (by omega) (by omega) g1 hT
  | false =>
    have E := Lib.hid (woR_false hg)
    clear hT
    cases g1 : isNum x with
    | false =>
      have HN := Lib.hid g1
      clear g1 hg
      go_enter Tryd.func5, Tryd.ntmps5
      go_wp2_with (go_at_call 12; refine (isExponent_any _ _).mono ?_; rw [HN.out]; rintro e w' ⟨rfl, hww⟩; subst w')
      go_ret2
      exact ⟨none, 0, by rw [E.out]; rfl, by rw [E.out]; exact OwI.nil _ _, Below.refl _ _⟩
    | true =>
      have g2 : isWd y = false := by unfold woB at hg; rw [g1] at hg; simpa using hg
      have HN := Lib.hid g1
      have HK := Lib.hid g2
      clear g1 g2 hg
      go_enter Tryd.func5, Tryd.ntmps5
      go_wp2_with (first | (go_at_call 12; refine (isExponent_any _ _).mono ?_; rw [HN.out]; rintro e w' ⟨rfl, hww⟩; subst w') | (go_at_call 13; refine (isWidthS_any _ _).mono ?_; rw [HK.out]; rintro e w' ⟨rfl, hww⟩; subst w'))
      go_ret2
      exact ⟨none, 0, by rw [E.out]; rfl, by rw [E.out]; exact OwI.nil _ _, Below.refl _ _⟩
end Go.Proofs.YtodjnafalbbmjaaDoor
