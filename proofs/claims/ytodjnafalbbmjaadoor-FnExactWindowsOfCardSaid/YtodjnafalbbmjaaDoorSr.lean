/- WindowsOf, by the model: the windows other than 0. -/
import Derived.Test.YtodjnafalbbmjaaDoorSq
namespace Go.Proofs.YtodjnafalbbmjaaDoor
open Go.RowKit

theorem posF_take {l : List Int} {i : Nat} (h : i < l.length) : posF (l.take (i + 1)) = posF (l.take i) ++ (if 0 < l[i] then [l[i]] else []) := by
  unfold posF
  rw [List.take_succ_eq_append_getElem h, List.filter_append]
  congr 1
  by_cases hp : 0 < l[i]
  · rw [if_pos hp]; simp [hp]
  · rw [if_neg hp]; simp [hp]
theorem posF_len (l : List Int) : (posF l).length ≤ l.length := List.length_filter_le _ _

set_option maxRecDepth 100000 in
set_option maxHeartbeats 2000000 in
theorem specWindowsOf_some (k n : Nat) (w : World) (hk : 1 ≤ k) (hk5 : k ≤ 5) (hn : isNum (n : Int) = true) :
    Calls Tryd.prog 4 #[.int .i64 (n : Int), .int .i64 (k : Int)] w fun e w' => ∃ A' c', e = .returned (.tuple #[.slice A' (slR k n).length c', .bool true]) ∧ OwI w' w.heap.size (.slice A' (slR k n).length c') (slR k n) ∧ Below w.heap.size w w' := by
  have ⟨hn1, hn2⟩ := isNum_rng hn
  have HN := Lib.hid hn
  have HK := Lib.hid (show isWd (k : Int) = true by simp [isWd, inB]; omega)
  have HS := Lib.hid (meSpans_any k n w hk hk5 (by omega) (by omega))
  have HJE := Lib.hid (fun J h => slJ_eq (k := k) (n := n) (j := J) hk (by omega) h)
  clear hn
  go_enter Tryd.func4, Tryd.ntmps4
  go_wp2_with (first | (go_at_call 9; refine (chNumber_any _ _).mono ?_; rw [HN.out]; rintro e w' ⟨rfl, hww⟩; subst w') | (go_at_call 10; refine (meWideS_any _ _).mono ?_; rw [HK.out]; rintro e w' ⟨rfl, hww⟩; subst w') | (go_at_call 11; refine HS.out.mono ?_; rintro e w1 ⟨A1, A2, c1, c2, p, J, Wl, rfl, hend, hwl, hp20, how, hpos, hnn, hb1⟩; have HEND := Lib.hid hend; have HWL := Lib.hid hwl; have OW := Lib.hid how; have HPOS := Lib.hid hpos; have B1 := Lib.hid hb1; clear hend hwl how hpos hnn hb1))
  go_loopw [8, 27] (fun sv iv wr => ∃ (i q : Nat) (A3 : Option Addr) (c3 : Nat), i ≤ p ∧ iv = .int .i64 (i : Int) ∧ sv = .slice A3 q c3 ∧ (posF (Wl.take i)).length = q ∧ q ≤ i ∧ OwI wr w1.heap.size (.slice A3 q c3) (posF (Wl.take i)) ∧ Below w1.heap.size w1 wr) (fun _ iv _ => p - (intOf iv).toNat)
  case atStart => exact ⟨0, 0, none, 0, by omega, rfl, rfl, rfl, Nat.le_refl _, OwI.nil _ _, Below.refl _ _⟩
  case round =>
    obtain ⟨i, q, A3, c3, hi, rfl, rfl, hq, hqi, hown, hbel⟩ := hrel
    have OWN := Lib.hid hown
    have BEL := Lib.hid hbel
    have HQ := Lib.hid hq
    have hs : w1.heap.size ≤ wr.heap.size := hbel.size
    clear hown hbel hq
    by_cases hlt : i < p
    · have hlt' : i < Wl.length := by rw [HWL.out]; exact hlt
      obtain ⟨g, hg0, hgl, hcell⟩ := own_cellsS OW.out HWL.out (by omega)
      subst hg0
      have hc := (BEL.out.cell (p := ⟨g, i, none⟩) hgl).trans (hcell i hlt)
      have hstep := posF_take hlt'
      have hge : Wl.getD i 0 = Wl[i] := by rw [List.getD_eq_getElem?_getD, List.getElem?_eq_getElem hlt']; rfl
      rw [hge] at hc
      obtain ⟨x, hx⟩ : ∃ x, Wl[i] = x := ⟨_, rfl⟩
      rw [hx] at hc hstep
      have il : (i : Int) < (p : Int) := by omega
      have HST := Lib.hid hstep
      clear hcell hstep hge hx
      by_cases hx0 : 0 < x
      · have HST := Lib.hid (show posF (Wl.take (i + 1)) = posF (Wl.take i) ++ [x] from by rw [HST.out, if_pos hx0])
        go_wp2_with (at_builtin; refine list_step (fun K hK => ?_); refine step_app_int rfl (.tmp 33) (.tmp 35) rfl w1.heap.size q _ (posF (Wl.take i)) rfl (OWN.out.alloc _) HQ.out wr.heap.size 1 x rfl (by simp) (by omega) (by simp; omega) ?_; intro A4 c4 w3 hown3 hg3 hbel3; go_simp; refine hK _ _ ?_; clear hK K)
        go_roundw
        case rel => exact ⟨i + 1, q + 1, A4, c4, by omega, by go_num, rfl, by rw [HST.out, List.length_append, HQ.out]; rfl, by omega, by rw [HST.out]; exact hown3, (BEL.out.alloc hs _).trans hbel3⟩
        case measure => simp [intOf]; omega
      · have HST := Lib.hid (show posF (Wl.take (i + 1)) = posF (Wl.take i) from by rw [HST.out, if_neg hx0, List.append_nil])
        go_wp2
        go_roundw
        case rel => exact ⟨i + 1, q, A3, c3, by omega, by go_num, rfl, by rw [HST.out]; exact HQ.out, by omega, by rw [HST.out]; exact OWN.out, BEL.out⟩
        case measure => simp [intOf]; omega
    · have e : i = p := by omega
      have HE := Lib.hid (show slR k n = posF (Wl.take i) from by
        unfold slR
        rw [HJE.out J HEND.out, List.take_of_length_le (by rw [HWL.out]; omega)]
        exact HPOS.out.symm)
      have il : ¬ (i : Int) < (p : Int) := by omega
      clear hlt e
      go_wp2
      go_ret2
      exact ⟨A3, c3, by rw [HE.out, HQ.out]; rfl, by rw [HE.out, HQ.out]; exact OWN.out.base B1.out.size, B1.out.trans (BEL.out.mono B1.out.size)⟩

set_option maxRecDepth 100000 in
set_option maxHeartbeats 1000000 in
theorem specWindowsOf_any (x y : Int) (w : World) : Calls Tryd.prog 4 #[.int .i64 x, .int .i64 y] w fun e w' => ∃ A' c', e = .returned (.tuple #[.slice A' (woR x y).length c', .bool (woB x y)]) ∧ OwI w' w.heap.size (.slice A' (woR x y).length c') (woR x y) ∧ Below w.heap.size w w' := by
  cases hg : woB x y with
  | true =>
    obtain ⟨g1, g2⟩ : isNum x = true ∧ isWd y = true := by simpa [woB] using hg
    have ⟨r1, r2⟩ := isNum_rng g1
    have ⟨r3, r4⟩ := isWd_rng g2
    obtain ⟨n, rfl⟩ : ∃ n : Nat, x = n := ⟨x.toNat, by omega⟩
    obtain ⟨k, rfl⟩ : ∃ k : Nat, y = k := ⟨y.toNat, by omega⟩
    rw [woR_true hg]
    exact specWindowsOf_some k n w (by omega) (by omega) g1
  | false =>
    have E := Lib.hid (woR_false hg)
    cases g1 : isNum x with
    | false =>
      have HN := Lib.hid g1
      clear g1 hg
      go_enter Tryd.func4, Tryd.ntmps4
      go_wp2_with (go_at_call 9; refine (chNumber_any _ _).mono ?_; rw [HN.out]; rintro e w' ⟨rfl, hww⟩; subst w')
      go_ret2
      exact ⟨none, 0, by rw [E.out]; rfl, by rw [E.out]; exact OwI.nil _ _, Below.refl _ _⟩
    | true =>
      have g2 : isWd y = false := by unfold woB at hg; rw [g1] at hg; simpa using hg
      have HN := Lib.hid g1
      have HK := Lib.hid g2
      clear g1 g2 hg
      go_enter Tryd.func4, Tryd.ntmps4
      go_wp2_with (first | (go_at_call 9; refine (chNumber_any _ _).mono ?_; rw [HN.out]; rintro e w' ⟨rfl, hww⟩; subst w') | (go_at_call 10; refine (meWideS_any _ _).mono ?_; rw [HK.out]; rintro e w' ⟨rfl, hww⟩; subst w'))
      go_ret2
      exact ⟨none, 0, by rw [E.out]; rfl, by rw [E.out]; exact OwI.nil _ _, Below.refl _ _⟩
end Go.Proofs.YtodjnafalbbmjaaDoor
