/- Window digits and the sparse form: of both programs. -/
import Derived.Test.YtbohakifjmdoiaaN9a
namespace Go.Proofs.Ytbohakifjmdoiaa
open Go.RowKit

/-- A width and its power. -/
def WT (W T : Int) : Prop := (W = 2 ∧ T = 4) ∨ (W = 3 ∧ T = 8) ∨ (W = 4 ∧ T = 16) ∨ (W = 5 ∧ T = 32) ∨ (W = 6 ∧ T = 64)
theorem WT.tt {W T : Int} (h : WT W T) : TT T := by rcases h with ⟨_, h⟩ | ⟨_, h⟩ | ⟨_, h⟩ | ⟨_, h⟩ | ⟨_, h⟩ <;> simp [TT, h]
def isN9 (n : Int) : Bool := inB n (-1000000) 1000000
def pwT (W : Int) : Int := if W = 2 then 4 else if W = 3 then 8 else if W = 4 then 16 else if W = 5 then 32 else 64
theorem pwT_ok {W : Int} (h : inB W 2 6 = true) : WT W (pwT W) := by
  have h : 2 ≤ W ∧ W ≤ 6 := by simpa [inB] using h
  have : W = 2 ∨ W = 3 ∨ W = 4 ∨ W = 5 ∨ W = 6 := by omega
  rcases this with rfl | rfl | rfl | rfl | rfl <;> simp [WT, pwT]

theorem isSignedNumber_any (n : Int) (w : World) : Calls Try.prog 52 #[.int .i64 n] w fun e w' => e = .returned (.bool (isN9 n)) ∧ w = w' := by
  by_cases h1 : -1000000 ≤ n <;> by_cases h2 : n ≤ 1000000
  all_goals
    go_enter Try.func52, Try.ntmps52
    go_wp2
    go_ret
    exact ⟨ret_bool (by simp [isN9, inB, h1, h2]), rfl⟩
theorem isWindowWidth_any (n : Int) (w : World) : Calls Try.prog 53 #[.int .i64 n] w fun e w' => e = .returned (.bool (inB n 2 6)) ∧ w = w' := by
  by_cases h1 : 2 ≤ n <;> by_cases h2 : n ≤ 6
  all_goals
    go_enter Try.func53, Try.ntmps53
    go_wp2
    go_ret
    exact ⟨ret_bool (by simp [inB, h1, h2]), rfl⟩
theorem siNumber_any (n : Int) (w : World) : Calls Try.prog 49 #[.int .i64 n] w fun e w' => e = .returned (.bool (isN9 n)) ∧ w = w' := by
  go_enter Try.func49, Try.ntmps49
  go_wp2_with (go_at_call 65; refine (l1In_any _ _ _ _).mono ?_; rintro e w' ⟨rfl, rfl⟩)
  go_ret
  exact ⟨rfl, rfl⟩
theorem siWidth_any (n : Int) (w : World) : Calls Try.prog 50 #[.int .i64 n] w fun e w' => e = .returned (.bool (inB n 2 6)) ∧ w = w' := by
  go_enter Try.func50, Try.ntmps50
  go_wp2_with (go_at_call 65; refine (l1In_any _ _ _ _).mono ?_; rintro e w' ⟨rfl, rfl⟩)
  go_ret
  exact ⟨rfl, rfl⟩

theorem tmod2 (n : Int) : n.tmod 2 = 0 ↔ n % 2 = 0 := by
  rw [← Int.dvd_iff_tmod_eq_zero, ← Int.dvd_iff_emod_eq_zero]
theorem tdiv2 {x : Int} (h : x % 2 = 0) : x.tdiv 2 = x / 2 := Int.tdiv_eq_ediv_of_dvd (Int.dvd_of_emod_eq_zero h)
set_option maxHeartbeats 1000000 in
theorem siOdd_any (n : Int) (w : World) : Calls Try.prog 64 #[.int .i64 n] w fun e w' => e = .returned (.bool (decide (n % 2 ≠ 0))) ∧ w = w' := by
  by_cases h : n % 2 = 0
  · have h1 : n.tmod 2 = 0 := (tmod2 n).2 h
    have E := Lib.hid h
    clear h
    go_enter Try.func64, Try.ntmps64
    go_wp2
    go_ret
    exact ⟨ret_bool (by simp [E.out]), rfl⟩
  · have h1 : ¬ n.tmod 2 = 0 := fun e => h ((tmod2 n).1 e)
    have E := Lib.hid h
    clear h
    go_enter Try.func64, Try.ntmps64
    go_wp2
    go_ret
    exact ⟨ret_bool (by simp [E.out, h1]), rfl⟩

set_option maxRecDepth 100000 in
set_option maxHeartbeats 2000000 in
theorem windowDigit_any (n W T : Int) (w : World) (hW : WT W T) (h1 : -1000000 ≤ n) (h2 : n ≤ 1000000) :
    Calls Try.prog 82 #[.int .i64 n, .int .i64 W] w fun e w' => e = .returned (.int .i64 (wdg T n)) ∧ w = w' := by
  by_cases h : n % 2 = 0
  · have h0 : n.tmod 2 = 0 := (tmod2 n).2 h
    have e : wdg T n = 0 := by simp [wdg, h]
    rw [e]
    clear h
    rcases hW with ⟨rfl, rfl⟩ | ⟨rfl, rfl⟩ | ⟨rfl, rfl⟩ | ⟨rfl, rfl⟩ | ⟨rfl, rfl⟩
    all_goals
      go_enter Try.func82, Try.ntmps82
      go_wp2
      go_ret
      exact ⟨rfl, rfl⟩
  · have h0 : ¬ n.tmod 2 = 0 := fun e => h ((tmod2 n).1 e)
    rcases hW with ⟨rfl, rfl⟩ | ⟨rfl, rfl⟩ | ⟨rfl, rfl⟩ | ⟨rfl, rfl⟩ | ⟨rfl, rfl⟩
    · have E := Lib.hid (show (n + 2) % 4 - 2 = wdg 4 n by unfold wdg; rw [if_neg h]; split <;> omega)
      have e1 : bits .and .i64 (n + 2) 3 = (n + 2) % 4 := bits_mask (n + 2) 2 (by omega)
      have hb : 0 ≤ (n + 2) % 4 ∧ (n + 2) % 4 < 4 := by omega
      obtain ⟨R, hR⟩ : ∃ R, (n + 2) % 4 = R := ⟨_, rfl⟩
      rw [hR] at E e1 hb
      obtain ⟨hb1, hb2⟩ := hb
      clear h hR
      go_enter Try.func82, Try.ntmps82
      go_wp2
      go_ret
      exact ⟨ret_int E.out, rfl⟩
    · have E := Lib.hid (show (n + 4) % 8 - 4 = wdg 8 n by unfold wdg; rw [if_neg h]; split <;> omega)
      have e1 : bits .and .i64 (n + 4) 7 = (n + 4) % 8 := bits_mask (n + 4) 3 (by omega)
      have hb : 0 ≤ (n + 4) % 8 ∧ (n + 4) % 8 < 8 := by omega
      obtain ⟨R, hR⟩ : ∃ R, (n + 4) % 8 = R := ⟨_, rfl⟩
      rw [hR] at E e1 hb
      obtain ⟨hb1, hb2⟩ := hb
      clear h hR
      go_enter Try.func82, Try.ntmps82
      go_wp2
      go_ret
      exact ⟨ret_int E.out, rfl⟩
    · have E := Lib.hid (show (n + 8) % 16 - 8 = wdg 16 n by unfold wdg; rw [if_neg h]; split <;> omega)
      have e1 : bits .and .i64 (n + 8) 15 = (n + 8) % 16 := bits_mask (n + 8) 4 (by omega)
      have hb : 0 ≤ (n + 8) % 16 ∧ (n + 8) % 16 < 16 := by omega
      obtain ⟨R, hR⟩ : ∃ R, (n + 8) % 16 = R := ⟨_, rfl⟩
      rw [hR] at E e1 hb
      obtain ⟨hb1, hb2⟩ := hb
      clear h hR
      go_enter Try.func82, Try.ntmps82
      go_wp2
      go_ret
      exact ⟨ret_int E.out, rfl⟩
    · have E := Lib.hid (show (n + 16) % 32 - 16 = wdg 32 n by unfold wdg; rw [if_neg h]; split <;> omega)
      have e1 : bits .and .i64 (n + 16) 31 = (n + 16) % 32 := bits_mask (n + 16) 5 (by omega)
      have hb : 0 ≤ (n + 16) % 32 ∧ (n + 16) % 32 < 32 := by omega
      obtain ⟨R, hR⟩ : ∃ R, (n + 16) % 32 = R := ⟨_, rfl⟩
      rw [hR] at E e1 hb
      obtain ⟨hb1, hb2⟩ := hb
      clear h hR
      go_enter Try.func82, Try.ntmps82
      go_wp2
      go_ret
      exact ⟨ret_int E.out, rfl⟩
    · have E := Lib.hid (show (n + 32) % 64 - 32 = wdg 64 n by unfold wdg; rw [if_neg h]; split <;> omega)
      have e1 : bits .and .i64 (n + 32) 63 = (n + 32) % 64 := bits_mask (n + 32) 6 (by omega)
      have hb : 0 ≤ (n + 32) % 64 ∧ (n + 32) % 64 < 64 := by omega
      obtain ⟨R, hR⟩ : ∃ R, (n + 32) % 64 = R := ⟨_, rfl⟩
      rw [hR] at E e1 hb
      obtain ⟨hb1, hb2⟩ := hb
      clear h hR
      go_enter Try.func82, Try.ntmps82
      go_wp2
      go_ret
      exact ⟨ret_int E.out, rfl⟩

set_option maxRecDepth 100000 in
set_option maxHeartbeats 4000000 in
theorem windowDigits_any (n W T : Int) (w : World) (hW : WT W T) (h1 : -1000000 ≤ n) (h2 : n ≤ 1000000) :
    Calls Try.prog 54 #[.int .i64 n, .int .i64 W] w fun e w' => ∃ A c, e = .returned (.slice A (wnD T n).length c) ∧ OwI w' w.heap.size (.slice A (wnD T n).length c) (wnD T n) ∧ Below w.heap.size w w' := by
  have HW := Lib.hid hW
  have HT := Lib.hid hW.tt
  obtain ⟨full, hf⟩ : ∃ q, wnD T n = q := ⟨_, rfl⟩
  have HF := Lib.hid hf
  rw [hf]
  clear hW hf
  go_enter Try.func54, Try.ntmps54
  go_wp2
  go_loopw [0, 5] (fun nv ov wr => ∃ (m : Int) (A1 : Option Addr) (c1 : Nat) (pre : List Int), nv = .int .i64 m ∧ ov = .slice A1 pre.length c1 ∧ OwI wr w.heap.size ov pre ∧ pre ++ wnD T m = full ∧ pre.length + m.natAbs ≤ 1000000 ∧ Below w.heap.size w wr) (fun nv _ _ => (intOf nv).natAbs)
  case atStart => exact ⟨n, none, 0, [], rfl, rfl, OwI.nil _ _, HF.out, by simp; omega, Below.refl _ _⟩
  case round =>
    obtain ⟨m, A1, c1, pre, rfl, rfl, hown, hq, hl, hbel⟩ := hrel
    have OWN := Lib.hid hown
    have BEL := Lib.hid hbel
    have Q := Lib.hid hq
    have hs := hbel.size
    clear hown hbel hq
    by_cases h0 : m = 0
    · have E := Lib.hid (show pre = full by have := Q.out; rwa [h0, wnD_zero, List.append_nil] at this)
      have i0 : (m != 0) = false := by simp [h0]
      clear h0
      go_wp2
      go_ret
      exact ⟨A1, c1, by rw [E.out]; rfl, by rw [← E.out]; exact OWN.out, BEL.out⟩
    · have i0 : (m != 0) = true := by simpa using h0
      have hm1 : -1000000 ≤ m := by omega
      have hm2 : m ≤ 1000000 := by omega
      have C := Lib.hid (fun W' => windowDigit_any m W T W' HW.out hm1 hm2)
      have hd := wdg_bd' (n := m) HT.out
      have hless := wdg_less (n := m) HT.out h0
      have hev := wdg_even (n := m) HT.out
      have Q2 := Lib.hid (show (pre ++ [wdg T m]) ++ wnD T ((m - wdg T m) / 2) = full by rw [← Q.out, wnD_step HT.out h0, List.append_assoc]; rfl)
      obtain ⟨d, hde⟩ : ∃ d, wdg T m = d := ⟨_, rfl⟩
      rw [hde] at C hd hless hev Q2
      have hq : (m - d).tdiv 2 = (m - d) / 2 := tdiv2 hev
      obtain ⟨H, hH⟩ : ∃ H, (m - d) / 2 = H := ⟨_, rfl⟩
      rw [hH] at hq hless Q2
      have hHb : -1000000 ≤ H ∧ H ≤ 1000000 := by omega
      have hl2 : pre.length + 1 + H.natAbs ≤ 1000000 := by omega
      have HL := Lib.hid hless
      have HL2 := Lib.hid hl2
      have hl1 : pre.length ≤ 999999 := by omega
      clear hH hev hde hless hl2 hl h0
      go_wp2_with (first
        | (go_at_call 82; refine (C.out _).mono ?_; rintro e w' ⟨rfl, rfl⟩)
        | (at_builtin; refine list_step (fun K hK => ?_); refine step_app_int rfl (.tmp 12) (.tmp 14) rfl w.heap.size pre.length _ pre rfl (OWN.out.alloc _) rfl wr.heap.size 1 d rfl (by simp) (by omega) (by simp; omega) ?_; intro A3 c3 w3 hown3 hg3 hbel3; go_simp; refine hK _ _ ?_; clear hK K))
      go_roundw
      case rel => exact ⟨H, A3, c3, pre ++ [d], rfl, by simp, by simpa using hown3, Q2.out, by simpa using HL2.out, (BEL.out.alloc hs _).trans hbel3⟩
      case measure => simpa [intOf] using HL.out
end Go.Proofs.Ytbohakifjmdoiaa
