/- The model's window digits; WindowDigits and SignedDigits of both programs. -/
import Derived.Test.YtbohakifjmdoiaaN9b
namespace Go.Proofs.Ytbohakifjmdoiaa
open Go.RowKit

theorem tmodP {n T R Q : Int} (hT : TT T) (hR : n.tmod T = R) (hQ : n % T = Q) : (-T < R ∧ R < T) ∧ 0 ≤ Q ∧ Q < T ∧ (R + T) % T = Q ∧ (R + T).tmod T = Q ∧ IntKind.i64.wrap (R + T) = R + T ∧ wrap64 (R + T) = R + T := by
  have h4 : T ∣ n - R := by rw [← hR]; exact ⟨n.tdiv T, by have := Int.mul_tdiv_add_tmod n T; omega⟩
  have h0 : 0 < T ∧ T ≤ 64 := by rcases hT with rfl | rfl | rfl | rfl | rfl <;> decide
  have h1 := Int.tmod_lt_of_pos n h0.1
  have h2 : -T < R := by
    rw [← hR]
    have := Int.tmod_lt_of_pos (-n) h0.1
    rw [Int.neg_tmod] at this
    omega
  have h3 : (R + T) % T = Q := by
    rw [Int.add_emod_right, ← hQ]
    obtain ⟨k, hk⟩ := h4
    rw [show n = R + T * k by omega, Int.add_mul_emod_self_left]
  have h5 := Int.emod_nonneg n (show T ≠ 0 by omega)
  have h6 := Int.emod_lt_of_pos n h0.1
  refine ⟨⟨h2, by omega⟩, by omega, by omega, h3, ?_, IntWalk.i64_in _ (by omega), IntWalk.wrap64_in _ (by omega)⟩
  rw [Int.tmod_eq_emod_of_nonneg (by omega)]
  exact h3
theorem wdg_odd' {T n : Int} (h : n % 2 ≠ 0) : wdg T n = if T / 2 < n % T then n % T - T else n % T := by unfold wdg; rw [if_neg h]

set_option maxRecDepth 100000 in
set_option maxHeartbeats 4000000 in
theorem siWindow2 (n : Int) (w : World) (h1 : -1000000 ≤ n) (h2 : n ≤ 1000000) :
    Calls Try.prog 51 #[.int .i64 n, .int .i64 2] w fun e w' => ∃ A c, e = .returned (.slice A (wnD 4 n).length c) ∧ OwI w' w.heap.size (.slice A (wnD 4 n).length c) (wnD 4 n) ∧ Below w.heap.size w w' := by
  have HT := Lib.hid (show TT 4 by simp [TT])
  obtain ⟨full, hf⟩ : ∃ q, wnD 4 n = q := ⟨_, rfl⟩
  have HF := Lib.hid hf
  rw [hf]
  clear hf
  go_enter Try.func51, Try.ntmps51
  go_wp2
  go_loopw [0, 5] (fun nv ov wr => ∃ (m : Int) (A1 : Option Addr) (c1 : Nat) (pre : List Int), nv = .int .i64 m ∧ ov = .slice A1 pre.length c1 ∧ OwI wr w.heap.size ov pre ∧ pre ++ wnD 4 m = full ∧ pre.length + m.natAbs ≤ 1000000 ∧ Below w.heap.size w wr) (fun nv _ _ => (intOf nv).natAbs)
  case atStart => exact ⟨n, none, 0, [], rfl, rfl, OwI.nil _ _, HF.out, by simp; omega, Below.refl _ _⟩
  case round =>
    obtain ⟨m, A1, c1, pre, rfl, rfl, hown, hq, hl, hbel⟩ := hrel
    have OWN := Lib.hid hown
    have BEL := Lib.hid hbel
    have Q := Lib.hid hq
    have hs := hbel.size
    clear hown hbel hq
    by_cases h0 : m = 0
    · have E := Lib.hid (show pre = full by have := Q.out; rwa [h0, wnD_zero, List.append_nil] at this)
      have i0 : (m != 0) = false := by simp [h0]
      clear h0
      go_wp2
      go_ret
      exact ⟨A1, c1, by rw [E.out]; rfl, by rw [← E.out]; exact OWN.out, BEL.out⟩
    · have i0 : (m != 0) = true := by simpa using h0
      have hm1 : -1000000 ≤ m := by omega
      have hm2 : m ≤ 1000000 := by omega
      have hd := wdg_bd' (n := m) HT.out
      have hless := wdg_less (n := m) HT.out h0
      have hev := wdg_even (n := m) HT.out
      have Q2 := Lib.hid (show (pre ++ [wdg 4 m]) ++ wnD 4 ((m - wdg 4 m) / 2) = full by rw [← Q.out, wnD_step HT.out h0, List.append_assoc]; rfl)
      by_cases ho : m % 2 = 0
      · have e0 : wdg 4 m = 0 := by simp [wdg, ho]
        rw [e0] at hd hless hev Q2
        rw [Int.sub_zero] at hless hev Q2
        have hq : m.tdiv 2 = m / 2 := tdiv2 hev
        obtain ⟨H, hH⟩ : ∃ H, m / 2 = H := ⟨_, rfl⟩
        rw [hH] at hq hless Q2
        have hHb : -1000000 ≤ H ∧ H ≤ 1000000 := by omega
        have hl2 : pre.length + 1 + H.natAbs ≤ 1000000 := by omega
        have HL := Lib.hid hless
        have HL2 := Lib.hid hl2
        have HO := Lib.hid (show decide (m % 2 ≠ 0) = false by simp [ho])
        have hl1 : pre.length ≤ 999999 := by omega
        clear hH hev e0 hless hl2 hl h0 ho
        go_wp2_with (first
          | (go_at_call 64; refine (siOdd_any _ _).mono ?_; rw [HO.out]; rintro e w' ⟨rfl, rfl⟩)
          | (at_builtin; refine list_step (fun K hK => ?_); refine step_app_int rfl (.tmp 28) (.tmp 30) rfl w.heap.size pre.length _ pre rfl (OWN.out.alloc _) rfl wr.heap.size 1 0 rfl (by simp) (by omega) (by simp; omega) ?_; intro A3 c3 w3 hown3 hg3 hbel3; go_simp; refine hK _ _ ?_; clear hK K))
        go_roundw
        case rel => exact ⟨H, A3, c3, pre ++ [0], rfl, by simp, by simpa using hown3, Q2.out, by simpa using HL2.out, (BEL.out.alloc hs _).trans hbel3⟩
        case measure => simpa [intOf] using HL.out
      · have e0 := wdg_odd' (T := 4) ho
        obtain ⟨R, hR⟩ : ∃ R, m.tmod 4 = R := ⟨_, rfl⟩
        obtain ⟨S, hS⟩ : ∃ S, m % 4 = S := ⟨_, rfl⟩
        obtain ⟨⟨r1, r2⟩, s1, s2, e1, e2, e3, e4⟩ := tmodP HT.out hR hS
        rw [hS] at e0
        have HO := Lib.hid (show decide (m % 2 ≠ 0) = true by simp [ho])
        have hl1 : pre.length ≤ 999999 := by omega
        rw [show (4 : Int) / 2 = 2 by decide] at e0
        by_cases hb : 2 < S
        · rw [if_pos hb] at e0
          rw [e0] at hd hless hev Q2
          obtain ⟨d, hde⟩ : ∃ d, S - 4 = d := ⟨_, rfl⟩
          rw [hde] at hd hless hev Q2
          have hq : (m - d).tdiv 2 = (m - d) / 2 := tdiv2 hev
          obtain ⟨H, hH⟩ : ∃ H, (m - d) / 2 = H := ⟨_, rfl⟩
          rw [hH] at hq hless Q2
          have hHb : -1000000 ≤ H ∧ H ≤ 1000000 := by omega
          have hl2 : pre.length + 1 + H.natAbs ≤ 1000000 := by omega
          have HL := Lib.hid hless
          have HL2 := Lib.hid hl2
          have e5 : IntKind.i64.wrap (S - 4) = d := by rw [hde]; exact IntWalk.i64_in _ (by omega)
          have e6 : wrap64 (S - 4) = d := by rw [hde]; exact IntWalk.wrap64_in _ (by omega)
          clear hH hev e0 hless hl2 hl h0 ho hS
          go_wp2_with (first
            | (go_at_call 64; refine (siOdd_any _ _).mono ?_; rw [HO.out]; rintro e w' ⟨rfl, rfl⟩)
            | (at_builtin; refine list_step (fun K hK => ?_); refine step_app_int rfl (.tmp 28) (.tmp 30) rfl w.heap.size pre.length _ pre rfl (OWN.out.alloc _) rfl wr.heap.size 1 d rfl (by simp) (by omega) (by simp; omega) ?_; intro A3 c3 w3 hown3 hg3 hbel3; go_simp; refine hK _ _ ?_; clear hK K))
          go_roundw
          case rel => exact ⟨H, A3, c3, pre ++ [d], rfl, by simp, by simpa using hown3, Q2.out, by simpa using HL2.out, (BEL.out.alloc hs _).trans hbel3⟩
          case measure => simpa [intOf] using HL.out
        · rw [if_neg hb] at e0
          rw [e0] at hd hless hev Q2
          have hq : (m - S).tdiv 2 = (m - S) / 2 := tdiv2 hev
          obtain ⟨H, hH⟩ : ∃ H, (m - S) / 2 = H := ⟨_, rfl⟩
          rw [hH] at hq hless Q2
          have hHb : -1000000 ≤ H ∧ H ≤ 1000000 := by omega
          have hl2 : pre.length + 1 + H.natAbs ≤ 1000000 := by omega
          have HL := Lib.hid hless
          have HL2 := Lib.hid hl2
          clear hH hev e0 hless hl2 hl h0 ho hS
          go_wp2_with (first
            | (go_at_call 64; refine (siOdd_any _ _).mono ?_; rw [HO.out]; rintro e w' ⟨rfl, rfl⟩)
            | (at_builtin; refine list_step (fun K hK => ?_); refine step_app_int rfl (.tmp 28) (.tmp 30) rfl w.heap.size pre.length _ pre rfl (OWN.out.alloc _) rfl wr.heap.size 1 S rfl (by simp) (by omega) (by simp; omega) ?_; intro A3 c3 w3 hown3 hg3 hbel3; go_simp; refine hK _ _ ?_; clear hK K))
          go_roundw
          case rel => exact ⟨H, A3, c3, pre ++ [S], rfl, by simp, by simpa using hown3, Q2.out, by simpa using HL2.out, (BEL.out.alloc hs _).trans hbel3⟩
          case measure => simpa [intOf] using HL.out

set_option maxRecDepth 100000 in
set_option maxHeartbeats 4000000 in
theorem siWindow3 (n : Int) (w : World) (h1 : -1000000 ≤ n) (h2 : n ≤ 1000000) :
    Calls Try.prog 51 #[.int .i64 n, .int .i64 3] w fun e w' => ∃ A c, e = .returned (.slice A (wnD 8 n).length c) ∧ OwI w' w.heap.size (.slice A (wnD 8 n).length c) (wnD 8 n) ∧ Below w.heap.size w w' := by
  have HT := Lib.hid (show TT 8 by simp [TT])
  obtain ⟨full, hf⟩ : ∃ q, wnD 8 n = q := ⟨_, rfl⟩
  have HF := Lib.hid hf
  rw [hf]
  clear hf
  go_enter Try.func51, Try.ntmps51
  go_wp2
  go_loopw [0, 5] (fun nv ov wr => ∃ (m : Int) (A1 : Option Addr) (c1 : Nat) (pre : List Int), nv = .int .i64 m ∧ ov = .slice A1 pre.length c1 ∧ OwI wr w.heap.size ov pre ∧ pre ++ wnD 8 m = full ∧ pre.length + m.natAbs ≤ 1000000 ∧ Below w.heap.size w wr) (fun nv _ _ => (intOf nv).natAbs)
  case atStart => exact ⟨n, none, 0, [], rfl, rfl, OwI.nil _ _, HF.out, by simp; omega, Below.refl _ _⟩
  case round =>
    obtain ⟨m, A1, c1, pre, rfl, rfl, hown, hq, hl, hbel⟩ := hrel
    have OWN := Lib.hid hown
    have BEL := Lib.hid hbel
    have Q := Lib.hid hq
    have hs := hbel.size
    clear hown hbel hq
    by_cases h0 : m = 0
    · have E := Lib.hid (show pre = full by have := Q.out; rwa [h0, wnD_zero, List.append_nil] at this)
      have i0 : (m != 0) = false := by simp [h0]
      clear h0
      go_wp2
      go_ret
      exact ⟨A1, c1, by rw [E.out]; rfl, by rw [← E.out]; exact OWN.out, BEL.out⟩
    · have i0 : (m != 0) = true := by simpa using h0
      have hm1 : -1000000 ≤ m := by omega
      have hm2 : m ≤ 1000000 := by omega
      have hd := wdg_bd' (n := m) HT.out
      have hless := wdg_less (n := m) HT.out h0
      have hev := wdg_even (n := m) HT.out
      have Q2 := Lib.hid (show (pre ++ [wdg 8 m]) ++ wnD 8 ((m - wdg 8 m) / 2) = full by rw [← Q.out, wnD_step HT.out h0, List.append_assoc]; rfl)
      by_cases ho : m % 2 = 0
      · have e0 : wdg 8 m = 0 := by simp [wdg, ho]
        rw [e0] at hd hless hev Q2
        rw [Int.sub_zero] at hless hev Q2
        have hq : m.tdiv 2 = m / 2 := tdiv2 hev
        obtain ⟨H, hH⟩ : ∃ H, m / 2 = H := ⟨_, rfl⟩
        rw [hH] at hq hless Q2
        have hHb : -1000000 ≤ H ∧ H ≤ 1000000 := by omega
        have hl2 : pre.length + 1 + H.natAbs ≤ 1000000 := by omega
        have HL := Lib.hid hless
        have HL2 := Lib.hid hl2
        have HO := Lib.hid (show decide (m % 2 ≠ 0) = false by simp [ho])
        have hl1 : pre.length ≤ 999999 := by omega
        clear hH hev e0 hless hl2 hl h0 ho
        go_wp2_with (first
          | (go_at_call 64; refine (siOdd_any _ _).mono ?_; rw [HO.out]; rintro e w' ⟨rfl, rfl⟩)
          | (at_builtin; refine list_step (fun K hK => ?_); refine step_app_int rfl (.tmp 28) (.tmp 30) rfl w.heap.size pre.length _ pre rfl (OWN.out.alloc _) rfl wr.heap.size 1 0 rfl (by simp) (by omega) (by simp; omega) ?_; intro A3 c3 w3 hown3 hg3 hbel3; go_simp; refine hK _ _ ?_; clear hK K))
        go_roundw
        case rel => exact ⟨H, A3, c3, pre ++ [0], rfl, by simp, by simpa using hown3, Q2.out, by simpa using HL2.out, (BEL.out.alloc hs _).trans hbel3⟩
        case measure => simpa [intOf] using HL.out
      · have e0 := wdg_odd' (T := 8) ho
        obtain ⟨R, hR⟩ : ∃ R, m.tmod 8 = R := ⟨_, rfl⟩
        obtain ⟨S, hS⟩ : ∃ S, m % 8 = S := ⟨_, rfl⟩
        obtain ⟨⟨r1, r2⟩, s1, s2, e1, e2, e3, e4⟩ := tmodP HT.out hR hS
        rw [hS] at e0
        have HO := Lib.hid (show decide (m % 2 ≠ 0) = true by simp [ho])
        have hl1 : pre.length ≤ 999999 := by omega
        rw [show (8 : Int) / 2 = 4 by decide] at e0
        by_cases hb : 4 < S
        · rw [if_pos hb] at e0
          rw [e0] at hd hless hev Q2
          obtain ⟨d, hde⟩ : ∃ d, S - 8 = d := ⟨_, rfl⟩
          rw [hde] at hd hless hev Q2
          have hq : (m - d).tdiv 2 = (m - d) / 2 := tdiv2 hev
          obtain ⟨H, hH⟩ : ∃ H, (m - d) / 2 = H := ⟨_, rfl⟩
          rw [hH] at hq hless Q2
          have hHb : -1000000 ≤ H ∧ H ≤ 1000000 := by omega
          have hl2 : pre.length + 1 + H.natAbs ≤ 1000000 := by omega
          have HL := Lib.hid hless
          have HL2 := Lib.hid hl2
          have e5 : IntKind.i64.wrap (S - 8) = d := by rw [hde]; exact IntWalk.i64_in _ (by omega)
          have e6 : wrap64 (S - 8) = d := by rw [hde]; exact IntWalk.wrap64_in _ (by omega)
          clear hH hev e0 hless hl2 hl h0 ho hS
          go_wp2_with (first
            | (go_at_call 64; refine (siOdd_any _ _).mono ?_; rw [HO.out]; rintro e w' ⟨rfl, rfl⟩)
            | (at_builtin; refine list_step (fun K hK => ?_); refine step_app_int rfl (.tmp 28) (.tmp 30) rfl w.heap.size pre.length _ pre rfl (OWN.out.alloc _) rfl wr.heap.size 1 d rfl (by simp) (by omega) (by simp; omega) ?_; intro A3 c3 w3 hown3 hg3 hbel3; go_simp; refine hK _ _ ?_; clear hK K))
          go_roundw
          case rel => exact ⟨H, A3, c3, pre ++ [d], rfl, by simp, by simpa using hown3, Q2.out, by simpa using HL2.out, (BEL.out.alloc hs _).trans hbel3⟩
          case measure => simpa [intOf] using HL.out
        · rw [if_neg hb] at e0
          rw [e0] at hd hless hev Q2
          have hq : (m - S).tdiv 2 = (m - S) / 2 := tdiv2 hev
          obtain ⟨H, hH⟩ : ∃ H, (m - S) / 2 = H := ⟨_, rfl⟩
          rw [hH] at hq hless Q2
          have hHb : -1000000 ≤ H ∧ H ≤ 1000000 := by omega
          have hl2 : pre.length + 1 + H.natAbs ≤ 1000000 := by omega
          have HL := Lib.hid hless
          have HL2 := Lib.hid hl2
          clear hH hev e0 hless hl2 hl h0 ho hS
          go_wp2_with (first
            | (go_at_call 64; refine (siOdd_any _ _).mono ?_; rw [HO.out]; rintro e w' ⟨rfl, rfl⟩)
            | (at_builtin; refine list_step (fun K hK => ?_); refine step_app_int rfl (.tmp 28) (.tmp 30) rfl w.heap.size pre.length _ pre rfl (OWN.out.alloc _) rfl wr.heap.size 1 S rfl (by simp) (by omega) (by simp; omega) ?_; intro A3 c3 w3 hown3 hg3 hbel3; go_simp; refine hK _ _ ?_; clear hK K))
          go_roundw
          case rel => exact ⟨H, A3, c3, pre ++ [S], rfl, by simp, by simpa using hown3, Q2.out, by simpa using HL2.out, (BEL.out.alloc hs _).trans hbel3⟩
          case measure => simpa [intOf] using HL.out

set_option maxRecDepth 100000 in
set_option maxHeartbeats 4000000 in
theorem siWindow4 (n : Int) (w : World) (h1 : -1000000 ≤ n) (h2 : n ≤ 1000000) :
    Calls Try.prog 51 #[.int .i64 n, .int .i64 4] w fun e w' => ∃ A c, e = .returned (.slice A (wnD 16 n).length c) ∧ OwI w' w.heap.size (.slice A (wnD 16 n).length c) (wnD 16 n) ∧ Below w.heap.size w w' := by
  have HT := Lib.hid (show TT 16 by simp [TT])
  obtain ⟨full, hf⟩ : ∃ q, wnD 16 n = q := ⟨_, rfl⟩
  have HF := Lib.hid hf
  rw [hf]
  clear hf
  go_enter Try.func51, Try.ntmps51
  go_wp2
  go_loopw [0, 5] (fun nv ov wr => ∃ (m : Int) (A1 : Option Addr) (c1 : Nat) (pre : List Int), nv = .int .i64 m ∧ ov = .slice A1 pre.length c1 ∧ OwI wr w.heap.size ov pre ∧ pre ++ wnD 16 m = full ∧ pre.length + m.natAbs ≤ 1000000 ∧ Below w.heap.size w wr) (fun nv _ _ => (intOf nv).natAbs)
  case atStart => exact ⟨n, none, 0, [], rfl, rfl, OwI.nil _ _, HF.out, by simp; omega, Below.refl _ _⟩
  case round =>
    obtain ⟨m, A1, c1, pre, rfl, rfl, hown, hq, hl, hbel⟩ := hrel
    have OWN := Lib.hid hown
    have BEL := Lib.hid hbel
    have Q := Lib.hid hq
    have hs := hbel.size
    clear hown hbel hq
    by_cases h0 : m = 0
    · have E := Lib.hid (show pre = full by have := Q.out; rwa [h0, wnD_zero, List.append_nil] at this)
      have i0 : (m != 0) = false := by simp [h0]
      clear h0
      go_wp2
      go_ret
      exact ⟨A1, c1, by rw [E.out]; rfl, by rw [← E.out]; exact OWN.out, BEL.out⟩
    · have i0 : (m != 0) = true := by simpa using h0
      have hm1 : -1000000 ≤ m := by omega
      have hm2 : m ≤ 1000000 := by omega
      have hd := wdg_bd' (n := m) HT.out
      have hless := wdg_less (n := m) HT.out h0
      have hev := wdg_even (n := m) HT.out
      have Q2 := Lib.hid (show (pre ++ [wdg 16 m]) ++ wnD 16 ((m - wdg 16 m) / 2) = full by rw [← Q.out, wnD_step HT.out h0, List.append_assoc]; rfl)
      by_cases ho : m % 2 = 0
      · have e0 : wdg 16 m = 0 := by simp [wdg, ho]
        rw [e0] at hd hless hev Q2
        rw [Int.sub_zero] at hless hev Q2
        have hq : m.tdiv 2 = m / 2 := tdiv2 hev
        obtain ⟨H, hH⟩ : ∃ H, m / 2 = H := ⟨_, rfl⟩
        rw [hH] at hq hless Q2
        have hHb : -1000000 ≤ H ∧ H ≤ 1000000 := by omega
        have hl2 : pre.length + 1 + H.natAbs ≤ 1000000 := by omega
        have HL := Lib.hid hless
        have HL2 := Lib.hid hl2
        have HO := Lib.hid (show decide (m % 2 ≠ 0) = false by simp [ho])
        have hl1 : pre.length ≤ 999999 := by omega
        clear hH hev e0 hless hl2 hl h0 ho
        go_wp2_with (first
          | (go_at_call 64; refine (siOdd_any _ _).mono ?_; rw [HO.out]; rintro e w' ⟨rfl, rfl⟩)
          | (at_builtin; refine list_step (fun K hK => ?_); refine step_app_int rfl (.tmp 28) (.tmp 30) rfl w.heap.size pre.length _ pre rfl (OWN.out.alloc _) rfl wr.heap.size 1 0 rfl (by simp) (by omega) (by simp; omega) ?_; intro A3 c3 w3 hown3 hg3 hbel3; go_simp; refine hK _ _ ?_; clear hK K))
        go_roundw
        case rel => exact ⟨H, A3, c3, pre ++ [0], rfl, by simp, by simpa using hown3, Q2.out, by simpa using HL2.out, (BEL.out.alloc hs _).trans hbel3⟩
        case measure => simpa [intOf] using HL.out
      · have e0 := wdg_odd' (T := 16) ho
        obtain ⟨R, hR⟩ : ∃ R, m.tmod 16 = R := ⟨_, rfl⟩
        obtain ⟨S, hS⟩ : ∃ S, m % 16 = S := ⟨_, rfl⟩
        obtain ⟨⟨r1, r2⟩, s1, s2, e1, e2, e3, e4⟩ := tmodP HT.out hR hS
        rw [hS] at e0
        have HO := Lib.hid (show decide (m % 2 ≠ 0) = true by simp [ho])
        have hl1 : pre.length ≤ 999999 := by omega
        rw [show (16 : Int) / 2 = 8 by decide] at e0
        by_cases hb : 8 < S
        · rw [if_pos hb] at e0
          rw [e0] at hd hless hev Q2
          obtain ⟨d, hde⟩ : ∃ d, S - 16 = d := ⟨_, rfl⟩
          rw [hde] at hd hless hev Q2
          have hq : (m - d).tdiv 2 = (m - d) / 2 := tdiv2 hev
          obtain ⟨H, hH⟩ : ∃ H, (m - d) / 2 = H := ⟨_, rfl⟩
          rw [hH] at hq hless Q2
          have hHb : -1000000 ≤ H ∧ H ≤ 1000000 := by omega
          have hl2 : pre.length + 1 + H.natAbs ≤ 1000000 := by omega
          have HL := Lib.hid hless
          have HL2 := Lib.hid hl2
          have e5 : IntKind.i64.wrap (S - 16) = d := by rw [hde]; exact IntWalk.i64_in _ (by omega)
          have e6 : wrap64 (S - 16) = d := by rw [hde]; exact IntWalk.wrap64_in _ (by omega)
          clear hH hev e0 hless hl2 hl h0 ho hS
          go_wp2_with (first
            | (go_at_call 64; refine (siOdd_any _ _).mono ?_; rw [HO.out]; rintro e w' ⟨rfl, rfl⟩)
            | (at_builtin; refine list_step (fun K hK => ?_); refine step_app_int rfl (.tmp 28) (.tmp 30) rfl w.heap.size pre.length _ pre rfl (OWN.out.alloc _) rfl wr.heap.size 1 d rfl (by simp) (by omega) (by simp; omega) ?_; intro A3 c3 w3 hown3 hg3 hbel3; go_simp; refine hK _ _ ?_; clear hK K))
          go_roundw
          case rel => exact ⟨H, A3, c3, pre ++ [d], rfl, by simp, by simpa using hown3, Q2.out, by simpa using HL2.out, (BEL.out.alloc hs _).trans hbel3⟩
          case measure => simpa [intOf] using HL.out
        · rw [if_neg hb] at e0
          rw [e0] at hd hless hev Q2
          have hq : (m - S).tdiv 2 = (m - S) / 2 := tdiv2 hev
          obtain ⟨H, hH⟩ : ∃ H, (m - S) / 2 = H := ⟨_, rfl⟩
          rw [hH] at hq hless Q2
          have hHb : -1000000 ≤ H ∧ H ≤ 1000000 := by omega
          have hl2 : pre.length + 1 + H.natAbs ≤ 1000000 := by omega
          have HL := Lib.hid hless
          have HL2 := Lib.hid hl2
          clear hH hev e0 hless hl2 hl h0 ho hS
          go_wp2_with (first
            | (go_at_call 64; refine (siOdd_any _ _).mono ?_; rw [HO.out]; rintro e w' ⟨rfl, rfl⟩)
            | (at_builtin; refine list_step (fun K hK => ?_); refine step_app_int rfl (.tmp 28) (.tmp 30) rfl w.heap.size pre.length _ pre rfl (OWN.out.alloc _) rfl wr.heap.size 1 S rfl (by simp) (by omega) (by simp; omega) ?_; intro A3 c3 w3 hown3 hg3 hbel3; go_simp; refine hK _ _ ?_; clear hK K))
          go_roundw
          case rel => exact ⟨H, A3, c3, pre ++ [S], rfl, by simp, by simpa using hown3, Q2.out, by simpa using HL2.out, (BEL.out.alloc hs _).trans hbel3⟩
          case measure => simpa [intOf] using HL.out

set_option maxRecDepth 100000 in
set_option maxHeartbeats 4000000 in
theorem siWindow5 (n : Int) (w : World) (h1 : -1000000 ≤ n) (h2 : n ≤ 1000000) :
    Calls Try.prog 51 #[.int .i64 n, .int .i64 5] w fun e w' => ∃ A c, e = .returned (.slice A (wnD 32 n).length c) ∧ OwI w' w.heap.size (.slice A (wnD 32 n).length c) (wnD 32 n) ∧ Below w.heap.size w w' := by
  have HT := Lib.hid (show TT 32 by simp [TT])
  obtain ⟨full, hf⟩ : ∃ q, wnD 32 n = q := ⟨_, rfl⟩
  have HF := Lib.hid hf
  rw [hf]
  clear hf
  go_enter Try.func51, Try.ntmps51
  go_wp2
  go_loopw [0, 5] (fun nv ov wr => ∃ (m : Int) (A1 : Option Addr) (c1 : Nat) (pre : List Int), nv = .int .i64 m ∧ ov = .slice A1 pre.length c1 ∧ OwI wr w.heap.size ov pre ∧ pre ++ wnD 32 m = full ∧ pre.length + m.natAbs ≤ 1000000 ∧ Below w.heap.size w wr) (fun nv _ _ => (intOf nv).natAbs)
  case atStart => exact ⟨n, none, 0, [], rfl, rfl, OwI.nil _ _, HF.out, by simp; omega, Below.refl _ _⟩
  case round =>
    obtain ⟨m, A1, c1, pre, rfl, rfl, hown, hq, hl, hbel⟩ := hrel
    have OWN := Lib.hid hown
    have BEL := Lib.hid hbel
    have Q := Lib.hid hq
    have hs := hbel.size
    clear hown hbel hq
    by_cases h0 : m = 0
    · have E := Lib.hid (show pre = full by have := Q.out; rwa [h0, wnD_zero, List.append_nil] at this)
      have i0 : (m != 0) = false := by simp [h0]
      clear h0
      go_wp2
      go_ret
      exact ⟨A1, c1, by rw [E.out]; rfl, by rw [← E.out]; exact OWN.out, BEL.out⟩
    · have i0 : (m != 0) = true := by simpa using h0
      have hm1 : -1000000 ≤ m := by omega
      have hm2 : m ≤ 1000000 := by omega
      have hd := wdg_bd' (n := m) HT.out
      have hless := wdg_less (n := m) HT.out h0
      have hev := wdg_even (n := m) HT.out
      have Q2 := Lib.hid (show (pre ++ [wdg 32 m]) ++ wnD 32 ((m - wdg 32 m) / 2) = full by rw [← Q.out, wnD_step HT.out h0, List.append_assoc]; rfl)
      by_cases ho : m % 2 = 0
      · have e0 : wdg 32 m = 0 := by simp [wdg, ho]
        rw [e0] at hd hless hev Q2
        rw [Int.sub_zero] at hless hev Q2
        have hq : m.tdiv 2 = m / 2 := tdiv2 hev
        obtain ⟨H, hH⟩ : ∃ H, m / 2 = H := ⟨_, rfl⟩
        rw [hH] at hq hless Q2
        have hHb : -1000000 ≤ H ∧ H ≤ 1000000 := by omega
        have hl2 : pre.length + 1 + H.natAbs ≤ 1000000 := by omega
        have HL := Lib.hid hless
        have HL2 := Lib.hid hl2
        have HO := Lib.hid (show decide (m % 2 ≠ 0) = false by simp [ho])
        have hl1 : pre.length ≤ 999999 := by omega
        clear hH hev e0 hless hl2 hl h0 ho
        go_wp2_with (first
          | (go_at_call 64; refine (siOdd_any _ _).mono ?_; rw [HO.out]; rintro e w' ⟨rfl, rfl⟩)
          | (at_builtin; refine list_step (fun K hK => ?_); refine step_app_int rfl (.tmp 28) (.tmp 30) rfl w.heap.size pre.length _ pre rfl (OWN.out.alloc _) rfl wr.heap.size 1 0 rfl (by simp) (by omega) (by simp; omega) ?_; intro A3 c3 w3 hown3 hg3 hbel3; go_simp; refine hK _ _ ?_; clear hK K))
        go_roundw
        case rel => exact ⟨H, A3, c3, pre ++ [0], rfl, by simp, by simpa using hown3, Q2.out, by simpa using HL2.out, (BEL.out.alloc hs _).trans hbel3⟩
        case measure => simpa [intOf] using HL.out
      · have e0 := wdg_odd' (T := 32) ho
        obtain ⟨R, hR⟩ : ∃ R, m.tmod 32 = R := ⟨_, rfl⟩
        obtain ⟨S, hS⟩ : ∃ S, m % 32 = S := ⟨_, rfl⟩
        obtain ⟨⟨r1, r2⟩, s1, s2, e1, e2, e3, e4⟩ := tmodP HT.out hR hS
        rw [hS] at e0
        have HO := Lib.hid (show decide (m % 2 ≠ 0) = true by simp [ho])
        have hl1 : pre.length ≤ 999999 := by omega
        rw [show (32 : Int) / 2 = 16 by decide] at e0
        by_cases hb : 16 < S
        · rw [if_pos hb] at e0
          rw [e0] at hd hless hev Q2
          obtain ⟨d, hde⟩ : ∃ d, S - 32 = d := ⟨_, rfl⟩
          rw [hde] at hd hless hev Q2
          have hq : (m - d).tdiv 2 = (m - d) / 2 := tdiv2 hev
          obtain ⟨H, hH⟩ : ∃ H, (m - d) / 2 = H := ⟨_, rfl⟩
          rw [hH] at hq hless Q2
          have hHb : -1000000 ≤ H ∧ H ≤ 1000000 := by omega
          have hl2 : pre.length + 1 + H.natAbs ≤ 1000000 := by omega
          have HL := Lib.hid hless
          have HL2 := Lib.hid hl2
          have e5 : IntKind.i64.wrap (S - 32) = d := by rw [hde]; exact IntWalk.i64_in _ (by omega)
          have e6 : wrap64 (S - 32) = d := by rw [hde]; exact IntWalk.wrap64_in _ (by omega)
          clear hH hev e0 hless hl2 hl h0 ho hS
          go_wp2_with (first
            | (go_at_call 64; refine (siOdd_any _ _).mono ?_; rw [HO.out]; rintro e w' ⟨rfl, rfl⟩)
            | (at_builtin; refine list_step (fun K hK => ?_); refine step_app_int rfl (.tmp 28) (.tmp 30) rfl w.heap.size pre.length _ pre rfl (OWN.out.alloc _) rfl wr.heap.size 1 d rfl (by simp) (by omega) (by simp; omega) ?_; intro A3 c3 w3 hown3 hg3 hbel3; go_simp; refine hK _ _ ?_; clear hK K))
          go_roundw
          case rel => exact ⟨H, A3, c3, pre ++ [d], rfl, by simp, by simpa using hown3, Q2.out, by simpa using HL2.out, (BEL.out.alloc hs _).trans hbel3⟩
          case measure => simpa [intOf] using HL.out
        · rw [if_neg hb] at e0
          rw [e0] at hd hless hev Q2
          have hq : (m - S).tdiv 2 = (m - S) / 2 := tdiv2 hev
          obtain ⟨H, hH⟩ : ∃ H, (m - S) / 2 = H := ⟨_, rfl⟩
          rw [hH] at hq hless Q2
          have hHb : -1000000 ≤ H ∧ H ≤ 1000000 := by omega
          have hl2 : pre.length + 1 + H.natAbs ≤ 1000000 := by omega
          have HL := Lib.hid hless
          have HL2 := Lib.hid hl2
          clear hH hev e0 hless hl2 hl h0 ho hS
          go_wp2_with (first
            | (go_at_call 64; refine (siOdd_any _ _).mono ?_; rw [HO.out]; rintro e w' ⟨rfl, rfl⟩)
            | (at_builtin; refine list_step (fun K hK => ?_); refine step_app_int rfl (.tmp 28) (.tmp 30) rfl w.heap.size pre.length _ pre rfl (OWN.out.alloc _) rfl wr.heap.size 1 S rfl (by simp) (by omega) (by simp; omega) ?_; intro A3 c3 w3 hown3 hg3 hbel3; go_simp; refine hK _ _ ?_; clear hK K))
          go_roundw
          case rel => exact ⟨H, A3, c3, pre ++ [S], rfl, by simp, by simpa using hown3, Q2.out, by simpa using HL2.out, (BEL.out.alloc hs _).trans hbel3⟩
          case measure => simpa [intOf] using HL.out

set_option maxRecDepth 100000 in
set_option maxHeartbeats 4000000 in
theorem siWindow6 (n : Int) (w : World) (h1 : -1000000 ≤ n) (h2 : n ≤ 1000000) :
    Calls Try.prog 51 #[.int .i64 n, .int .i64 6] w fun e w' => ∃ A c, e = .returned (.slice A (wnD 64 n).length c) ∧ OwI w' w.heap.size (.slice A (wnD 64 n).length c) (wnD 64 n) ∧ Below w.heap.size w w' := by
  have HT := Lib.hid (show TT 64 by simp [TT])
  obtain ⟨full, hf⟩ : ∃ q, wnD 64 n = q := ⟨_, rfl⟩
  have HF := Lib.hid hf
  rw [hf]
  clear hf
  go_enter Try.func51, Try.ntmps51
  go_wp2
  go_loopw [0, 5] (fun nv ov wr => ∃ (m : Int) (A1 : Option Addr) (c1 : Nat) (pre : List Int), nv = .int .i64 m ∧ ov = .slice A1 pre.length c1 ∧ OwI wr w.heap.size ov pre ∧ pre ++ wnD 64 m = full ∧ pre.length + m.natAbs ≤ 1000000 ∧ Below w.heap.size w wr) (fun nv _ _ => (intOf nv).natAbs)
  case atStart => exact ⟨n, none, 0, [], rfl, rfl, OwI.nil _ _, HF.out, by simp; omega, Below.refl _ _⟩
  case round =>
    obtain ⟨m, A1, c1, pre, rfl, rfl, hown, hq, hl, hbel⟩ := hrel
    have OWN := Lib.hid hown
    have BEL := Lib.hid hbel
    have Q := Lib.hid hq
    have hs := hbel.size
    clear hown hbel hq
    by_cases h0 : m = 0
    · have E := Lib.hid (show pre = full by have := Q.out; rwa [h0, wnD_zero, List.append_nil] at this)
      have i0 : (m != 0) = false := by simp [h0]
      clear h0
      go_wp2
      go_ret
      exact ⟨A1, c1, by rw [E.out]; rfl, by rw [← E.out]; exact OWN.out, BEL.out⟩
    · have i0 : (m != 0) = true := by simpa using h0
      have hm1 : -1000000 ≤ m := by omega
      have hm2 : m ≤ 1000000 := by omega
      have hd := wdg_bd' (n := m) HT.out
      have hless := wdg_less (n := m) HT.out h0
      have hev := wdg_even (n := m) HT.out
      have Q2 := Lib.hid (show (pre ++ [wdg 64 m]) ++ wnD 64 ((m - wdg 64 m) / 2) = full by rw [← Q.out, wnD_step HT.out h0, List.append_assoc]; rfl)
      by_cases ho : m % 2 = 0
      · have e0 : wdg 64 m = 0 := by simp [wdg, ho]
        rw [e0] at hd hless hev Q2
        rw [Int.sub_zero] at hless hev Q2
        have hq : m.tdiv 2 = m / 2 := tdiv2 hev
        obtain ⟨H, hH⟩ : ∃ H, m / 2 = H := ⟨_, rfl⟩
        rw [hH] at hq hless Q2
        have hHb : -1000000 ≤ H ∧ H ≤ 1000000 := by omega
        have hl2 : pre.length + 1 + H.natAbs ≤ 1000000 := by omega
        have HL := Lib.hid hless
        have HL2 := Lib.hid hl2
        have HO := Lib.hid (show decide (m % 2 ≠ 0) = false by simp [ho])
        have hl1 : pre.length ≤ 999999 := by omega
        clear hH hev e0 hless hl2 hl h0 ho
        go_wp2_with (first
          | (go_at_call 64; refine (siOdd_any _ _).mono ?_; rw [HO.out]; rintro e w' ⟨rfl, rfl⟩)
          | (at_builtin; refine list_step (fun K hK => ?_); refine step_app_int rfl (.tmp 28) (.tmp 30) rfl w.heap.size pre.length _ pre rfl (OWN.out.alloc _) rfl wr.heap.size 1 0 rfl (by simp) (by omega) (by simp; omega) ?_; intro A3 c3 w3 hown3 hg3 hbel3; go_simp; refine hK _ _ ?_; clear hK K))
        go_roundw
        case rel => exact ⟨H, A3, c3, pre ++ [0], rfl, by simp, by simpa using hown3, Q2.out, by simpa using HL2.out, (BEL.out.alloc hs _).trans hbel3⟩
        case measure => simpa [intOf] using HL.out
      · have e0 := wdg_odd' (T := 64) ho
        obtain ⟨R, hR⟩ : ∃ R, m.tmod 64 = R := ⟨_, rfl⟩
        obtain ⟨S, hS⟩ : ∃ S, m % 64 = S := ⟨_, rfl⟩
        obtain ⟨⟨r1, r2⟩, s1, s2, e1, e2, e3, e4⟩ := tmodP HT.out hR hS
        rw [hS] at e0
        have HO := Lib.hid (show decide (m % 2 ≠ 0) = true by simp [ho])
        have hl1 : pre.length ≤ 999999 := by omega
        rw [show (64 : Int) / 2 = 32 by decide] at e0
        by_cases hb : 32 < S
        · rw [if_pos hb] at e0
          rw [e0] at hd hless hev Q2
          obtain ⟨d, hde⟩ : ∃ d, S - 64 = d := ⟨_, rfl⟩
          rw [hde] at hd hless hev Q2
          have hq : (m - d).tdiv 2 = (m - d) / 2 := tdiv2 hev
          obtain ⟨H, hH⟩ : ∃ H, (m - d) / 2 = H := ⟨_, rfl⟩
          rw [hH] at hq hless Q2
          have hHb : -1000000 ≤ H ∧ H ≤ 1000000 := by omega
          have hl2 : pre.length + 1 + H.natAbs ≤ 1000000 := by omega
          have HL := Lib.hid hless
          have HL2 := Lib.hid hl2
          have e5 : IntKind.i64.wrap (S - 64) = d := by rw [hde]; exact IntWalk.i64_in _ (by omega)
          have e6 : wrap64 (S - 64) = d := by rw [hde]; exact IntWalk.wrap64_in _ (by omega)
          clear hH hev e0 hless hl2 hl h0 ho hS
          go_wp2_with (first
            | (go_at_call 64; refine (siOdd_any _ _).mono ?_; rw [HO.out]; rintro e w' ⟨rfl, rfl⟩)
            | (at_builtin; refine list_step (fun K hK => ?_); refine step_app_int rfl (.tmp 28) (.tmp 30) rfl w.heap.size pre.length _ pre rfl (OWN.out.alloc _) rfl wr.heap.size 1 d rfl (by simp) (by omega) (by simp; omega) ?_; intro A3 c3 w3 hown3 hg3 hbel3; go_simp; refine hK _ _ ?_; clear hK K))
          go_roundw
          case rel => exact ⟨H, A3, c3, pre ++ [d], rfl, by simp, by simpa using hown3, Q2.out, by simpa using HL2.out, (BEL.out.alloc hs _).trans hbel3⟩
          case measure => simpa [intOf] using HL.out
        · rw [if_neg hb] at e0
          rw [e0] at hd hless hev Q2
          have hq : (m - S).tdiv 2 = (m - S) / 2 := tdiv2 hev
          obtain ⟨H, hH⟩ : ∃ H, (m - S) / 2 = H := ⟨_, rfl⟩
          rw [hH] at hq hless Q2
          have hHb : -1000000 ≤ H ∧ H ≤ 1000000 := by omega
          have hl2 : pre.length + 1 + H.natAbs ≤ 1000000 := by omega
          have HL := Lib.hid hless
          have HL2 := Lib.hid hl2
          clear hH hev e0 hless hl2 hl h0 ho hS
          go_wp2_with (first
            | (go_at_call 64; refine (siOdd_any _ _).mono ?_; rw [HO.out]; rintro e w' ⟨rfl, rfl⟩)
            | (at_builtin; refine list_step (fun K hK => ?_); refine step_app_int rfl (.tmp 28) (.tmp 30) rfl w.heap.size pre.length _ pre rfl (OWN.out.alloc _) rfl wr.heap.size 1 S rfl (by simp) (by omega) (by simp; omega) ?_; intro A3 c3 w3 hown3 hg3 hbel3; go_simp; refine hK _ _ ?_; clear hK K))
          go_roundw
          case rel => exact ⟨H, A3, c3, pre ++ [S], rfl, by simp, by simpa using hown3, Q2.out, by simpa using HL2.out, (BEL.out.alloc hs _).trans hbel3⟩
          case measure => simpa [intOf] using HL.out

theorem siWindow_any (n W T : Int) (w : World) (hW : WT W T) (h1 : -1000000 ≤ n) (h2 : n ≤ 1000000) :
    Calls Try.prog 51 #[.int .i64 n, .int .i64 W] w fun e w' => ∃ A c, e = .returned (.slice A (wnD T n).length c) ∧ OwI w' w.heap.size (.slice A (wnD T n).length c) (wnD T n) ∧ Below w.heap.size w w' := by
  rcases hW with ⟨rfl, rfl⟩ | ⟨rfl, rfl⟩ | ⟨rfl, rfl⟩ | ⟨rfl, rfl⟩ | ⟨rfl, rfl⟩
  · exact siWindow2 n w h1 h2
  · exact siWindow3 n w h1 h2
  · exact siWindow4 n w h1 h2
  · exact siWindow5 n w h1 h2
  · exact siWindow6 n w h1 h2
def wdB (x y : Int) : Bool := isN9 x && inB y 2 6
def wdR (x y : Int) : List Int := if wdB x y then wnD (pwT y) x else []
theorem isN9_rng {n : Int} (h : isN9 n = true) : -1000000 ≤ n ∧ n ≤ 1000000 := by simpa [isN9, inB] using h
theorem wdR_le (x y : Int) : (wdR x y).length ≤ 1000 := by
  unfold wdR
  split
  · rename_i h
    unfold wdB at h
    obtain ⟨h1, h2⟩ := Bool.and_eq_true_iff.1 h
    have := isN9_rng h1
    have := wnD_len28 (pwT_ok h2).tt (n := x) (by omega)
    omega
  · simp
theorem wdR_false {x y : Int} (h : wdB x y = false) : wdR x y = [] := by unfold wdR; rw [h]; rfl
theorem wdR_true {x y : Int} (h : wdB x y = true) : wdR x y = wnD (pwT y) x := by unfold wdR; rw [if_pos h]
def sdB (x : Int) : Bool := isN9 x
def sdR (x : Int) : List Int := if sdB x then wnD 4 x else []
theorem wdB2 (x : Int) : wdB x 2 = sdB x := by unfold wdB sdB; simp [inB]
theorem wdR2 (x : Int) : wdR x 2 = sdR x := by unfold wdR sdR; rw [wdB2]; rfl
theorem sdR_le (x : Int) : (sdR x).length ≤ 1000 := by rw [← wdR2]; exact wdR_le x 2

set_option maxHeartbeats 1000000 in
theorem specWindowDigits_any (x y : Int) (w : World) :
    Calls Try.prog 15 #[.int .i64 x, .int .i64 y] w fun e w' =>
      ∃ A' c', e = .returned (.tuple #[.slice A' (wdR x y).length c', .bool (wdB x y)]) ∧ OwI w' w.heap.size (.slice A' (wdR x y).length c') (wdR x y) ∧ Below w.heap.size w w' := by
  obtain ⟨g1, h1⟩ : ∃ g, isN9 x = g := ⟨_, rfl⟩
  obtain ⟨g2, h2⟩ : ∃ g, inB y 2 6 = g := ⟨_, rfl⟩
  have EB := Lib.hid (show wdB x y = (g1 && g2) by unfold wdB; rw [h1, h2])
  have H1 := Lib.hid h1
  have H2 := Lib.hid h2
  cases g1 with
  | false =>
    have ER := Lib.hid (wdR_false EB.out)
    clear h1 h2
    go_enter Try.func15, Try.ntmps15
    go_wp2_with (go_at_call 49; refine (siNumber_any _ _).mono ?_; rw [H1.out]; rintro e w' ⟨rfl, rfl⟩)
    go_ret2
    exact ⟨none, 0, by rw [ER.out, EB.out]; rfl, by rw [ER.out]; exact OwI.nil _ _, Below.refl _ _⟩
  | true =>
  cases g2 with
  | false =>
    have ER := Lib.hid (wdR_false EB.out)
    clear h1 h2
    go_enter Try.func15, Try.ntmps15
    go_wp2_with (first
      | (go_at_call 49; refine (siNumber_any _ _).mono ?_; rw [H1.out]; rintro e w' ⟨rfl, rfl⟩)
      | (go_at_call 50; refine (siWidth_any _ _).mono ?_; rw [H2.out]; rintro e w' ⟨rfl, rfl⟩))
    go_ret2
    exact ⟨none, 0, by rw [ER.out, EB.out]; rfl, by rw [ER.out]; exact OwI.nil _ _, Below.refl _ _⟩
  | true =>
    have ER := wdR_true EB.out
    have ⟨r1, r2⟩ := isN9_rng h1
    have HD := Lib.hid (siWindow_any x y (pwT y) w (pwT_ok h2) r1 r2)
    have HR := Lib.hid ER
    clear h1 h2 ER r1 r2
    go_enter Try.func15, Try.ntmps15
    go_wp2_with (first
      | (go_at_call 49; refine (siNumber_any _ _).mono ?_; rw [H1.out]; rintro e w' ⟨rfl, rfl⟩)
      | (go_at_call 50; refine (siWidth_any _ _).mono ?_; rw [H2.out]; rintro e w' ⟨rfl, rfl⟩)
      | (go_at_call 51; refine HD.out.mono ?_; rintro e w2 ⟨A, c, rfl, ho, hb⟩))
    go_ret2
    exact ⟨A, c, by rw [HR.out, EB.out]; rfl, by rw [HR.out]; exact ho, hb⟩

set_option maxHeartbeats 1000000 in
theorem implWindowDigits_any (x y : Int) (w : World) :
    Calls Try.prog 16 #[.int .i64 x, .int .i64 y] w fun e w' =>
      ∃ A' c', e = .returned (.tuple #[.slice A' (wdR x y).length c', .bool (wdB x y)]) ∧ OwI w' w.heap.size (.slice A' (wdR x y).length c') (wdR x y) ∧ Below w.heap.size w w' := by
  obtain ⟨g1, h1⟩ : ∃ g, isN9 x = g := ⟨_, rfl⟩
  obtain ⟨g2, h2⟩ : ∃ g, inB y 2 6 = g := ⟨_, rfl⟩
  have EB := Lib.hid (show wdB x y = (g1 && g2) by unfold wdB; rw [h1, h2])
  have H1 := Lib.hid h1
  have H2 := Lib.hid h2
  cases g1 with
  | false =>
    have ER := Lib.hid (wdR_false EB.out)
    clear h1 h2
    go_enter Try.func16, Try.ntmps16
    go_wp2_with (go_at_call 52; refine (isSignedNumber_any _ _).mono ?_; rw [H1.out]; rintro e w' ⟨rfl, rfl⟩)
    go_ret2
    exact ⟨none, 0, by rw [ER.out, EB.out]; rfl, by rw [ER.out]; exact OwI.nil _ _, Below.refl _ _⟩
  | true =>
  cases g2 with
  | false =>
    have ER := Lib.hid (wdR_false EB.out)
    clear h1 h2
    go_enter Try.func16, Try.ntmps16
    go_wp2_with (first
      | (go_at_call 52; refine (isSignedNumber_any _ _).mono ?_; rw [H1.out]; rintro e w' ⟨rfl, rfl⟩)
      | (go_at_call 53; refine (isWindowWidth_any _ _).mono ?_; rw [H2.out]; rintro e w' ⟨rfl, rfl⟩))
    go_ret2
    exact ⟨none, 0, by rw [ER.out, EB.out]; rfl, by rw [ER.out]; exact OwI.nil _ _, Below.refl _ _⟩
  | true =>
    have ER := wdR_true EB.out
    have ⟨r1, r2⟩ := isN9_rng h1
    have HD := Lib.hid (windowDigits_any x y (pwT y) w (pwT_ok h2) r1 r2)
    have HR := Lib.hid ER
    clear h1 h2 ER r1 r2
    go_enter Try.func16, Try.ntmps16
    go_wp2_with (first
      | (go_at_call 52; refine (isSignedNumber_any _ _).mono ?_; rw [H1.out]; rintro e w' ⟨rfl, rfl⟩)
      | (go_at_call 53; refine (isWindowWidth_any _ _).mono ?_; rw [H2.out]; rintro e w' ⟨rfl, rfl⟩)
      | (go_at_call 54; refine HD.out.mono ?_; rintro e w2 ⟨A, c, rfl, ho, hb⟩))
    go_ret2
    exact ⟨A, c, by rw [HR.out, EB.out]; rfl, by rw [HR.out]; exact ho, hb⟩

set_option maxHeartbeats 1000000 in
theorem specSignedDigits_any (x : Int) (w : World) :
    Calls Try.prog 20 #[.int .i64 x] w fun e w' =>
      ∃ A' c', e = .returned (.tuple #[.slice A' (sdR x).length c', .bool (sdB x)]) ∧ OwI w' w.heap.size (.slice A' (sdR x).length c') (sdR x) ∧ Below w.heap.size w w' := by
  obtain ⟨g1, h1⟩ : ∃ g, isN9 x = g := ⟨_, rfl⟩
  have EB := Lib.hid (show sdB x = g1 from h1)
  have H1 := Lib.hid h1
  cases g1 with
  | false =>
    have ER := Lib.hid (show sdR x = [] by unfold sdR; rw [EB.out]; rfl)
    clear h1
    go_enter Try.func20, Try.ntmps20
    go_wp2_with (go_at_call 49; refine (siNumber_any _ _).mono ?_; rw [H1.out]; rintro e w' ⟨rfl, rfl⟩)
    go_ret2
    exact ⟨none, 0, by rw [ER.out, EB.out]; rfl, by rw [ER.out]; exact OwI.nil _ _, Below.refl _ _⟩
  | true =>
    have ER := Lib.hid (show sdR x = wnD 4 x by unfold sdR; rw [EB.out]; rfl)
    have ⟨r1, r2⟩ := isN9_rng h1
    have HD := Lib.hid (siWindow2 x w r1 r2)
    clear h1 r1 r2
    go_enter Try.func20, Try.ntmps20
    go_wp2_with (first
      | (go_at_call 49; refine (siNumber_any _ _).mono ?_; rw [H1.out]; rintro e w' ⟨rfl, rfl⟩)
      | (go_at_call 51; refine HD.out.mono ?_; rintro e w2 ⟨A, c, rfl, ho, hb⟩))
    go_ret2
    exact ⟨A, c, by rw [ER.out, EB.out]; rfl, by rw [ER.out]; exact ho, hb⟩
set_option maxHeartbeats 1000000 in
theorem implSignedDigits_any (x : Int) (w : World) :
    Calls Try.prog 21 #[.int .i64 x] w fun e w' =>
      ∃ A' c', e = .returned (.tuple #[.slice A' (sdR x).length c', .bool (sdB x)]) ∧ OwI w' w.heap.size (.slice A' (sdR x).length c') (sdR x) ∧ Below w.heap.size w w' := by
  have HD := implWindowDigits_any x 2 w
  rw [wdR2, wdB2] at HD
  have HD := Lib.hid HD
  go_enter Try.func21, Try.ntmps21
  go_wp2_with (go_at_call 16; refine HD.out.mono ?_; rintro e w2 ⟨A, c, rfl, ho, hb⟩)
  go_ret2
  exact ⟨A, c, rfl, ho, hb⟩
theorem specWindowDigits9 (B : Nat) (x y : Int) (w : World) (_ : B ≤ w.heap.size) :
    Calls Try.prog 15 #[.int .i64 x, .int .i64 y] w fun e w' =>
      ∃ A' c', e = .returned (.tuple #[.slice A' (wdR x y).length c', .bool (wdB x y)]) ∧ OwI w' w.heap.size (.slice A' (wdR x y).length c') (wdR x y) ∧ Below w.heap.size w w' := specWindowDigits_any x y w
theorem specSignedDigits9 (B : Nat) (x : Int) (w : World) (_ : B ≤ w.heap.size) :
    Calls Try.prog 20 #[.int .i64 x] w fun e w' =>
      ∃ A' c', e = .returned (.tuple #[.slice A' (sdR x).length c', .bool (sdB x)]) ∧ OwI w' w.heap.size (.slice A' (sdR x).length c') (sdR x) ∧ Below w.heap.size w w' := specSignedDigits_any x w
theorem implWindowDigits9 (B : Nat) (x y : Int) (w : World) (_ : B ≤ w.heap.size) :
    Calls Try.prog 16 #[.int .i64 x, .int .i64 y] w fun e w' =>
      ∃ A' c', e = .returned (.tuple #[.slice A' (wdR x y).length c', .bool (wdB x y)]) ∧ OwI w' w.heap.size (.slice A' (wdR x y).length c') (wdR x y) ∧ Below w.heap.size w w' := implWindowDigits_any x y w
theorem implSignedDigits9 (B : Nat) (x : Int) (w : World) (_ : B ≤ w.heap.size) :
    Calls Try.prog 21 #[.int .i64 x] w fun e w' =>
      ∃ A' c', e = .returned (.tuple #[.slice A' (sdR x).length c', .bool (sdB x)]) ∧ OwI w' w.heap.size (.slice A' (sdR x).length c') (sdR x) ∧ Below w.heap.size w w' := implSignedDigits_any x w
end Go.Proofs.Ytbohakifjmdoiaa
