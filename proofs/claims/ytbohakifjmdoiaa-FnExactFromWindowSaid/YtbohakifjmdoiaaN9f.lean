/- FromSigned, WeightOf, IsSparseForm and FromWindow: of both programs. -/
import Derived.Test.YtbohakifjmdoiaaN9d
namespace Go.Proofs.Ytbohakifjmdoiaa
open Go.RowKit

def cutN (n : Int) : Int := if isN9 n then n else 0
set_option maxHeartbeats 1000000 in
theorem signedOrNone_any (n : Int) (w : World) : Calls Try.prog 58 #[.int .i64 n] w fun e w' => e = .returned (.tuple #[.int .i64 (cutN n), .bool (isN9 n)]) ∧ w = w' := by
  obtain ⟨g1, h1⟩ : ∃ g, isN9 n = g := ⟨_, rfl⟩
  have H1 := Lib.hid h1
  have EC := Lib.hid (show cutN n = if g1 then n else 0 by unfold cutN; rw [h1])
  rw [h1]
  clear h1
  cases g1 with
  | false =>
    go_enter Try.func58, Try.ntmps58
    go_wp2_with (go_at_call 52; refine (isSignedNumber_any _ _).mono ?_; rw [H1.out]; rintro e w' ⟨rfl, rfl⟩)
    go_ret2
    exact ⟨by rw [EC.out]; rfl, rfl⟩
  | true =>
    go_enter Try.func58, Try.ntmps58
    go_wp2_with (go_at_call 52; refine (isSignedNumber_any _ _).mono ?_; rw [H1.out]; rintro e w' ⟨rfl, rfl⟩)
    go_ret2
    exact ⟨by rw [EC.out]; rfl, rfl⟩

def fsB (l : List Int) : Bool := isD l && isN9 (smD l)
def fsV (l : List Int) : Int := if fsB l then smD l else 0
theorem isD_31 {l : List Int} (h : isD l = true) : l.length ≤ 24 ∧ ∀ d ∈ l, -31 ≤ d ∧ d ≤ 31 := ⟨(isD_len h).1, fun d hd => by have := (isD_len h).2 d hd; omega⟩
/-- Also of lists of any length. -/
theorem areDigits9 (B : Nat) (A : Option Addr) (c : Nat) (l : List Int) (w : World) (hl : l.length ≤ 1048576) (hB : B ≤ w.heap.size) (hr : Rd w B 1 A l.length (l.map I)) :
    Calls Try.prog 57 #[.slice A l.length c] w fun e w' => e = .returned (.bool (isD l)) ∧ w = w' := by
  by_cases hbig : 1000000 < l.length
  · have E := Lib.hid (show isD l = false by unfold isD; rw [decide_eq_false (by omega)]; rfl)
    have G := Lib.hid (show inB (l.length : Int) 0 24 = false by rw [inB_len]; exact decide_eq_false (by omega))
    clear hr
    go_enter Try.func57, Try.ntmps57
    go_wp2_with (go_at_call 83; refine (isLength_any _ _).mono ?_; rw [G.out]; rintro e w' ⟨rfl, rfl⟩)
    go_ret
    exact ⟨ret_bool (by rw [E.out]), rfl⟩
  · exact areDigits_any B A c l w (by omega) hB hr
theorem siDigits9 (B : Nat) (A : Option Addr) (c : Nat) (l : List Int) (w : World) (hl : l.length ≤ 1048576) (hr : Rd w B 1 A l.length (l.map I)) :
    Calls Try.prog 55 #[.slice A l.length c] w fun e w' => e = .returned (.bool (isD l)) ∧ w = w' := by
  by_cases hbig : 1000000 < l.length
  · have E := Lib.hid (show isD l = false by unfold isD; rw [decide_eq_false (by omega)]; rfl)
    have ib : ¬ (l.length : Int) ≤ 24 := by omega
    clear hr
    go_enter Try.func55, Try.ntmps55
    go_wp2
    go_ret
    exact ⟨ret_bool (by rw [E.out]), rfl⟩
  · exact siDigits_any B A c l w (by omega) hr

set_option maxHeartbeats 1000000 in
theorem specFromSigned_any (B : Nat) (A : Option Addr) (c : Nat) (l : List Int) (w : World) (_hB : B ≤ w.heap.size) (hl : l.length ≤ 1048576) (_hcap : l.length ≤ c) (hr : Rd w B 1 A l.length (l.map I)) :
    Calls Try.prog 22 #[.slice A l.length c] w fun e w' => e = .returned (.tuple #[.int .i64 (fsV l), .bool (fsB l)]) ∧ Below w.heap.size w w' := by
  obtain ⟨g1, h1⟩ : ∃ g, isD l = g := ⟨_, rfl⟩
  have HD := Lib.hid (siDigits9 B A c l w hl hr)
  rw [h1] at HD
  cases g1 with
  | false =>
    have EB := Lib.hid (show fsB l = false by unfold fsB; rw [h1]; rfl)
    have EV := Lib.hid (show fsV l = 0 by unfold fsV; rw [EB.out]; rfl)
    clear hr h1
    go_enter Try.func22, Try.ntmps22
    go_wp2_with (go_at_call 55; refine HD.out.mono ?_; rintro e w' ⟨rfl, rfl⟩)
    go_ret2
    exact ⟨by rw [EV.out, EB.out]; rfl, Below.refl _ _⟩
  | true =>
    have HS := siSum_any B A c l w (isD_31 h1).1 (isD_31 h1).2 hr
    obtain ⟨g2, h2⟩ : ∃ g, isN9 (smD l) = g := ⟨_, rfl⟩
    have EB := Lib.hid (show fsB l = g2 by unfold fsB; rw [h1, h2]; rfl)
    have EV := Lib.hid (show fsV l = if g2 then smD l else 0 by unfold fsV; rw [EB.out])
    have HN := fun W => siNumber_any (smD l) W
    rw [h2] at HN
    obtain ⟨s, hs⟩ : ∃ s, smD l = s := ⟨_, rfl⟩
    rw [hs] at HS HN EV
    have HS := Lib.hid HS
    have HN := Lib.hid HN
    clear hr h1 h2 hs
    cases g2 with
    | false =>
      go_enter Try.func22, Try.ntmps22
      go_wp2_with (first
        | (go_at_call 55; refine HD.out.mono ?_; rintro e w' ⟨rfl, rfl⟩)
        | (go_at_call 56; refine HS.out.mono ?_; rintro e w' ⟨rfl, rfl⟩)
        | (go_at_call 49; refine (HN.out _).mono ?_; rintro e w' ⟨rfl, rfl⟩))
      go_ret2
      exact ⟨by rw [EV.out, EB.out]; rfl, Below.refl _ _⟩
    | true =>
      go_enter Try.func22, Try.ntmps22
      go_wp2_with (first
        | (go_at_call 55; refine HD.out.mono ?_; rintro e w' ⟨rfl, rfl⟩)
        | (go_at_call 56; refine HS.out.mono ?_; rintro e w' ⟨rfl, rfl⟩)
        | (go_at_call 49; refine (HN.out _).mono ?_; rintro e w' ⟨rfl, rfl⟩))
      go_ret2
      exact ⟨by rw [EV.out, EB.out]; rfl, Below.refl _ _⟩

set_option maxHeartbeats 1000000 in
theorem implFromSigned_any (B : Nat) (A : Option Addr) (c : Nat) (l : List Int) (w : World) (hB : B ≤ w.heap.size) (hl : l.length ≤ 1048576) (_hcap : l.length ≤ c) (hr : Rd w B 1 A l.length (l.map I)) :
    Calls Try.prog 24 #[.slice A l.length c] w fun e w' => e = .returned (.tuple #[.int .i64 (fsV l), .bool (fsB l)]) ∧ Below w.heap.size w w' := by
  obtain ⟨g1, h1⟩ : ∃ g, isD l = g := ⟨_, rfl⟩
  have HD := Lib.hid (areDigits9 B A c l w hl hB hr)
  rw [h1] at HD
  cases g1 with
  | false =>
    have EB := Lib.hid (show fsB l = false by unfold fsB; rw [h1]; rfl)
    have EV := Lib.hid (show fsV l = 0 by unfold fsV; rw [EB.out]; rfl)
    clear hr h1
    go_enter Try.func24, Try.ntmps24
    go_wp2_with (go_at_call 57; refine HD.out.mono ?_; rintro e w' ⟨rfl, rfl⟩)
    go_ret2
    exact ⟨by rw [EV.out, EB.out]; rfl, Below.refl _ _⟩
  | true =>
    have HS := sumOfDigits_any B A c l w hB (isD_31 h1).1 (isD_31 h1).2 hr
    have EB := Lib.hid (show fsB l = isN9 (smD l) by unfold fsB; rw [h1]; rfl)
    have EV := Lib.hid (show fsV l = cutN (smD l) by unfold fsV cutN; rw [EB.out])
    obtain ⟨s, hs⟩ : ∃ s, smD l = s := ⟨_, rfl⟩
    rw [hs] at HS EV EB
    have HS := Lib.hid HS
    clear hr h1 hs
    go_enter Try.func24, Try.ntmps24
    go_wp2_with (first
      | (go_at_call 57; refine HD.out.mono ?_; rintro e w' ⟨rfl, rfl⟩)
      | (go_at_call 59; refine HS.out.mono ?_; rintro e w2 ⟨rfl, hb⟩)
      | (go_at_call 58; refine (signedOrNone_any _ _).mono ?_; rintro e w' ⟨rfl, rfl⟩))
    go_ret2
    exact ⟨by rw [EV.out, EB.out]; rfl, hb⟩

def wgV (l : List Int) : Int := if isD l then wtD l else 0
set_option maxHeartbeats 1000000 in
theorem specWeightOf_any (B : Nat) (A : Option Addr) (c : Nat) (l : List Int) (w : World) (_hB : B ≤ w.heap.size) (hl : l.length ≤ 1048576) (_hcap : l.length ≤ c) (hr : Rd w B 1 A l.length (l.map I)) :
    Calls Try.prog 25 #[.slice A l.length c] w fun e w' => e = .returned (.tuple #[.int .i64 (wgV l), .bool (isD l)]) ∧ Below w.heap.size w w' := by
  obtain ⟨g1, h1⟩ : ∃ g, isD l = g := ⟨_, rfl⟩
  have HD := Lib.hid (siDigits9 B A c l w hl hr)
  have EV := Lib.hid (show wgV l = if g1 then wtD l else 0 by unfold wgV; rw [h1])
  rw [h1] at HD
  rw [h1]
  cases g1 with
  | false =>
    clear hr h1
    go_enter Try.func25, Try.ntmps25
    go_wp2_with (go_at_call 55; refine HD.out.mono ?_; rintro e w' ⟨rfl, rfl⟩)
    go_ret2
    exact ⟨by rw [EV.out]; rfl, Below.refl _ _⟩
  | true =>
    have HW := Lib.hid (siWeight_any B A c l w (by have := (isD_31 h1).1; omega) hr)
    clear hr h1
    go_enter Try.func25, Try.ntmps25
    go_wp2_with (first
      | (go_at_call 55; refine HD.out.mono ?_; rintro e w' ⟨rfl, rfl⟩)
      | (go_at_call 60; refine HW.out.mono ?_; rintro e w' ⟨rfl, rfl⟩))
    go_ret2
    exact ⟨by rw [EV.out]; rfl, Below.refl _ _⟩
set_option maxRecDepth 100000 in
set_option maxHeartbeats 2000000 in
theorem implWeightOf_any (B : Nat) (A : Option Addr) (c : Nat) (l : List Int) (w : World) (hB : B ≤ w.heap.size) (hl : l.length ≤ 1048576) (_hcap : l.length ≤ c) (hr : Rd w B 1 A l.length (l.map I)) :
    Calls Try.prog 26 #[.slice A l.length c] w fun e w' => e = .returned (.tuple #[.int .i64 (wgV l), .bool (isD l)]) ∧ Below w.heap.size w w' := by
  obtain ⟨g1, h1⟩ : ∃ g, isD l = g := ⟨_, rfl⟩
  have HD := Lib.hid (areDigits9 B A c l w hl hB hr)
  have EV := Lib.hid (show wgV l = if g1 then wtD l else 0 by unfold wgV; rw [h1])
  rw [h1] at HD
  rw [h1]
  cases g1 with
  | false =>
    clear hr h1
    go_enter Try.func26, Try.ntmps26
    go_wp2_with (go_at_call 57; refine HD.out.mono ?_; rintro e w' ⟨rfl, rfl⟩)
    go_ret2
    exact ⟨by rw [EV.out]; rfl, Below.refl _ _⟩
  | true =>
    obtain ⟨hl24, hmem⟩ := isD_len h1
    have H := Lib.hid hr
    have HM := Lib.hid hmem
    clear hr h1 hmem
    go_enter Try.func26, Try.ntmps26
    go_wp2_with (go_at_call 57; refine HD.out.mono ?_; rintro e w' ⟨rfl, rfl⟩)
    go_loop [4, 12] (fun s i => ∃ k : Nat, k ≤ l.length ∧ i = .int .i64 k ∧ s = .int .i64 (wtD (l.take k))) (fun _ i => l.length - (intOf i).toNat)
    case atStart => exact ⟨0, by omega, rfl, rfl⟩
    case round =>
      obtain ⟨k, hk, rfl, rfl⟩ := hrel
      by_cases hlt : k < l.length
      · obtain ⟨b, off, rfl, hb, hcell⟩ := H.out.int hlt
        have hbd := wtD_le (l.take k)
        rw [List.length_take] at hbd
        have E := Lib.hid (wtD_take hlt)
        have hx1 := HM.out _ (List.getElem_mem hlt)
        obtain ⟨s, hs⟩ : ∃ s, wtD (l.take k) = s := ⟨_, rfl⟩
        rw [hs] at hbd E ⊢
        obtain ⟨x, hx⟩ : ∃ x, l[k] = x := ⟨_, rfl⟩
        rw [hx] at hcell E hx1
        have hb1 : 0 ≤ s ∧ s ≤ 1000000 := by omega
        clear hs hx hbd
        have hx2 : x = 0 ∨ x = 1 ∨ x = -1 := by omega
        rcases hx2 with rfl | rfl | rfl
        all_goals
          go_wp2
          go_round
          case rel => exact ⟨k + 1, by omega, by go_num, by rw [E.out]; simp⟩
          case measure => simp [intOf]; omega
      · have E := Lib.hid (show wtD (l.take k) = wtD l by rw [List.take_of_length_le (by omega)])
        go_wp2
        go_ret2
        exact ⟨by rw [EV.out, E.out]; rfl, Below.refl _ _⟩

set_option maxHeartbeats 2000000 in
theorem isWindowDigit_any (d W T : Int) (w : World) (hW : WT W T) : Calls Try.prog 86 #[.int .i64 d, .int .i64 W] w fun e w' => e = .returned (.bool (okd (T / 2) d)) ∧ w = w' := by
  obtain ⟨G, hG⟩ : ∃ g, okd (T / 2) d = g := ⟨_, rfl⟩
  rw [hG]
  by_cases h : d % 2 = 0
  · have h0 : d.tmod 2 = 0 := (tmod2 d).2 h
    have E := Lib.hid (show G = false by rw [← hG]; unfold okd; simp [h])
    clear h hG
    rcases hW with ⟨rfl, rfl⟩ | ⟨rfl, rfl⟩ | ⟨rfl, rfl⟩ | ⟨rfl, rfl⟩ | ⟨rfl, rfl⟩
    all_goals
      go_enter Try.func86, Try.ntmps86
      go_wp2
      go_ret
      exact ⟨ret_bool E.out.symm, rfl⟩
  · have h0 : ¬ d.tmod 2 = 0 := fun e => h ((tmod2 d).1 e)
    have i0 : (d.tmod 2 != 0) = true := by simpa using h0
    obtain ⟨g1, hg1⟩ : ∃ g, decide (-(T / 2) < d) = g := ⟨_, rfl⟩
    obtain ⟨g2, hg2⟩ : ∃ g, decide (d < T / 2) = g := ⟨_, rfl⟩
    have E := Lib.hid (show G = (g1 && g2) by rw [← hG, ← hg1, ← hg2]; unfold okd; simp [h])
    have i3 : (d % 2 != 0) = true := by simpa using h
    clear hG
    cases g1 with
    | false =>
      have h1 : ¬ (-(T / 2) < d) := by simpa using hg1
      clear hg1 hg2
      rcases hW with ⟨rfl, rfl⟩ | ⟨rfl, rfl⟩ | ⟨rfl, rfl⟩ | ⟨rfl, rfl⟩ | ⟨rfl, rfl⟩
      all_goals
        simp only [Int.reduceDiv, Int.reduceNeg] at h1
        go_enter Try.func86, Try.ntmps86
        go_wp2
        go_ret
        exact ⟨ret_bool (by rw [E.out]; simp), rfl⟩
    | true =>
      have h1 : -(T / 2) < d := by simpa using hg1
      cases g2 with
      | false =>
        have h2 : ¬ d < T / 2 := by simpa using hg2
        clear hg1 hg2
        rcases hW with ⟨rfl, rfl⟩ | ⟨rfl, rfl⟩ | ⟨rfl, rfl⟩ | ⟨rfl, rfl⟩ | ⟨rfl, rfl⟩
        all_goals
          simp only [Int.reduceDiv, Int.reduceNeg] at h1 h2
          go_enter Try.func86, Try.ntmps86
          go_wp2
          go_ret
          exact ⟨ret_bool (by rw [E.out]; simp), rfl⟩
      | true =>
        have h2 : d < T / 2 := by simpa using hg2
        clear hg1 hg2
        rcases hW with ⟨rfl, rfl⟩ | ⟨rfl, rfl⟩ | ⟨rfl, rfl⟩ | ⟨rfl, rfl⟩ | ⟨rfl, rfl⟩
        all_goals
          simp only [Int.reduceDiv, Int.reduceNeg] at h1 h2
          go_enter Try.func86, Try.ntmps86
          go_wp2
          go_ret
          exact ⟨ret_bool (by rw [E.out]; simp), rfl⟩

/-- Window digits, as the program asks it. -/
def fwA (l : List Int) (W : Int) : Bool := inB W 2 6 && decide (l.length ≤ 24) && (l.isEmpty || prD W (pwT W / 2) W l)
theorem prD_drop {w W z : Int} {l : List Int} {k : Nat} (hk : k < l.length) : prD w W z (l.drop k) = if l[k] = 0 then prD w W (z + 1) (l.drop (k + 1)) else if z < w - 1 then false else if okd W l[k] then prD w W 0 (l.drop (k + 1)) else false := by
  rw [List.drop_eq_getElem_cons hk, prD]
theorem WT_rng {W T : Int} (h : WT W T) : 2 ≤ W ∧ W ≤ 6 := by rcases h with ⟨rfl, _⟩ | ⟨rfl, _⟩ | ⟨rfl, _⟩ | ⟨rfl, _⟩ | ⟨rfl, _⟩ <;> omega

set_option maxRecDepth 100000 in
set_option maxHeartbeats 4000000 in
theorem areWindowDigits_any (B : Nat) (A : Option Addr) (c : Nat) (l : List Int) (W : Int) (w : World) (_hl : l.length ≤ 1048576) (hr : Rd w B 1 A l.length (l.map I)) :
    Calls Try.prog 62 #[.slice A l.length c, .int .i64 W] w fun e w' => e = .returned (.bool (fwA l W)) ∧ w = w' := by
  obtain ⟨g1, h1⟩ : ∃ g, inB W 2 6 = g := ⟨_, rfl⟩
  have H1 := Lib.hid h1
  obtain ⟨g2, h2⟩ : ∃ g, inB (l.length : Int) 0 24 = g := ⟨_, rfl⟩
  have H2 := Lib.hid h2
  have EB := Lib.hid (show fwA l W = (g1 && g2 && (l.isEmpty || prD W (pwT W / 2) W l)) by unfold fwA; rw [h1, ← inB_len, h2])
  cases g1 with
  | false =>
    clear h1 h2 hr
    go_enter Try.func62, Try.ntmps62
    go_wp2_with (go_at_call 53; refine (isWindowWidth_any _ _).mono ?_; rw [H1.out]; rintro e w' ⟨rfl, rfl⟩)
    go_ret
    exact ⟨ret_bool (by rw [EB.out]; rfl), rfl⟩
  | true =>
  cases g2 with
  | false =>
    clear h1 h2 hr
    go_enter Try.func62, Try.ntmps62
    go_wp2_with (first
      | (go_at_call 53; refine (isWindowWidth_any _ _).mono ?_; rw [H1.out]; rintro e w' ⟨rfl, rfl⟩)
      | (go_at_call 83; refine (isLength_any _ _).mono ?_; rw [H2.out]; rintro e w' ⟨rfl, rfl⟩))
    go_ret
    exact ⟨ret_bool (by rw [EB.out]; rfl), rfl⟩
  | true =>
    have HW := Lib.hid (pwT_ok h1)
    obtain ⟨hW1, hW2⟩ := WT_rng HW.out
    have hl24 : l.length ≤ 24 := by rw [inB_len] at h2; simpa using h2
    have H := Lib.hid hr
    obtain ⟨T, hT⟩ : ∃ T, pwT W = T := ⟨_, rfl⟩
    rw [hT] at HW EB
    have EB := Lib.hid (show fwA l W = (l.isEmpty || prD W (T / 2) W l) from EB.out)
    clear h1 h2 hr hT
    go_enter Try.func62, Try.ntmps62
    go_wp2_with (first
      | (go_at_call 53; refine (isWindowWidth_any _ _).mono ?_; rw [H1.out]; rintro e w' ⟨rfl, rfl⟩)
      | (go_at_call 83; refine (isLength_any _ _).mono ?_; rw [H2.out]; rintro e w' ⟨rfl, rfl⟩))
    go_loop [5, 20] (fun s i => ∃ (k : Nat) (z : Int), k ≤ l.length ∧ i = .int .i64 k ∧ s = .int .i64 z ∧ 0 ≤ z ∧ z ≤ k + 6 ∧ prD W (T / 2) z (l.drop k) = prD W (T / 2) W l) (fun _ i => l.length - (intOf i).toNat)
    case atStart => exact ⟨0, W, by omega, rfl, rfl, by omega, by omega, rfl⟩
    case round =>
      obtain ⟨k, z, hk, rfl, rfl, hz1, hz2, hq⟩ := hrel
      by_cases hlt : k < l.length
      · obtain ⟨b, off, rfl, hb, hcell⟩ := H.out.int hlt
        have hne : l.isEmpty = false := by cases l with
          | nil => simp at hlt
          | cons _ _ => rfl
        have EB := Lib.hid (show fwA l W = prD W (T / 2) W l by rw [EB.out, hne, Bool.false_or])
        rw [prD_drop hlt] at hq
        obtain ⟨x, hx⟩ : ∃ x, l[k] = x := ⟨_, rfl⟩
        rw [hx] at hcell hq
        clear hx hne
        have CW := Lib.hid (fun W' => isWindowDigit_any x W T W' HW.out)
        by_cases h0 : x = 0
        · rw [if_pos h0] at hq
          have Q := Lib.hid hq
          have i0 : (x == 0) = true := by simpa using h0
          clear h0 hq
          go_wp2
          go_round
          case rel => exact ⟨k + 1, z + 1, by omega, by go_num, rfl, by omega, by omega, Q.out⟩
          case measure => simp [intOf]; omega
        · rw [if_neg h0] at hq
          have i0 : (x == 0) = false := by simpa using h0
          clear h0
          by_cases hz : z < W - 1
          · have E := Lib.hid (show fwA l W = false by rw [EB.out, ← hq, if_pos hz])
            clear hq
            go_wp2
            go_ret
            exact ⟨ret_bool (by rw [E.out]), rfl⟩
          · rw [if_neg hz] at hq
            obtain ⟨g, hg⟩ : ∃ g, okd (T / 2) x = g := ⟨_, rfl⟩
            rw [hg] at hq CW
            clear hg
            cases g with
            | false =>
              have E := Lib.hid (show fwA l W = false by rw [EB.out, ← hq]; rfl)
              clear hq
              go_wp2_with (go_at_call 86; refine (CW.out _).mono ?_; rintro e w' ⟨rfl, rfl⟩)
              go_ret
              exact ⟨ret_bool (by rw [E.out]), rfl⟩
            | true =>
              have Q := Lib.hid (show prD W (T / 2) 0 (l.drop (k + 1)) = prD W (T / 2) W l from hq)
              clear hq
              go_wp2_with (go_at_call 86; refine (CW.out _).mono ?_; rintro e w' ⟨rfl, rfl⟩)
              go_round
              case rel => exact ⟨k + 1, 0, by omega, by go_num, rfl, by omega, by omega, Q.out⟩
              case measure => simp [intOf]; omega
      · obtain rfl : k = l.length := by omega
        have E := Lib.hid (show fwA l W = (l.isEmpty || decide (z = 0)) by rw [EB.out, ← hq, List.drop_length]; rfl)
        clear hq
        by_cases h0 : l.length = 0
        · have i0 : ((l.length : Int) == 0) = true := by simp [h0]
          have E2 := Lib.hid (show fwA l W = true by rw [E.out]; have : l = [] := List.length_eq_zero_iff.1 h0
                                                     subst this; rfl)
          go_wp2
          go_ret
          exact ⟨ret_bool (by rw [E2.out]), rfl⟩
        · have i0 : ((l.length : Int) == 0) = false := by simpa using (show ¬ l = [] by intro e; subst e; exact h0 rfl)
          have E2 := Lib.hid (show fwA l W = decide (z = 0) by rw [E.out]; cases l with
            | nil => exact absurd rfl h0
            | cons _ _ => rfl)
          clear h0
          go_wp2
          go_ret
          exact ⟨ret_bool (by rw [E2.out]; by_cases h : z = 0 <;> simp [h]), rfl⟩

/-- All digits are 0 or window digits. -/
def okA (T : Int) (l : List Int) : Bool := l.all (fun d => d == 0 || okd (T / 2) d)
theorem fwA_eq {l : List Int} {W : Int} (hW : inB W 2 6 = true) : fwA l W = (decide (l.length ≤ 24) && (okA (pwT W) l && apS W l)) := by
  unfold fwA
  rw [hW, Bool.true_and]
  congr 1
  have h2 := WT_rng (pwT_ok hW)
  rw [prD_eq _ _ _ _ (by omega)]
  unfold okA apS
  cases l with
  | nil => rfl
  | cons d l =>
    rw [show (d :: l).isEmpty = false from rfl, Bool.false_or, Bool.false_or, apD_init W (d :: l) W (W - 1) (by omega) (by omega), Bool.and_assoc]
theorem fwA_sparse {l : List Int} (h : isD l = true) : fwA l 2 = apS 2 l := by
  rw [fwA_eq (by decide)]
  obtain ⟨h1, h2⟩ := isD_len h
  rw [decide_eq_true h1, Bool.true_and]
  have : okA (pwT 2) l = true := by
    unfold okA
    rw [List.all_eq_true]
    intro d hd
    have hx := h2 d hd
    have hx2 : d = 0 ∨ d = 1 ∨ d = -1 := by omega
    rcases hx2 with rfl | rfl | rfl <;> decide
  rw [this, Bool.true_and]
def ssV (l : List Int) : Bool := isD l && apS 2 l

set_option maxHeartbeats 1000000 in
theorem specIsSparseForm_any (B : Nat) (A : Option Addr) (c : Nat) (l : List Int) (w : World) (_hB : B ≤ w.heap.size) (hl : l.length ≤ 1048576) (_hcap : l.length ≤ c) (hr : Rd w B 1 A l.length (l.map I)) :
    Calls Try.prog 27 #[.slice A l.length c] w fun e w' => e = .returned (.tuple #[.bool (ssV l), .bool (isD l)]) ∧ Below w.heap.size w w' := by
  obtain ⟨g1, h1⟩ : ∃ g, isD l = g := ⟨_, rfl⟩
  have HD := Lib.hid (siDigits9 B A c l w hl hr)
  have EV := Lib.hid (show ssV l = (g1 && apS 2 l) by unfold ssV; rw [h1])
  rw [h1] at HD
  rw [h1]
  cases g1 with
  | false =>
    clear hr h1
    go_enter Try.func27, Try.ntmps27
    go_wp2_with (go_at_call 55; refine HD.out.mono ?_; rintro e w' ⟨rfl, rfl⟩)
    go_ret2
    exact ⟨by rw [EV.out]; rfl, Below.refl _ _⟩
  | true =>
    have HA := siApart_any B A c l 2 w (by have := (isD_31 h1).1; omega) (by omega) hr
    skip
    have HA := Lib.hid HA
    clear hr h1
    go_enter Try.func27, Try.ntmps27
    go_wp2_with (first
      | (go_at_call 55; refine HD.out.mono ?_; rintro e w' ⟨rfl, rfl⟩)
      | (go_at_call 61; refine HA.out.mono ?_; rintro e w' ⟨rfl, rfl⟩))
    go_ret2
    exact ⟨by rw [EV.out]; rfl, Below.refl _ _⟩

set_option maxHeartbeats 1000000 in
theorem implIsSparseForm_any (B : Nat) (A : Option Addr) (c : Nat) (l : List Int) (w : World) (hB : B ≤ w.heap.size) (hl : l.length ≤ 1048576) (_hcap : l.length ≤ c) (hr : Rd w B 1 A l.length (l.map I)) :
    Calls Try.prog 28 #[.slice A l.length c] w fun e w' => e = .returned (.tuple #[.bool (ssV l), .bool (isD l)]) ∧ Below w.heap.size w w' := by
  obtain ⟨g1, h1⟩ : ∃ g, isD l = g := ⟨_, rfl⟩
  have HD := Lib.hid (areDigits9 B A c l w hl hB hr)
  have EV := Lib.hid (show ssV l = (g1 && apS 2 l) by unfold ssV; rw [h1])
  rw [h1] at HD
  rw [h1]
  cases g1 with
  | false =>
    clear hr h1
    go_enter Try.func28, Try.ntmps28
    go_wp2_with (go_at_call 57; refine HD.out.mono ?_; rintro e w' ⟨rfl, rfl⟩)
    go_ret2
    exact ⟨by rw [EV.out]; rfl, Below.refl _ _⟩
  | true =>
    have HA := areWindowDigits_any B A c l 2 w hl hr
    rw [fwA_sparse h1] at HA
    have HA := Lib.hid HA
    clear hr h1
    go_enter Try.func28, Try.ntmps28
    go_wp2_with (first
      | (go_at_call 57; refine HD.out.mono ?_; rintro e w' ⟨rfl, rfl⟩)
      | (go_at_call 62; refine HA.out.mono ?_; rintro e w' ⟨rfl, rfl⟩))
    go_ret2
    exact ⟨by rw [EV.out]; rfl, Below.refl _ _⟩

def fwB (l : List Int) (W : Int) : Bool := fwA l W && isN9 (smD l)
def fwV (l : List Int) (W : Int) : Int := if fwB l W then smD l else 0
theorem fwA_true {l : List Int} {W : Int} (h : fwA l W = true) : l.length ≤ 24 ∧ ∀ d ∈ l, -31 ≤ d ∧ d ≤ 31 := by
  have hW : inB W 2 6 = true := by
    unfold fwA at h
    cases hg : inB W 2 6 with
    | true => rfl
    | false => rw [hg] at h; simp at h
  have hT := (pwT_ok hW).tt
  rw [fwA_eq hW] at h
  simp only [Bool.and_eq_true, decide_eq_true_eq] at h
  refine ⟨h.1, fun d hd => ?_⟩
  have hx := h.2.1
  unfold okA at hx
  rw [List.all_eq_true] at hx
  have := hx d hd
  unfold okd at this
  simp only [Bool.or_eq_true, beq_iff_eq, Bool.and_eq_true, decide_eq_true_eq] at this
  rcases this with rfl | ⟨⟨_, h1⟩, h2⟩
  · omega
  · rcases hT with e | e | e | e | e <;> rw [e] at h1 h2 <;> omega
set_option maxHeartbeats 1000000 in
theorem implFromWindow_any (B : Nat) (A : Option Addr) (c : Nat) (l : List Int) (W : Int) (w : World) (hB : B ≤ w.heap.size) (hl : l.length ≤ 1048576) (_hcap : l.length ≤ c) (hr : Rd w B 1 A l.length (l.map I)) :
    Calls Try.prog 30 #[.slice A l.length c, .int .i64 W] w fun e w' => e = .returned (.tuple #[.int .i64 (fwV l W), .bool (fwB l W)]) ∧ Below w.heap.size w w' := by
  obtain ⟨g1, h1⟩ : ∃ g, fwA l W = g := ⟨_, rfl⟩
  have HD := Lib.hid (areWindowDigits_any B A c l W w hl hr)
  rw [h1] at HD
  cases g1 with
  | false =>
    have EB := Lib.hid (show fwB l W = false by unfold fwB; rw [h1]; rfl)
    have EV := Lib.hid (show fwV l W = 0 by unfold fwV; rw [EB.out]; rfl)
    clear hr h1
    go_enter Try.func30, Try.ntmps30
    go_wp2_with (go_at_call 62; refine HD.out.mono ?_; rintro e w' ⟨rfl, rfl⟩)
    go_ret2
    exact ⟨by rw [EV.out, EB.out]; rfl, Below.refl _ _⟩
  | true =>
    have HS := sumOfDigits_any B A c l w hB (fwA_true h1).1 (fwA_true h1).2 hr
    have EB := Lib.hid (show fwB l W = isN9 (smD l) by unfold fwB; rw [h1]; rfl)
    have EV := Lib.hid (show fwV l W = cutN (smD l) by unfold fwV cutN; rw [EB.out])
    obtain ⟨s, hs⟩ : ∃ s, smD l = s := ⟨_, rfl⟩
    rw [hs] at HS EV EB
    have HS := Lib.hid HS
    clear hr h1 hs
    go_enter Try.func30, Try.ntmps30
    go_wp2_with (first
      | (go_at_call 62; refine HD.out.mono ?_; rintro e w' ⟨rfl, rfl⟩)
      | (go_at_call 59; refine HS.out.mono ?_; rintro e w2 ⟨rfl, hb⟩)
      | (go_at_call 58; refine (signedOrNone_any _ _).mono ?_; rintro e w' ⟨rfl, rfl⟩))
    go_ret2
    exact ⟨by rw [EV.out, EB.out]; rfl, hb⟩
end Go.Proofs.Ytbohakifjmdoiaa
