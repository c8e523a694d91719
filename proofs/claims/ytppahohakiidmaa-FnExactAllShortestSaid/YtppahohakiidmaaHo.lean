/- FirstStar by the program; ShortestStar, StarLength, AllShortest by both. -/
import Derived.Test.YtppahohakiidmaaHn
namespace Go.Proofs.Ytppahohakiidmaa
open Go.RowKit

set_option maxRecDepth 100000 in
set_option maxHeartbeats 2000000 in
theorem implFirst_any (x y : Int) (w : World) : Calls Try.prog 22 #[.int .i64 x, .int .i64 y] w fun e w' => ∃ A' c', e = .returned (.tuple #[.slice A' (fsL x y).length c', .bool (fsG x y)]) ∧ OwI w' w.heap.size (.slice A' (fsL x y).length c') (fsL x y) ∧ Below w.heap.size w w' := by
  have hN := isShort_any x w
  have hC := isCounted_any y w
  cases h1 : isSh x with
  | false =>
    have E := Lib.hid (fsL_nil (fsV_no1 y h1))
    have G := Lib.hid (fsG_nil (fsV_no1 y h1))
    rw [h1] at hN
    have HN := Lib.hid hN
    clear hN h1 hC
    go_enter Try.func22, Try.ntmps22
    go_wp2_with (go_at_call 53; refine HN.out.mono ?_; rintro e w' ⟨rfl, rfl⟩)
    go_ret2
    exact ⟨none, 0, by rw [E.out, G.out]; rfl, by rw [E.out]; exact OwI.nil _ _, Below.refl _ _⟩
  | true =>
  cases h2 : isCt y with
  | false =>
    have E := Lib.hid (fsL_nil (fsV_no2 x h2))
    have G := Lib.hid (fsG_nil (fsV_no2 x h2))
    rw [h1] at hN
    rw [h2] at hC
    have HN := Lib.hid hN
    have HC := Lib.hid hC
    clear hN h1 hC h2
    go_enter Try.func22, Try.ntmps22
    go_wp2_with (first
      | (go_at_call 53; refine HN.out.mono ?_; rintro e w' ⟨rfl, rfl⟩)
      | (go_at_call 54; refine HC.out.mono ?_; rintro e w' ⟨rfl, rfl⟩))
    go_ret2
    exact ⟨none, 0, by rw [E.out, G.out]; rfl, by rw [E.out]; exact OwI.nil _ _, Below.refl _ _⟩
  | true =>
    have r1 := isSh_rng h1
    have r2 := isCt_rng h2
    have hV := fsV_yes h1 h2
    obtain ⟨n, rfl⟩ : ∃ n : Nat, x = n := ⟨x.toNat, by omega⟩
    obtain ⟨L, rfl⟩ : ∃ L : Nat, y = L := ⟨y.toNat, by omega⟩
    rw [Int.toNat_natCast, Int.toNat_natCast] at hV
    have hS := firstStars_any n L 1 w (by omega) (by omega) (Nat.le_refl _)
    rw [← hV] at hS
    have hrows : ∀ l ∈ fsV (n : Int) (L : Int), l.length = L + 1 := by rw [hV]; exact firsts_rows
    rw [h1] at hN
    rw [h2] at hC
    have HN := Lib.hid hN
    have HC := Lib.hid hC
    have HS := Lib.hid hS
    by_cases hz : fsV (n : Int) (L : Int) = []
    · have E := Lib.hid (fsL_nil hz)
      have G := Lib.hid (fsG_nil hz)
      rw [hz] at HS
      clear hN h1 hC h2 hS hz hV hrows
      go_enter Try.func22, Try.ntmps22
      go_wp2_with (first
        | (go_at_call 53; refine HN.out.mono ?_; rintro e w' ⟨rfl, rfl⟩)
        | (go_at_call 54; refine HC.out.mono ?_; rintro e w' ⟨rfl, rfl⟩)
        | (go_at_call 55; refine HS.out.mono ?_; rintro e w2 ⟨A2, c2, f2, rfl, hown2, _, hb2⟩))
      go_ret2
      exact ⟨none, 0, by rw [E.out, G.out]; rfl, by rw [E.out]; exact OwI.nil _ _, hb2⟩
    · have EL := Lib.hid (show (fsL (n : Int) (L : Int)).length = L + 1 from getD0_len hrows hz)
      have G := Lib.hid (show fsG (n : Int) (L : Int) = true by
        unfold fsG
        cases hq : fsV (n : Int) (L : Int) with
        | nil => exact absurd hq hz
        | cons _ _ => rfl)
      have hR1 : 1 ≤ (fsV (n : Int) (L : Int)).length := List.length_pos_iff.2 hz
      have EV := Lib.hid (show cs ((fsV (n : Int) (L : Int)).getD 0 []) = fsL (n : Int) (L : Int) from rfl)
      obtain ⟨V, hVV⟩ : ∃ V, fsV (n : Int) (L : Int) = V := ⟨_, rfl⟩
      obtain ⟨U, hU⟩ : ∃ U, fsL (n : Int) (L : Int) = U := ⟨_, rfl⟩
      rw [hVV] at HS hR1 EV
      rw [hU] at EL EV ⊢
      have iR : ((V.length : Int) == 0) = false := by rw [beq_eq_false_iff_ne]; omega
      have iR0 : (0 : Int) < (V.length : Int) := by omega
      clear hN h1 hC h2 hS hz hV hrows hVV hU
      go_enter Try.func22, Try.ntmps22
      go_wp2_with (first
        | (go_at_call 53; refine HN.out.mono ?_; rintro e w' ⟨rfl, rfl⟩)
        | (go_at_call 54; refine HC.out.mono ?_; rintro e w' ⟨rfl, rfl⟩)
        | (go_at_call 55; refine HS.out.mono ?_; rintro e w2 ⟨A2, c2, f2, rfl, hown2, _, hb2⟩; obtain ⟨g, A3, c3, rfl, hcell, hrow, _⟩ := hown2.row0 hR1; have ROW := Lib.hid hrow; have B2 := Lib.hid hb2; clear hrow hown2 hb2))
      go_ret2
      have hrow := ROW.out
      rw [EV.out] at hrow
      refine ⟨A3, c3, by rw [G.out, EL.out]; rfl, ?_, B2.out⟩
      rw [EL.out]
      exact hrow

/- ShortestStar -/
def ssL (x : Int) : List Int := if isSh x then cs ((shorts x.toNat 1).getD 0 []) else []
theorem ssL_no {x : Int} (h : isSh x = false) : ssL x = [] := by unfold ssL; rw [h]; rfl
theorem ssL_yes {n : Nat} (h : isSh (n : Int) = true) : ssL (n : Int) = cs ((shorts n 1).getD 0 []) := by unfold ssL; rw [if_pos h]; rfl
theorem ssL_len {n : Nat} (h : isSh (n : Int) = true) : (ssL (n : Int)).length = lenN n + 1 := by
  have r := isSh_rng h
  rw [ssL_yes h]
  exact getD0_len firsts_rows (lenN_spec (n := n) (by omega) (by omega)).2.1
theorem ssL_le (x : Int) : (ssL x).length ≤ 1000 := by
  cases h : isSh x with
  | false => rw [ssL_no h]; simp
  | true =>
    have r := isSh_rng h
    obtain ⟨n, rfl⟩ : ∃ n : Nat, x = n := ⟨x.toNat, by omega⟩
    rw [ssL_len h]
    have := (lenN_spec (n := n) (by omega) (by omega)).1
    omega

set_option maxRecDepth 100000 in
set_option maxHeartbeats 2000000 in
theorem specShortest_any (x : Int) (w : World) : Calls Try.prog 25 #[.int .i64 x] w fun e w' => ∃ A' c', e = .returned (.tuple #[.slice A' (ssL x).length c', .bool (isSh x)]) ∧ OwI w' w.heap.size (.slice A' (ssL x).length c') (ssL x) ∧ Below w.heap.size w w' := by
  have hN := shNumber_any x w
  cases h1 : isSh x with
  | false =>
    have E := Lib.hid (ssL_no h1)
    rw [h1] at hN
    have HN := Lib.hid hN
    clear hN h1
    go_enter Try.func25, Try.ntmps25
    go_wp2_with (go_at_call 49; refine HN.out.mono ?_; rintro e w' ⟨rfl, rfl⟩)
    go_ret2
    exact ⟨none, 0, by rw [E.out]; rfl, by rw [E.out]; exact OwI.nil _ _, Below.refl _ _⟩
  | true =>
    have r1 := isSh_rng h1
    obtain ⟨n, rfl⟩ : ∃ n : Nat, x = n := ⟨x.toNat, by omega⟩
    have hV : ssL (n : Int) = cs ((shorts n 1).getD 0 []) := ssL_yes h1
    have hV1 : (ssL (n : Int)).length = lenN n + 1 := ssL_len h1
    obtain ⟨k9, kne, _⟩ := lenN_spec (n := n) (by omega) (by omega)
    have hR1 : 1 ≤ (shorts n 1).length := List.length_pos_iff.2 kne
    have hLn := shLength_any n (w.alloc (.cells #[.int .i64 1] 3)) (by omega) (by omega)
    have hS := fun (W : World) (hr : Rd W W.heap.size 1 (some ⟨w.heap.size, 0, none⟩) 1 (([1] : List Int).map I)) => search1_any n (lenN n) 1 W (some ⟨w.heap.size, 0, none⟩) 1 (by omega) (by omega) k9 (Nat.le_refl _) (by omega) hr
    rw [show firstsN n (lenN n) 1 = shorts n 1 from rfl] at hS
    have O1 := Lib.hid (own_one (w := w) (B := 0) 1 (by omega))
    have HLn := Lib.hid hLn
    clear hLn
    rw [h1] at hN
    have HN := Lib.hid hN
    obtain ⟨V, hVV⟩ : ∃ V, shorts n 1 = V := ⟨_, rfl⟩
    obtain ⟨U, hU⟩ : ∃ U, ssL (n : Int) = U := ⟨_, rfl⟩
    rw [hVV] at hS hR1 hV
    rw [hU] at hV hV1 ⊢
    have HS := Lib.hid hS
    have EV := Lib.hid hV
    have EL := Lib.hid hV1
    have iR0 : (0 : Int) < (V.length : Int) := by omega
    clear hN h1 hS hV hV1 hVV hU kne
    go_enter Try.func25, Try.ntmps25
    go_wp2_with (first
      | (go_at_call 49; refine HN.out.mono ?_; rintro e w' ⟨rfl, rfl⟩)
      | (go_at_call 50; refine HLn.out.mono ?_; rintro e w1 ⟨rfl, hb1⟩; have B1 := Lib.hid hb1; have O1' := Lib.hid (OwI.below O1.out hb1); clear hb1)
      | (go_at_call 52; refine (HS.out w1 (OwI.rd O1'.out)).mono ?_; rintro e w2 ⟨A2, c2, f2, rfl, hown2, hb2⟩; obtain ⟨g, A3, c3, rfl, hcell, hrow, _⟩ := hown2.row0 hR1; have ROW := Lib.hid hrow; have B2 := Lib.hid (((Below.refl w.heap.size w).alloc (Nat.le_refl _) (.cells #[.int .i64 1] 3)).trans ((B1.out.mono (by simp)).trans (hb2.mono (by have := B1.out.size; simp at this; omega)))); have hz1 := B1.out.size; clear hrow hown2 hb2))
    go_ret2
    have hrow := ROW.out
    rw [← EV.out] at hrow
    refine ⟨A3, c3, by rw [EL.out]; rfl, ?_, B2.out⟩
    rw [EL.out]
    exact OwI.base hrow (by simp at hz1; omega)

set_option maxRecDepth 100000 in
set_option maxHeartbeats 2000000 in
theorem implShortest_any (x : Int) (w : World) : Calls Try.prog 26 #[.int .i64 x] w fun e w' => ∃ A' c', e = .returned (.tuple #[.slice A' (ssL x).length c', .bool (isSh x)]) ∧ OwI w' w.heap.size (.slice A' (ssL x).length c') (ssL x) ∧ Below w.heap.size w w' := by
  have hN := isShort_any x w
  cases h1 : isSh x with
  | false =>
    have E := Lib.hid (ssL_no h1)
    rw [h1] at hN
    have HN := Lib.hid hN
    clear hN h1
    go_enter Try.func26, Try.ntmps26
    go_wp2_with (go_at_call 53; refine HN.out.mono ?_; rintro e w' ⟨rfl, rfl⟩)
    go_ret2
    exact ⟨none, 0, by rw [E.out]; rfl, by rw [E.out]; exact OwI.nil _ _, Below.refl _ _⟩
  | true =>
    have r1 := isSh_rng h1
    obtain ⟨n, rfl⟩ : ∃ n : Nat, x = n := ⟨x.toNat, by omega⟩
    have hV : ssL (n : Int) = cs ((shorts n 1).getD 0 []) := ssL_yes h1
    have hV1 : (ssL (n : Int)).length = lenN n + 1 := ssL_len h1
    obtain ⟨k9, kne, _⟩ := lenN_spec (n := n) (by omega) (by omega)
    have hR1 : 1 ≤ (shorts n 1).length := List.length_pos_iff.2 kne
    have hS := shortestStars_any n 1 w (by omega) (by omega) (Nat.le_refl _)
    rw [h1] at hN
    have HN := Lib.hid hN
    obtain ⟨V, hVV⟩ : ∃ V, shorts n 1 = V := ⟨_, rfl⟩
    obtain ⟨U, hU⟩ : ∃ U, ssL (n : Int) = U := ⟨_, rfl⟩
    rw [hVV] at hS hR1 hV
    rw [hU] at hV hV1 ⊢
    have HS := Lib.hid hS
    have EV := Lib.hid hV
    have EL := Lib.hid hV1
    have iR0 : (0 : Int) < (V.length : Int) := by omega
    clear hN h1 hS hV hV1 hVV hU kne
    go_enter Try.func26, Try.ntmps26
    go_wp2_with (first
      | (go_at_call 53; refine HN.out.mono ?_; rintro e w' ⟨rfl, rfl⟩)
      | (go_at_call 56; refine HS.out.mono ?_; rintro e w2 ⟨A2, c2, f2, rfl, hown2, _, hb2⟩; obtain ⟨g, A3, c3, rfl, hcell, hrow, _⟩ := hown2.row0 hR1; have ROW := Lib.hid hrow; have B2 := Lib.hid hb2; clear hrow hown2 hb2))
    go_ret2
    have hrow := ROW.out
    rw [← EV.out] at hrow
    refine ⟨A3, c3, by rw [EL.out]; rfl, ?_, B2.out⟩
    rw [EL.out]
    exact hrow

/- StarLength -/
def slN' (x : Int) : Int := if isSh x then (lenN x.toNat : Int) else 0
theorem slN'_no {x : Int} (h : isSh x = false) : slN' x = 0 := by unfold slN'; rw [h]; rfl
theorem slN'_yes {n : Nat} (h : isSh (n : Int) = true) : slN' (n : Int) = (lenN n : Int) := by unfold slN'; rw [if_pos h]; rfl
set_option maxHeartbeats 1000000 in
theorem specStarLength_any (x : Int) (w : World) : Calls Try.prog 19 #[.int .i64 x] w fun e w' => e = .returned (.tuple #[.int .i64 (slN' x), .bool (isSh x)]) ∧ Below w.heap.size w w' := by
  have hN := shNumber_any x w
  cases h1 : isSh x with
  | false =>
    have E := Lib.hid (slN'_no h1)
    rw [h1] at hN
    have HN := Lib.hid hN
    clear hN h1
    go_enter Try.func19, Try.ntmps19
    go_wp2_with (go_at_call 49; refine HN.out.mono ?_; rintro e w' ⟨rfl, rfl⟩)
    go_ret2
    exact ⟨by rw [E.out]; rfl, Below.refl _ _⟩
  | true =>
    have r1 := isSh_rng h1
    obtain ⟨n, rfl⟩ : ∃ n : Nat, x = n := ⟨x.toNat, by omega⟩
    have E := Lib.hid (slN'_yes h1)
    have HL := Lib.hid (shLength_any n w (by omega) (by omega))
    rw [h1] at hN
    have HN := Lib.hid hN
    clear hN h1
    go_enter Try.func19, Try.ntmps19
    go_wp2_with (first
      | (go_at_call 49; refine HN.out.mono ?_; rintro e w' ⟨rfl, rfl⟩)
      | (go_at_call 50; refine HL.out.mono ?_; rintro e w' ⟨rfl, hb⟩))
    go_ret2
    exact ⟨by rw [E.out]; rfl, hb⟩
set_option maxHeartbeats 1000000 in
theorem implStarLength_any (x : Int) (w : World) : Calls Try.prog 20 #[.int .i64 x] w fun e w' => e = .returned (.tuple #[.int .i64 (slN' x), .bool (isSh x)]) ∧ Below w.heap.size w w' := by
  have hS := implShortest_any x w
  cases h1 : isSh x with
  | false =>
    have E := Lib.hid (slN'_no h1)
    rw [h1] at hS
    have HS := Lib.hid hS
    clear hS h1
    go_enter Try.func20, Try.ntmps20
    go_wp2_with (go_at_call 26; refine HS.out.mono ?_; rintro e w2 ⟨A2, c2, rfl, _, hb⟩)
    go_ret2
    exact ⟨by rw [E.out]; rfl, hb⟩
  | true =>
    have r1 := isSh_rng h1
    obtain ⟨n, rfl⟩ : ∃ n : Nat, x = n := ⟨x.toNat, by omega⟩
    have E := Lib.hid (slN'_yes h1)
    have k9 := (lenN_spec (n := n) (by omega) (by omega)).1
    rw [h1, ssL_len h1] at hS
    obtain ⟨K, hK⟩ : ∃ K, lenN n = K := ⟨_, rfl⟩
    rw [hK] at hS E k9
    have HS := Lib.hid hS
    have hw1 : IntKind.i64.wrap (K : Int) = (K : Int) := IntWalk.i64_in _ (by omega)
    clear hS h1 hK
    go_enter Try.func20, Try.ntmps20
    go_wp2_with (go_at_call 26; refine HS.out.mono ?_; rintro e w2 ⟨A2, c2, rfl, _, hb⟩)
    go_ret2
    exact ⟨by rw [E.out]; rfl, hb⟩

/- AllShortest -/
def alV (x : Int) : List (List Nat) := if isSh x && decide ((shorts x.toNat 201).length ≤ 200) then shorts x.toNat 201 else []
def alG (x : Int) : Bool := isSh x && decide ((shorts x.toNat 201).length ≤ 200)
def alN (x : Int) : Nat := lenN x.toNat + 1
theorem alV_no {x : Int} (h : isSh x = false) : alV x = [] := by unfold alV; rw [h]; rfl
theorem alG_no {x : Int} (h : isSh x = false) : alG x = false := by unfold alG; rw [h]; rfl
theorem alV_yes {n : Nat} (h : isSh (n : Int) = true) (h2 : (shorts n 201).length ≤ 200) : alV (n : Int) = shorts n 201 := by unfold alV; rw [h, Int.toNat_natCast, decide_eq_true h2]; rfl
theorem alG_yes {n : Nat} (h : isSh (n : Int) = true) (h2 : (shorts n 201).length ≤ 200) : alG (n : Int) = true := by unfold alG; rw [h, Int.toNat_natCast, decide_eq_true h2]; rfl
theorem alV_big {n : Nat} (h2 : ¬ (shorts n 201).length ≤ 200) : alV (n : Int) = [] := by unfold alV; rw [Int.toNat_natCast, decide_eq_false h2, Bool.and_false]; rfl
theorem alG_big {n : Nat} (h2 : ¬ (shorts n 201).length ≤ 200) : alG (n : Int) = false := by unfold alG; rw [Int.toNat_natCast, decide_eq_false h2, Bool.and_false]

set_option maxRecDepth 100000 in
set_option maxHeartbeats 2000000 in
theorem specAll_any (x : Int) (w : World) : Calls Try.prog 31 #[.int .i64 x] w fun e w' => ∃ A' c' f, e = .returned (.tuple #[.slice A' (alV x).length c', .bool (alG x)]) ∧ OwL w' w.heap.size A' c' f (alN x) (alV x).length (fun i => cs ((alV x).getD i [])) ∧ Below w.heap.size w w' := by
  have hN := shNumber_any x w
  cases h1 : isSh x with
  | false =>
    have E := Lib.hid (alV_no h1)
    have G := Lib.hid (alG_no h1)
    rw [h1] at hN
    have HN := Lib.hid hN
    clear hN h1
    go_enter Try.func31, Try.ntmps31
    go_wp2_with (go_at_call 49; refine HN.out.mono ?_; rintro e w' ⟨rfl, rfl⟩)
    go_ret2
    rw [E.out, G.out]
    exact ⟨none, 0, fun _ => (none, 0), rfl, ⟨World.ownsRow_nil _ _ _ _, fun i hi => absurd hi (Nat.not_lt_zero _)⟩, Below.refl _ _⟩
  | true =>
    have r1 := isSh_rng h1
    obtain ⟨n, rfl⟩ : ∃ n : Nat, x = n := ⟨x.toNat, by omega⟩
    obtain ⟨k9, _, _⟩ := lenN_spec (n := n) (by omega) (by omega)
    have hLn := shLength_any n (w.alloc (.cells #[.int .i64 1] 3)) (by omega) (by omega)
    have hS := fun (W : World) (hr : Rd W W.heap.size 1 (some ⟨w.heap.size, 0, none⟩) 1 (([1] : List Int).map I)) => search1_any n (lenN n) 201 W (some ⟨w.heap.size, 0, none⟩) 1 (by omega) (by omega) k9 (by omega) (by omega) hr
    rw [show firstsN n (lenN n) 201 = shorts n 201 from rfl] at hS
    have O1 := Lib.hid (own_one (w := w) (B := 0) 1 (by omega))
    have HLn := Lib.hid hLn
    clear hLn
    rw [h1] at hN
    have HN := Lib.hid hN
    by_cases hle : (shorts n 201).length ≤ 200
    · have E := Lib.hid (show alV (n : Int) = shorts n 201 from alV_yes h1 hle)
      have G := Lib.hid (show alG (n : Int) = true from alG_yes h1 hle)
      obtain ⟨V, hVV⟩ : ∃ V, shorts n 201 = V := ⟨_, rfl⟩
      rw [hVV] at hS hle E
      have HS := Lib.hid hS
      have ile : ¬ (200 : Int) < (V.length : Int) := by omega
      clear hN h1 hS hVV hle
      go_enter Try.func31, Try.ntmps31
      go_wp2_with (first
        | (go_at_call 49; refine HN.out.mono ?_; rintro e w' ⟨rfl, rfl⟩)
        | (go_at_call 50; refine HLn.out.mono ?_; rintro e w1 ⟨rfl, hb1⟩; have B1 := Lib.hid hb1; have O1' := Lib.hid (OwI.below O1.out hb1); clear hb1)
        | (go_at_call 52; refine (HS.out w1 (OwI.rd O1'.out)).mono ?_; rintro e w2 ⟨A2, c2, f2, rfl, hown2, hb2⟩; have OWN := Lib.hid hown2; have B2 := Lib.hid (((Below.refl w.heap.size w).alloc (Nat.le_refl _) (.cells #[.int .i64 1] 3)).trans ((B1.out.mono (by simp)).trans (hb2.mono (by have := B1.out.size; simp at this; omega)))); have hz1 := B1.out.size; clear hown2 hb2))
      go_ret2
      rw [E.out, G.out]
      exact ⟨A2, c2, f2, rfl, OWN.out.base (by simp at hz1; omega), B2.out⟩
    · have E := Lib.hid (show alV (n : Int) = [] from alV_big hle)
      have G := Lib.hid (show alG (n : Int) = false from alG_big hle)
      obtain ⟨V, hVV⟩ : ∃ V, shorts n 201 = V := ⟨_, rfl⟩
      rw [hVV] at hS hle
      have HS := Lib.hid hS
      have ile : (200 : Int) < (V.length : Int) := by omega
      clear hN h1 hS hVV hle
      go_enter Try.func31, Try.ntmps31
      go_wp2_with (first
        | (go_at_call 49; refine HN.out.mono ?_; rintro e w' ⟨rfl, rfl⟩)
        | (go_at_call 50; refine HLn.out.mono ?_; rintro e w1 ⟨rfl, hb1⟩; have B1 := Lib.hid hb1; have O1' := Lib.hid (OwI.below O1.out hb1); clear hb1)
        | (go_at_call 52; refine (HS.out w1 (OwI.rd O1'.out)).mono ?_; rintro e w2 ⟨A2, c2, f2, rfl, hown2, hb2⟩; have OWN := Lib.hid hown2; have B2 := Lib.hid (((Below.refl w.heap.size w).alloc (Nat.le_refl _) (.cells #[.int .i64 1] 3)).trans ((B1.out.mono (by simp)).trans (hb2.mono (by have := B1.out.size; simp at this; omega)))); have hz1 := B1.out.size; clear hown2 hb2))
      go_ret2
      rw [E.out, G.out]
      exact ⟨none, 0, fun _ => (none, 0), rfl, ⟨World.ownsRow_nil _ _ _ _, fun i hi => absurd hi (Nat.not_lt_zero _)⟩, B2.out⟩

set_option maxRecDepth 100000 in
set_option maxHeartbeats 2000000 in
theorem implAll_any (x : Int) (w : World) : Calls Try.prog 32 #[.int .i64 x] w fun e w' => ∃ A' c' f, e = .returned (.tuple #[.slice A' (alV x).length c', .bool (alG x)]) ∧ OwL w' w.heap.size A' c' f (alN x) (alV x).length (fun i => cs ((alV x).getD i [])) ∧ Far f (alN x) (alV x).length ∧ Below w.heap.size w w' := by
  have hN := isShort_any x w
  cases h1 : isSh x with
  | false =>
    have E := Lib.hid (alV_no h1)
    have G := Lib.hid (alG_no h1)
    rw [h1] at hN
    have HN := Lib.hid hN
    clear hN h1
    go_enter Try.func32, Try.ntmps32
    go_wp2_with (go_at_call 53; refine HN.out.mono ?_; rintro e w' ⟨rfl, rfl⟩)
    go_ret2
    rw [E.out, G.out]
    exact ⟨none, 0, fun _ => (none, 0), rfl, ⟨World.ownsRow_nil _ _ _ _, fun i hi => absurd hi (Nat.not_lt_zero _)⟩, (fun i j hi => absurd hi (Nat.not_lt_zero _)), Below.refl _ _⟩
  | true =>
    have r1 := isSh_rng h1
    obtain ⟨n, rfl⟩ : ∃ n : Nat, x = n := ⟨x.toNat, by omega⟩
    obtain ⟨k9, _, _⟩ := lenN_spec (n := n) (by omega) (by omega)
    have hS := shortestStars_any n 201 w (by omega) (by omega) (by omega)
    rw [h1] at hN
    have HN := Lib.hid hN
    by_cases hle : (shorts n 201).length ≤ 200
    · have E := Lib.hid (show alV (n : Int) = shorts n 201 from alV_yes h1 hle)
      have G := Lib.hid (show alG (n : Int) = true from alG_yes h1 hle)
      obtain ⟨V, hVV⟩ : ∃ V, shorts n 201 = V := ⟨_, rfl⟩
      rw [hVV] at hS hle E
      have HS := Lib.hid hS
      have ile : ¬ (200 : Int) < (V.length : Int) := by omega
      clear hN h1 hS hVV hle
      go_enter Try.func32, Try.ntmps32
      go_wp2_with (first
        | (go_at_call 53; refine HN.out.mono ?_; rintro e w' ⟨rfl, rfl⟩)
        | (go_at_call 56; refine HS.out.mono ?_; rintro e w2 ⟨A2, c2, f2, rfl, hown2, hfar2, hb2⟩; have OWN := Lib.hid hown2; have FAR := Lib.hid hfar2; have B2 := Lib.hid hb2; clear hown2 hfar2 hb2))
      go_ret2
      rw [E.out, G.out]
      exact ⟨A2, c2, f2, rfl, OWN.out, FAR.out, B2.out⟩
    · have E := Lib.hid (show alV (n : Int) = [] from alV_big hle)
      have G := Lib.hid (show alG (n : Int) = false from alG_big hle)
      obtain ⟨V, hVV⟩ : ∃ V, shorts n 201 = V := ⟨_, rfl⟩
      rw [hVV] at hS hle
      have HS := Lib.hid hS
      have ile : (200 : Int) < (V.length : Int) := by omega
      clear hN h1 hS hVV hle
      go_enter Try.func32, Try.ntmps32
      go_wp2_with (first
        | (go_at_call 53; refine HN.out.mono ?_; rintro e w' ⟨rfl, rfl⟩)
        | (go_at_call 56; refine HS.out.mono ?_; rintro e w2 ⟨A2, c2, f2, rfl, hown2, hfar2, hb2⟩; have OWN := Lib.hid hown2; have FAR := Lib.hid hfar2; have B2 := Lib.hid hb2; clear hown2 hfar2 hb2))
      go_ret2
      rw [E.out, G.out]
      exact ⟨none, 0, fun _ => (none, 0), rfl, ⟨World.ownsRow_nil _ _ _ _, fun i hi => absurd hi (Nat.not_lt_zero _)⟩, (fun i j hi => absurd hi (Nat.not_lt_zero _)), B2.out⟩
end Go.Proofs.Ytppahohakiidmaa
