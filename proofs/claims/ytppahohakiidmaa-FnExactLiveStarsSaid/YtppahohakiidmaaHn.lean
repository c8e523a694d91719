/- FirstStar, ShortestStar, StarLength, AllShortest: both sides. -/
import Derived.Test.YtppahohakiidmaaHm
import Derived.Test.YtppahohakiidmaaHe
namespace Go.Proofs.Ytppahohakiidmaa
open Go.RowKit

def isCt (y : Int) : Bool := inB y 0 8
theorem isCt_rng {n : Int} (h : isCt n = true) : 0 ≤ n ∧ n ≤ 8 := by
  unfold isCt inB at h
  simpa using h
theorem shCounted_any (n : Int) (w : World) : Calls Try.prog 51 #[.int .i64 n] w fun e w' => e = .returned (.bool (isCt n)) ∧ w = w' := by
  go_enter Try.func51, Try.ntmps51
  go_wp2_with (go_at_call 61; refine (l1In_any _ _ _ _).mono ?_; rintro e w' ⟨rfl, rfl⟩)
  go_ret
  exact ⟨rfl, rfl⟩
theorem isCounted_any (n : Int) (w : World) : Calls Try.prog 54 #[.int .i64 n] w fun e w' => e = .returned (.bool (isCt n)) ∧ w = w' := by
  by_cases h1 : 0 ≤ n <;> by_cases h2 : n ≤ 8
  all_goals
    go_enter Try.func54, Try.ntmps54
    go_wp2
    go_ret
    exact ⟨ret_bool (by simp [isCt, inB, h1, h2]), rfl⟩

theorem firsts_rows {n L most : Nat} : ∀ l ∈ firstsN n L most, l.length = L + 1 := by
  intro l hl
  unfold firstsN at hl
  split at hl
  · have := List.mem_of_mem_take hl
    unfold leafs at this
    have := (List.mem_filter.1 this).2
    simpa using this
  · exact absurd hl (by simp)
theorem getD0_len {Z : List (List Nat)} {N : Nat} (h : ∀ l ∈ Z, l.length = N) (hz : Z ≠ []) : (cs (Z.getD 0 [])).length = N := by
  cases Z with
  | nil => exact absurd rfl hz
  | cons z Z => rw [cs_len]; exact h z (by simp)
/-- The first row. -/
theorem OwL.row0 {w : World} {B : Nat} {A : Option Addr} {c N R : Nat} {f : Nat → Option Addr × Nat} {r : Nat → List Int} (h : OwL w B A c f N R r) (hR : 0 < R) :
    ∃ g A' c', A = some ⟨g, 0, none⟩ ∧ w.cell? ⟨g, 0, none⟩ = some (.slice A' N c') ∧ OwI w B (.slice A' N c') (r 0) ∧ (r 0).length = N := by
  obtain ⟨g, rfl, _, _, hc, _, hl⟩ := h.at_ hR
  refine ⟨g, (f 0).1, (f 0).2, rfl, hc, ?_, hl⟩
  have := h.2 0 hR
  unfold OwI
  rw [hl]
  exact this

theorem search1_any (n L most : Nat) (W : World) (A : Option Addr) (cc : Nat) (hn1 : 1 ≤ n) (hn : n ≤ 100) (hL : L ≤ 9) (hm1 : 1 ≤ most) (hm : most ≤ 300) (hr : Rd W W.heap.size 1 A 1 (([1] : List Int).map I)) :
    Calls Try.prog 52 #[.slice A 1 cc, .int .i64 (n : Int), .int .i64 (L : Int), .int .i64 (most : Int)] W fun e w' => ∃ A' c' f, e = .returned (.slice A' (firstsN n L most).length c') ∧ OwL w' W.heap.size A' c' f (L + 1) (firstsN n L most).length (fun i => cs ((firstsN n L most).getD i [])) ∧ Below W.heap.size W w' := by
  have h := shSearch_any n hn L (L + 1) most 1 [1] W.heap.size A cc W rfl (Nat.le_refl _) (by omega) (by omega) hm1 hm (fun i hi => by
    have : i = 0 := by omega
    subst this
    show (1 : Nat) ≤ 100
    omega) (Nat.le_refl _) hr
  rw [shS_first hn1 hm1] at h
  exact h

set_option maxRecDepth 100000 in
set_option maxHeartbeats 2000000 in
theorem shLength_any (n : Nat) (w : World) (hn1 : 1 ≤ n) (hn : n ≤ 100) : Calls Try.prog 50 #[.int .i64 (n : Int)] w fun e w' => e = .returned (.int .i64 (lenN n : Int)) ∧ Below w.heap.size w w' := by
  obtain ⟨k9, kne, kem⟩ := lenN_spec hn1 hn
  have hS := fun L (hL : L ≤ 9) (W : World) A cc hr => search1_any n L 1 W A cc hn1 hn hL (Nat.le_refl _) (by omega) hr
  obtain ⟨K, hK⟩ : ∃ K, lenN n = K := ⟨_, rfl⟩
  rw [hK] at k9 kne kem ⊢
  have HS := Lib.hid hS
  have KE := Lib.hid kem
  have KN := Lib.hid (show 1 ≤ (firstsN n K 1).length from List.length_pos_iff.2 kne)
  clear hS kem kne hK
  go_enter Try.func50, Try.ntmps50
  go_wp2
  go_loopw [3] (fun kv wr => ∃ k : Nat, k ≤ K ∧ kv = .int .i64 (k : Int) ∧ Below w.heap.size w wr) (fun kv _ => K - (intOf kv).toNat)
  case atStart => exact ⟨0, by omega, rfl, Below.refl _ _⟩
  case round =>
    obtain ⟨k, hk, rfl, hbel⟩ := hrel
    have BEL := Lib.hid hbel
    have hs := hbel.size
    clear hbel
    have HC := Lib.hid (HS.out k (by omega) (wr.alloc (.cells #[.int .i64 1] 3)) (some ⟨wr.heap.size, 0, none⟩) 1 (own_one (w := wr) (B := 0) 1 (by omega)).rd)
    by_cases hlt : k < K
    · have e := KE.out k hlt
      rw [e] at HC
      go_wp2_with (go_at_call 52; refine HC.out.mono ?_; rintro e w2 ⟨A2, c2, f2, rfl, hown2, hb2⟩)
      go_roundw
      case rel => exact ⟨k + 1, by omega, by go_num, (BEL.out.alloc hs _).trans (hb2.mono (by simp; omega))⟩
      case measure => simp [intOf]; omega
    · have e : k = K := by omega
      subst e
      obtain ⟨R, hR⟩ : ∃ R, (firstsN n k 1).length = R := ⟨_, rfl⟩
      have hR1 := KN.out
      rw [hR] at hR1 HC
      have iR : (0 : Int) < (R : Int) := by omega
      clear hR
      go_wp2_with (go_at_call 52; refine HC.out.mono ?_; rintro e w2 ⟨A2, c2, f2, rfl, hown2, hb2⟩)
      go_ret
      exact ⟨rfl, (BEL.out.alloc hs _).trans (hb2.mono (by simp; omega))⟩

/- FirstStar -/
def fsV (x y : Int) : List (List Nat) := if isSh x && isCt y then firstsN x.toNat y.toNat 1 else []
def fsL (x y : Int) : List Int := cs ((fsV x y).getD 0 [])
def fsG (x y : Int) : Bool := !(fsV x y).isEmpty
theorem fsV_yes {x y : Int} (h1 : isSh x = true) (h2 : isCt y = true) : fsV x y = firstsN x.toNat y.toNat 1 := by unfold fsV; rw [h1, h2]; rfl
theorem fsV_no1 {x : Int} (y : Int) (h1 : isSh x = false) : fsV x y = [] := by unfold fsV; rw [h1]; rfl
theorem fsV_no2 (x : Int) {y : Int} (h1 : isCt y = false) : fsV x y = [] := by unfold fsV; rw [h1, Bool.and_false]; rfl
theorem fsL_nil {x y : Int} (h : fsV x y = []) : fsL x y = [] := by unfold fsL; rw [h]; rfl
theorem fsG_nil {x y : Int} (h : fsV x y = []) : fsG x y = false := by unfold fsG; rw [h]; rfl
theorem fsL_le (x y : Int) : (fsL x y).length ≤ 1000 := by
  by_cases hz : fsV x y = []
  · rw [fsL_nil hz]; simp
  · cases h1 : isSh x with
    | false => exact absurd (fsV_no1 y h1) hz
    | true =>
      cases h2 : isCt y with
      | false => exact absurd (fsV_no2 x h2) hz
      | true =>
        have hr := isCt_rng h2
        unfold fsL
        rw [fsV_yes h1 h2] at hz ⊢
        rw [getD0_len firsts_rows hz]
        omega

set_option maxRecDepth 100000 in
set_option maxHeartbeats 2000000 in
theorem specFirst_any (x y : Int) (w : World) : Calls Try.prog 21 #[.int .i64 x, .int .i64 y] w fun e w' => ∃ A' c', e = .returned (.tuple #[.slice A' (fsL x y).length c', .bool (fsG x y)]) ∧ OwI w' w.heap.size (.slice A' (fsL x y).length c') (fsL x y) ∧ Below w.heap.size w w' := by
  have hN := shNumber_any x w
  have hC := shCounted_any y w
  cases h1 : isSh x with
  | false =>
    have E := Lib.hid (fsL_nil (fsV_no1 y h1))
    have G := Lib.hid (fsG_nil (fsV_no1 y h1))
    rw [h1] at hN
    have HN := Lib.hid hN
    clear hN h1 hC
    go_enter Try.func21, Try.ntmps21
    go_wp2_with (go_at_call 49; refine HN.out.mono ?_; rintro e w' ⟨rfl, rfl⟩)
    go_ret2
    exact ⟨none, 0, by rw [E.out, G.out]; rfl, by rw [E.out]; exact OwI.nil _ _, Below.refl _ _⟩
  | true =>
  cases h2 : isCt y with
  | false =>
    have E := Lib.hid (fsL_nil (fsV_no2 x h2))
    have G := Lib.hid (fsG_nil (fsV_no2 x h2))
    rw [h1] at hN
    rw [h2] at hC
    have HN := Lib.hid hN
    have HC := Lib.hid hC
    clear hN h1 hC h2
    go_enter Try.func21, Try.ntmps21
    go_wp2_with (first
      | (go_at_call 49; refine HN.out.mono ?_; rintro e w' ⟨rfl, rfl⟩)
      | (go_at_call 51; refine HC.out.mono ?_; rintro e w' ⟨rfl, rfl⟩))
    go_ret2
    exact ⟨none, 0, by rw [E.out, G.out]; rfl, by rw [E.out]; exact OwI.nil _ _, Below.refl _ _⟩
  | true =>
    have r1 := isSh_rng h1
    have r2 := isCt_rng h2
    have hV := fsV_yes h1 h2
    obtain ⟨n, rfl⟩ : ∃ n : Nat, x = n := ⟨x.toNat, by omega⟩
    obtain ⟨L, rfl⟩ : ∃ L : Nat, y = L := ⟨y.toNat, by omega⟩
    rw [Int.toNat_natCast, Int.toNat_natCast] at hV
    have hS := search1_any n L 1 (w.alloc (.cells #[.int .i64 1] 3)) (some ⟨w.heap.size, 0, none⟩) 1 (by omega) (by omega) (by omega) (Nat.le_refl _) (by omega) (own_one (w := w) (B := 0) 1 (by omega)).rd
    rw [← hV] at hS
    have hrows : ∀ l ∈ fsV (n : Int) (L : Int), l.length = L + 1 := by rw [hV]; exact firsts_rows
    rw [h1] at hN
    rw [h2] at hC
    have HN := Lib.hid hN
    have HC := Lib.hid hC
    have HS := Lib.hid hS
    by_cases hz : fsV (n : Int) (L : Int) = []
    · have E := Lib.hid (fsL_nil hz)
      have G := Lib.hid (fsG_nil hz)
      rw [hz] at HS
      clear hN h1 hC h2 hS hz hV hrows
      go_enter Try.func21, Try.ntmps21
      go_wp2_with (first
        | (go_at_call 49; refine HN.out.mono ?_; rintro e w' ⟨rfl, rfl⟩)
        | (go_at_call 51; refine HC.out.mono ?_; rintro e w' ⟨rfl, rfl⟩)
        | (go_at_call 52; refine HS.out.mono ?_; rintro e w2 ⟨A2, c2, f2, rfl, hown2, hb2⟩))
      go_ret2
      exact ⟨none, 0, by rw [E.out, G.out]; rfl, by rw [E.out]; exact OwI.nil _ _, ((Below.refl _ _).alloc (Nat.le_refl _) _).trans (hb2.mono (by simp))⟩
    · have EL := Lib.hid (show (fsL (n : Int) (L : Int)).length = L + 1 from getD0_len hrows hz)
      have G := Lib.hid (show fsG (n : Int) (L : Int) = true by
        unfold fsG
        cases hq : fsV (n : Int) (L : Int) with
        | nil => exact absurd hq hz
        | cons _ _ => rfl)
      have hR1 : 1 ≤ (fsV (n : Int) (L : Int)).length := List.length_pos_iff.2 hz
      have EV := Lib.hid (show cs ((fsV (n : Int) (L : Int)).getD 0 []) = fsL (n : Int) (L : Int) from rfl)
      obtain ⟨V, hVV⟩ : ∃ V, fsV (n : Int) (L : Int) = V := ⟨_, rfl⟩
      obtain ⟨U, hU⟩ : ∃ U, fsL (n : Int) (L : Int) = U := ⟨_, rfl⟩
      rw [hVV] at HS hR1 EV
      rw [hU] at EL EV ⊢
      have iR : ((V.length : Int) == 0) = false := by rw [beq_eq_false_iff_ne]; omega
      have iR0 : (0 : Int) < (V.length : Int) := by omega
      clear hN h1 hC h2 hS hz hV hrows hVV hU
      go_enter Try.func21, Try.ntmps21
      go_wp2_with (first
        | (go_at_call 49; refine HN.out.mono ?_; rintro e w' ⟨rfl, rfl⟩)
        | (go_at_call 51; refine HC.out.mono ?_; rintro e w' ⟨rfl, rfl⟩)
        | (go_at_call 52; refine HS.out.mono ?_; rintro e w2 ⟨A2, c2, f2, rfl, hown2, hb2⟩; obtain ⟨g, A3, c3, rfl, hcell, hrow, _⟩ := hown2.row0 hR1; have ROW := Lib.hid hrow; have B2 := Lib.hid hb2; clear hrow hown2 hb2))
      go_ret2
      have hrow := ROW.out
      rw [EV.out] at hrow
      refine ⟨A3, c3, by rw [G.out, EL.out]; rfl, ?_, ((Below.refl _ _).alloc (Nat.le_refl _) _).trans (B2.out.mono (by simp))⟩
      rw [EL.out]
      exact OwI.base hrow (by simp)
end Go.Proofs.Ytppahohakiidmaa
