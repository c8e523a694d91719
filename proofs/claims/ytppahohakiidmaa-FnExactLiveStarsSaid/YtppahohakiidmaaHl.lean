/- The shortest star chains, by the program. -/
import Derived.Test.YtppahohakiidmaaHk
namespace Go.Proofs.Ytppahohakiidmaa
open Go.RowKit

def lenA (n : Nat) : Nat → Nat → Nat
  | 0, k => k
  | f + 1, k => if (firstsN n k 1).isEmpty then lenA n f (k + 1) else k
theorem lenA_spec {n : Nat} : ∀ f k K, k ≤ K → K ≤ k + f → firstsN n K 1 ≠ [] → lenA n f k ≤ K ∧ firstsN n (lenA n f k) 1 ≠ [] ∧ ∀ j, k ≤ j → j < lenA n f k → firstsN n j 1 = [] := by
  intro f
  induction f with
  | zero =>
    intro k K h1 h2 h3
    have e : K = k := by omega
    subst e
    exact ⟨Nat.le_refl _, h3, fun j a b => absurd (show j < K from b) (by omega)⟩
  | succ f ih =>
    intro k K h1 h2 h3
    unfold lenA
    cases hq : firstsN n k 1 with
    | nil =>
      have hne : k ≠ K := fun e => h3 (by rw [← e]; exact hq)
      obtain ⟨i1, i2, i3⟩ := ih (k + 1) K (by omega) (by omega) h3
      simp only [List.isEmpty_nil, if_true]
      refine ⟨i1, i2, fun j a b => ?_⟩
      rcases Nat.lt_or_eq_of_le a with h | h
      · exact i3 j h b
      · rw [← h]; exact hq
    | cons x l =>
      rw [if_neg (by simp)]
      exact ⟨h1, by rw [hq]; simp, fun j a b => absurd b (by omega)⟩
def lenN (n : Nat) : Nat := lenA n 9 0
theorem lenN_spec {n : Nat} (h1 : 1 ≤ n) (h2 : n ≤ 100) : lenN n ≤ 9 ∧ firstsN n (lenN n) 1 ≠ [] ∧ ∀ j, j < lenN n → firstsN n j 1 = [] := by
  obtain ⟨K, hK, hne⟩ := short_ex h1 h2
  rw [shS_first h1 (Nat.le_refl _)] at hne
  obtain ⟨i1, i2, i3⟩ := lenA_spec 9 0 K (by omega) (by omega) hne
  exact ⟨Nat.le_trans i1 hK, i2, fun j h => i3 j (by omega) h⟩
theorem firsts_nil {n k most : Nat} (hm : 1 ≤ most) : firstsN n k most = [] ↔ firstsN n k 1 = [] := by
  unfold firstsN
  split
  · cases leafs (fitN n k) k k [1] with
    | nil => simp
    | cons x l =>
      obtain ⟨m, rfl⟩ : ∃ m, most = m + 1 := ⟨most - 1, by omega⟩
      simp
  · simp
theorem firsts_len {n k most : Nat} : (firstsN n k most).length ≤ most := by
  unfold firstsN
  split
  · rw [List.length_take]; omega
  · simp
/-- The shortest ones. -/
def shorts (n most : Nat) : List (List Nat) := firstsN n (lenN n) most

set_option maxRecDepth 100000 in
set_option maxHeartbeats 2000000 in
theorem shortestStars_any (n most : Nat) (w : World) (hn1 : 1 ≤ n) (hn : n ≤ 100) (hm1 : 1 ≤ most) :
    Calls Try.prog 56 #[.int .i64 (n : Int), .int .i64 (most : Int)] w fun e w' => ∃ A c f, e = .returned (.slice A (shorts n most).length c) ∧ OwL w' w.heap.size A c f (lenN n + 1) (shorts n most).length (fun i => cs ((shorts n most).getD i [])) ∧ Far f (lenN n + 1) (shorts n most).length ∧ Below w.heap.size w w' := by
  obtain ⟨k9, kne, kem⟩ := lenN_spec hn1 hn
  have hF := fun L (hL : L ≤ 9) (W : World) => firstStars_any n L most W hn hL hm1
  have hZne : shorts n most ≠ [] := fun e => kne ((firsts_nil hm1).1 e)
  have hZe : ∀ j, j < lenN n → firstsN n j most = [] := fun j h => (firsts_nil hm1).2 (kem j h)
  obtain ⟨K, hK⟩ : ∃ K, lenN n = K := ⟨_, rfl⟩
  have hZ : shorts n most = firstsN n K most := by unfold shorts; rw [hK]
  obtain ⟨Z, hZZ⟩ : ∃ Z, shorts n most = Z := ⟨_, rfl⟩
  rw [hK] at k9 hZe
  rw [hZZ] at hZne hZ
  rw [hK, hZZ]
  have HF := Lib.hid hF
  have HZ := Lib.hid hZ
  have HE := Lib.hid hZe
  have hR : 1 ≤ Z.length := List.length_pos_iff.2 hZne
  clear hF hZ hZe hZne kne kem hK hZZ
  go_enter Try.func56, Try.ntmps56
  go_wp2
  go_loopg [5, 6] (K + 2) (fun gk v5 v6 wr => ∃ (k : Nat) (A : Option Addr) (c R : Nat), v6 = .int .i64 (k : Int) ∧ v5 = .slice A R c ∧ K + 2 ≤ gk + k ∧ Aside (((R = 0 ∧ k ≤ K) ∨ (k = K + 1 ∧ R = Z.length ∧ ∃ f, OwL wr w.heap.size A c f (K + 1) R (fun i => cs (Z.getD i [])) ∧ Far f (K + 1) R)) ∧ Below w.heap.size w wr))
  case atStart => exact ⟨0, none, 0, 0, rfl, rfl, by omega, .inl ⟨rfl, by omega⟩, Below.refl _ _⟩
  case round =>
    obtain ⟨k, A, c, R, rfl, rfl, hgk, AS⟩ := hrel
    have BEL := Lib.hid AS.out.2
    have hs : w.heap.size ≤ wr.heap.size := AS.out.2.size
    rcases AS.out.1 with ⟨h0, hk⟩ | ⟨hk, hRl, hown⟩
    · clear AS
      subst h0
      have HC := Lib.hid (HF.out k (by omega) wr)
      by_cases hlt : k < K
      · have hnil := HE.out k hlt
        rw [hnil] at HC
        go_wp2_with (go_at_call 55; refine HC.out.mono ?_; rintro e w2 ⟨A2, c2, f2, rfl, hown2, hfar2, hb2⟩)
        go_roundg (gk - 1)
        case measure => omega
        case rel => exact ⟨k + 1, A2, c2, 0, by go_num, rfl, by omega, .inl ⟨rfl, by omega⟩, BEL.out.trans (hb2.mono hs)⟩
      · have e : k = K := by omega
        subst e
        rw [← HZ.out] at HC
        go_wp2_with (go_at_call 55; refine HC.out.mono ?_; rintro e w2 ⟨A2, c2, f2, rfl, hown2, hfar2, hb2⟩)
        go_roundg (gk - 1)
        case measure => omega
        case rel => exact ⟨k + 1, A2, c2, Z.length, by go_num, rfl, by omega, .inr ⟨rfl, rfl, f2, hown2.base hs, hfar2⟩, BEL.out.trans (hb2.mono hs)⟩
    · clear AS
      obtain ⟨f, ho, hf⟩ := hown
      have HO := Lib.hid ho
      have HFa := Lib.hid hf
      have HRl := Lib.hid hRl
      have ir : ((R : Int) == 0) = false := by rw [beq_eq_false_iff_ne]; omega
      clear ho hf hRl
      go_wp2
      go_ret
      have e := HRl.out
      subst e
      exact ⟨A, c, f, rfl, HO.out, HFa.out, BEL.out⟩
end Go.Proofs.Ytppahohakiidmaa
