/- New numbers of values: what they are; the model's small functions. -/
import Derived.Test.YtbbjgcagkmlngacAp
namespace Go.Proofs.Ytbbjgcagkmlngac
open Go.RowKit

def plc : List Int → Int → Nat → Int
  | [], _, _ => -1
  | x :: l, n, k => if x == n then (k : Int) else plc l n (k + 1)
theorem plc_app (l r : List Int) (n : Int) (k : Nat) : plc (l ++ r) n k = if hasI l n then plc l n k else plc r n (k + l.length) := by
  induction l generalizing k with
  | nil => simp [hasI]
  | cons x l ih =>
    by_cases h : x = n
    · subst h
      simp [plc, hasI]
    · have h1 : (x == n) = false := by simpa using h
      have h2 : hasI (x :: l) n = hasI l n := by
        unfold hasI
        rw [Bool.eq_iff_iff]
        simp
        intro e
        exact absurd e.symm h
      simp only [List.cons_append, plc, h1, h2, Bool.false_eq_true, if_false]
      rw [ih]
      simp only [List.length_cons]
      rw [show k + 1 + l.length = k + (l.length + 1) by omega]
theorem plc_none {l : List Int} {n : Int} (h : hasI l n = false) (k : Nat) : plc l n k = -1 := by
  have h1 := plc_app l [] n k
  rw [List.append_nil, h] at h1
  rw [h1]
  rfl
theorem plc_bd (l : List Int) (n : Int) (k : Nat) : -1 ≤ plc l n k ∧ plc l n k < k + l.length + 1 := by
  induction l generalizing k with
  | nil => simp [plc]; omega
  | cons x l ih =>
    unfold plc
    split
    · simp only [List.length_cons]; omega
    · have := ih (k + 1)
      simp only [List.length_cons]
      omega
theorem plc_nonneg {l : List Int} {n : Int} (h : hasI l n = true) (k : Nat) : (k : Int) ≤ plc l n k := by
  induction l generalizing k with
  | nil => simp [hasI] at h
  | cons x l ih =>
    unfold plc
    split
    · omega
    · rename_i hx
      have h2 : hasI l n = true := by
        unfold hasI at h ⊢
        simp at h hx ⊢
        rcases h with h | h
        · exact absurd h.symm hx
        · exact h
      have := ih h2 (k + 1)
      omega
theorem plc_hit {l : List Int} {n : Int} {k : Nat} (hk : k < l.length) (hq : hasI (l.take k) n = false) (h : (l[k] == n) = true) : plc l n 0 = k := by
  have e : l = l.take k ++ l[k] :: l.drop (k + 1) := by simp
  have h1 := plc_app (l.take k) (l[k] :: l.drop (k + 1)) n 0
  rw [← e, hq] at h1
  rw [h1]
  simp only [Bool.false_eq_true, if_false, plc, h, if_true]
  simp
  omega

def numI (N : Nat) (l : List Int) (v : Int) : Int := if v < N then v else N + plc l (v - N) 0
def stI (a b : Int) : Int × Int := (leastI a b, mostI a b)
def keepS (p : Pl) (N : Nat) (l : List Int) (k : Nat) : List (Int × Int) := (l.take k).map fun i => stI (numI N l (p.s.getD i.toNat (0, 0)).1) (numI N l (p.s.getD i.toNat (0, 0)).2)
def keepO (p : Pl) (N : Nat) (l : List Int) (k : Nat) : List Int := (p.o.take k).map (numI N l)
theorem keepS_len (p : Pl) (N : Nat) (l : List Int) {k : Nat} (hk : k ≤ l.length) : (keepS p N l k).length = k := by simp [keepS]; omega
theorem keepO_len (p : Pl) (N : Nat) (l : List Int) {k : Nat} (hk : k ≤ p.o.length) : (keepO p N l k).length = k := by simp [keepO]; omega
theorem keepS_succ {p : Pl} {N : Nat} {l : List Int} {k n : Nat} (hk : k < l.length) (hn : l[k] = (n : Int)) (hns : n < p.s.length) : keepS p N l (k + 1) = keepS p N l k ++ [stI (numI N l (p.s[n]).1) (numI N l (p.s[n]).2)] := by
  unfold keepS
  rw [List.take_succ_eq_append_getElem hk, List.map_append, hn]
  simp [hns]
theorem keepO_succ {p : Pl} {N : Nat} {l : List Int} {k : Nat} (hk : k < p.o.length) : keepO p N l (k + 1) = keepO p N l k ++ [numI N l p.o[k]] := by
  unfold keepO
  rw [List.take_succ_eq_append_getElem hk, List.map_append]
  rfl
theorem numI_bd {N : Nat} {l : List Int} {v : Int} (h6 : N ≤ 6) (h0 : 0 ≤ v) : -1 ≤ numI N l v ∧ numI N l v ≤ N + l.length := by
  unfold numI
  split
  · omega
  · have := plc_bd l (v - N) 0
    omega

set_option maxHeartbeats 400000 in
theorem plPlace_any (B : Nat) (A : Option Addr) (c : Nat) (l : List Int) (n : Int) (w : World) (hm : l.length ≤ 4000000) (hr : Rd w B 1 A l.length (l.map I)) :
    Calls Try.prog 72 #[.slice A l.length c, .int .i64 n] w fun e w' => e = .returned (.int .i64 (plc l n 0)) ∧ w = w' := by
  have H := Lib.hid hr
  clear hr
  go_enter Try.func72, Try.ntmps72
  go_wp2
  go_loop [9] (fun i => ∃ k : Nat, k ≤ l.length ∧ i = .int .i64 k ∧ hasI (l.take k) n = false) (fun i => l.length - (intOf i).toNat)
  case atStart => exact ⟨0, by omega, rfl, rfl⟩
  case round =>
    obtain ⟨k, hk, rfl, hq⟩ := hrel
    have Q := Lib.hid hq
    clear hq
    by_cases hlt : k < l.length
    · obtain ⟨b, off, rfl, hb, hcell⟩ := H.out.int hlt
      go_wp2
      · go_ret
        exact ⟨ret_int (plc_hit hlt Q.out (by assumption)).symm, rfl⟩
      · have hne : (l[k] == n) = false := by assumption
        go_round
        case rel => exact ⟨k + 1, by omega, by go_num, by rw [hasI_take hlt Q.out]; exact hne⟩
        case measure => simp [intOf]; omega
    · have hk' : k = l.length := by omega
      have hq := Q.out
      rw [hk', List.take_of_length_le (Nat.le_refl _)] at hq
      have e := plc_none hq 0
      have E := Lib.hid e
      clear hq e hk'
      go_wp2
      go_ret
      exact ⟨ret_int E.out.symm, rfl⟩

set_option maxRecDepth 100000 in
set_option maxHeartbeats 400000 in
theorem plNumber_any (B N : Nat) (z1 z2 : Value) (A : Option Addr) (c : Nat) (l : List Int) (v : Int) (w : World) (h6 : N ≤ 6) (hm : l.length ≤ 1000) (h0 : 0 ≤ v) (h1 : v ≤ 1000000) (hB : B ≤ w.heap.size) (hr : Rd w B 1 A l.length (l.map I)) :
    Calls Try.prog 87 #[.agg #[.int .i64 (N : Int), z1, z2], .slice A l.length c, .int .i64 v] w fun e w' => e = .returned (.int .i64 (numI N l v)) ∧ Below w.heap.size w w' := by
  have H := Lib.hid hr
  clear hr
  by_cases hv : v < N
  · have e : numI N l v = v := by simp [numI, hv]
    have E := Lib.hid e
    clear e
    go_enter Try.func87, Try.ntmps87
    go_wp2
    go_ret
    exact ⟨by rw [E.out]; rfl, (Below.refl _ _).alloc (Nat.le_refl _) _⟩
  · have bd := plc_bd l (v - N) 0
    obtain ⟨q, hq⟩ : ∃ q, plc l (v - N) 0 = q := ⟨_, rfl⟩
    rw [hq] at bd
    have e : numI N l v = N + q := by simp [numI, hv, hq]
    have E := Lib.hid e
    have hC := fun W hB => plPlace_any B A c l (v - N) W (by omega) hB
    rw [hq] at hC
    have HC := Lib.hid hC
    have hsub : IntKind.i64.wrap (v - (N : Int)) = v - N := IntWalk.i64_in _ (by omega)
    have hadd : IntKind.i64.wrap ((N : Int) + q) = N + q := IntWalk.i64_in _ (by omega)
    clear e hC hq
    go_enter Try.func87, Try.ntmps87
    go_wp2
    refine wp_region_Tw [0, 1, 2, 3, 4, 5, 6, 8, 9] [1, 5] (.lp 0 (.lp 2 (.lp 3 (.lp 4 (.ls 1 (.ls 5 (.lp 6 (.hv 7 (.lp 8 (.lp 9 (.done))))))))))) (by kernel_rfl) (by kernel_rfl) ?_
    (repeat (first | (refine T_lp rfl (fun K hK => ?_); go_simp; refine hK _ ?_; clear hK K) | (refine T_ls rfl rfl (fun K hK => ?_); go_simp; refine hK _ ?_; clear hK K)))
    refine T_hvS rfl (fun K hK => ?_)
    go_simp
    go_at_call 72
    generalize hw1 : World.drew (World.alloc w _) = w1
    have hb1 : Below w.heap.size w w1 := by rw [← hw1]; exact ((Below.refl _ _).alloc (Nat.le_refl _) _).drew
    refine (HC.out w1 (H.out.below' hb1 hB)).mono ?_
    rintro e w' ⟨rfl, rfl⟩
    go_simp
    refine hK _ _ (by first | rfl | exact hw1.symm) ?_
    clear hK K
    (repeat (first | (refine T_lp rfl (fun K hK => ?_); go_simp; refine hK _ ?_; clear hK K) | (refine T_ls rfl rfl (fun K hK => ?_); go_simp; refine hK _ ?_; clear hK K)))
    refine T_done ?_
    go_wp2
    go_ret
    exact ⟨by rw [E.out]; rfl, hb1⟩

set_option maxHeartbeats 400000 in
theorem plStep_any (a b : Int) (w : World) :
    Calls Try.prog 86 #[.int .i64 a, .int .i64 b] w fun e w' => e = .returned (.agg #[.int .i64 (leastI a b), .int .i64 (mostI a b)]) ∧ Below w.heap.size w w' := by
  go_enter Try.func86, Try.ntmps86
  go_wp2_with (first | (go_at_call 98; refine (l1Least_any _ _ _).mono ?_; rintro e w' ⟨rfl, rfl⟩) | (go_at_call 99; refine (l1Most_any _ _ _).mono ?_; rintro e w' ⟨rfl, rfl⟩))
  refine bodyPost_ret (v := .agg #[.int .i64 (leastI a b), .int .i64 (mostI a b)]) (by simp [results, Try.results86, go_sem]) rfl ⟨rfl, ?_⟩
  exact (Below.refl _ _).alloc (Nat.le_refl _) _
end Go.Proofs.Ytbbjgcagkmlngac
