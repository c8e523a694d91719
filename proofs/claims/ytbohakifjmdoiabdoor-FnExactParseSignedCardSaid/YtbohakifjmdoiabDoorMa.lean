/- The program's values of a plan are the model's exponents, and both take the same plans as valid. -/
import Derived.Test.YtbohakifjmdoiabDoorId
namespace Go.Proofs.YtbohakifjmdoiabDoor
open Go.RowKit

def pad (n : Nat) (r : List Int) : List Int := r ++ List.replicate (6 - n) (0 : Int)

theorem units6_pad {n : Nat} (h : n ≤ 6) : units6 n = (units n).map (pad n) := by
  have hn : n = 0 ∨ n = 1 ∨ n = 2 ∨ n = 3 ∨ n = 4 ∨ n = 5 ∨ n = 6 := by omega
  rcases hn with rfl | rfl | rfl | rfl | rfl | rfl | rfl <;> decide

theorem zip_pad {n : Nat} {a b : List Int} (ha : a.length = n) (hb : b.length = n) : List.zipWith (· + ·) (pad n a) (pad n b) = pad n (List.zipWith (· + ·) a b) := by
  unfold pad
  rw [List.zipWith_append (by omega)]
  simp
theorem allB_pad (n : Nat) (r : List Int) : allB (pad n r) 0 1000000 = allB r 0 1000000 := by
  unfold allB pad
  rw [List.all_append]
  have : (List.replicate (6 - n) (0 : Int)).all (fun n => inB n 0 1000000) = true := by
    rw [List.all_eq_true]
    intro x hx
    have := List.eq_of_mem_replicate hx
    subst this
    rfl
  rw [this, Bool.and_true]
theorem sum_le : ∀ (a b : List Int), (∀ x ∈ a, 0 ≤ x) → (∀ x ∈ b, 0 ≤ x) → allB (List.zipWith (· + ·) a b) 0 1000000 = allB (sumL a b) 0 1000000 ∧ (allB (sumL a b) 0 1000000 = true → List.zipWith (· + ·) a b = sumL a b)
  | [], b, _, _ => by simp [sumL]
  | a :: ar, [], _, _ => by simp [sumL]
  | a :: ar, b :: br, ha, hb => by
    obtain ⟨h1, h2⟩ := sum_le ar br (fun x hx => ha x (by simp [hx])) (fun x hx => hb x (by simp [hx]))
    have h3 := ha a (by simp)
    have h4 := hb b (by simp)
    have e1 : List.zipWith (· + ·) (a :: ar) (b :: br) = (a + b) :: List.zipWith (· + ·) ar br := rfl
    have e2 : sumL (a :: ar) (b :: br) = leastI (a + b) 1000001 :: sumL ar br := rfl
    have e3 : ∀ (x : Int) (l : List Int), allB (x :: l) 0 1000000 = (inB x 0 1000000 && allB l 0 1000000) := fun x l => rfl
    rw [e1, e2, e3, e3, h1]
    have e4 : inB (a + b) 0 1000000 = inB (leastI (a + b) 1000001) 0 1000000 := by
      by_cases hc : a + b < 1000001
      · simp [leastI, hc]
      · have e5 : leastI (a + b) 1000001 = 1000001 := by simp [leastI, hc]
        rw [e5, Bool.eq_iff_iff]
        simp only [inB, Bool.and_eq_true, decide_eq_true_eq]
        omega
    refine ⟨by rw [e4], fun h => ?_⟩
    rw [Bool.and_eq_true] at h
    rw [h2 h.2]
    have : leastI (a + b) 1000001 = a + b := by
      have h5 := h.1
      by_cases hc : a + b < 1000001
      · simp [leastI, hc]
      · have e5 : leastI (a + b) 1000001 = 1000001 := by simp [leastI, hc]
        rw [e5] at h5
        simp [inB] at h5
    rw [this]

theorem mulI_pad {n : Nat} {E : List (List Int)} (hE : OkR n E) (k : Nat) (hl : E.length = n + k) (a b : Int) :
    mulI (E.map (pad n)) a b = if stepOk n k (a, b) && allB (sumL (E.getD a.toNat []) (E.getD b.toNat [])) 0 1000000 then some (pad n (sumL (E.getD a.toNat []) (E.getD b.toNat []))) else none := by
  unfold mulI
  rw [List.length_map, hl]
  by_cases hs : stepOk n k (a, b) = true
  · have hc : (decide (a ≤ b) && (hasB a (n + k) && hasB b (n + k))) = true := by
      simp only [stepOk, inB, hasB, Bool.and_eq_true, decide_eq_true_eq] at hs ⊢
      omega
    have hs2 := hs
    simp only [stepOk, inB, Bool.and_eq_true, decide_eq_true_eq] at hs2
    have la : a.toNat < E.length := by omega
    have lb : b.toNat < E.length := by omega
    have ea : (E.map (pad n)).getD a.toNat [] = pad n (E.getD a.toNat []) := by simp [la]
    have eb : (E.map (pad n)).getD b.toNat [] = pad n (E.getD b.toNat []) := by simp [lb]
    obtain ⟨ra, ra2⟩ := getD_ok hE la
    obtain ⟨rb, rb2⟩ := getD_ok hE lb
    rw [if_pos hc, hs, Bool.true_and, ea, eb]
    simp only [zip_pad ra rb, allB_pad]
    obtain ⟨h1, h2⟩ := sum_le (E.getD a.toNat []) (E.getD b.toNat []) (fun x hx => (ra2 x hx).1) (fun x hx => (rb2 x hx).1)
    rw [h1]
    by_cases h3 : allB (sumL (E.getD a.toNat []) (E.getD b.toNat [])) 0 1000000 = true
    · rw [if_pos h3, if_pos h3, h2 h3]
    · rw [if_neg h3, if_neg h3]
  · have hc : ¬ (decide (a ≤ b) && (hasB a (n + k) && hasB b (n + k))) = true := by
      simp only [stepOk, inB, hasB, Bool.and_eq_true, decide_eq_true_eq] at hs ⊢
      omega
    rw [if_neg hc]
    simp only [Bool.not_eq_true] at hs
    rw [hs]
    simp

theorem units_expsB (n : Nat) : expsB (units n) = true := by
  unfold expsB
  rw [List.all_eq_true]
  intro r hr
  have h := (units_ok n r hr)
  simp only [units, List.mem_map, List.mem_range] at hr
  obtain ⟨i, hi, rfl⟩ := hr
  unfold allB
  rw [List.all_eq_true]
  intro x hx
  rcases List.mem_or_eq_of_mem_set hx with h | h
  · have := List.eq_of_mem_replicate h; subst this; rfl
  · subst h; rfl

theorem okPre_take {n : Nat} {s : List (Int × Int)} {k : Nat} (hk : k ≤ s.length) (h : okPre n s k = true) : OkS n (s.take k) := by
  intro i hi
  have hi' : i < k := by simp at hi; omega
  unfold okPre at h
  rw [List.all_eq_true] at h
  have := h i (by simpa using hi')
  have hil : i < s.length := by omega
  simp [hil, stepOk, inB] at this
  rw [List.getElem_take]
  omega

theorem runI_eq {n : Nat} (hn : n ≤ 6) (s : List (Int × Int)) : ∀ k, k ≤ s.length →
    runI (units6 n) (s.take k) = if okPre n s k && expsB (exps n (s.take k)) then some ((exps n (s.take k)).map (pad n)) else none := by
  intro k
  induction k with
  | zero =>
    intro _
    have h1 : okPre n s 0 = true := rfl
    have h2 : exps n (s.take 0) = units n := rfl
    rw [h1, h2, units_expsB]
    simp [runI, units6_pad hn]
  | succ k ih =>
    intro hk
    have hlt : k < s.length := by omega
    have ih := ih (by omega)
    rw [List.take_succ_eq_append_getElem hlt, runI_append, ih]
    rw [← List.take_succ_eq_append_getElem hlt, exps_take n hlt, okPre_succ _ _ _ hlt]
    have eB : expsB (expStep (exps n (s.take k)) s[k]) = (expsB (exps n (s.take k)) && allB (sumL ((exps n (s.take k)).getD (s[k]).1.toNat []) ((exps n (s.take k)).getD (s[k]).2.toNat [])) 0 1000000) := by
      unfold expsB expStep
      rw [List.all_append]
      simp
    rw [eB]
    by_cases hp : okPre n s k = true
    · by_cases hq : expsB (exps n (s.take k)) = true
      · rw [hp, hq]
        simp only [Bool.and_self, if_true, Option.bind_some, Bool.true_and]
        have hokr : OkR n (exps n (s.take k)) := by
          have h := exps_ok (okPre_take (by omega) hp) (s.take k).length (Nat.le_refl _)
          rwa [List.take_of_length_le (Nat.le_refl _)] at h
        have hl : (exps n (s.take k)).length = n + k := by rw [exps_length]; simp; omega
        simp only [runI]
        rw [mulI_pad hokr k hl]
        have es : stepOk n k (s[k].1, s[k].2) = stepOk n k s[k] := rfl
        rw [es]
        split <;> rename_i hx
        · split at hx
          · cases hx
          · rename_i hc
            rw [if_neg hc]
        · split at hx
          · rename_i hc
            rw [if_pos hc]
            injection hx with hx
            subst hx
            simp [expStep]
          · cases hx
      · simp only [Bool.not_eq_true] at hq
        rw [hq]
        simp
    · simp only [Bool.not_eq_true] at hp
      rw [hp]
      simp

theorem hasAllB_eq (l : List Int) (m : Nat) : hasAllB l m = allB l 0 ((m : Int) - 1) := by
  unfold hasAllB allB
  congr 1
  funext x
  rw [Bool.eq_iff_iff]
  simp only [hasB, inB, Bool.and_eq_true, decide_eq_true_eq]
  omega

theorem valsI_eq (p : Pl) : valsI p = if good p then some ((exps p.n.toNat p.s).map (pad p.n.toNat)) else none := by
  unfold valsI good
  by_cases h1 : inB p.n 1 6 = true
  · by_cases h2 : p.s.length ≤ 40
    · by_cases h3 : p.o.length ≤ 6
      · obtain ⟨n1, n2⟩ : 1 ≤ p.n ∧ p.n ≤ 6 := by simpa [inB] using h1
        obtain ⟨N, hN⟩ : ∃ N : Nat, p.n = N := ⟨p.n.toNat, by omega⟩
        have hn : p.n.toNat = N := by omega
        have hr := runI_eq (n := N) (by omega) p.s p.s.length (Nat.le_refl _)
        rw [List.take_of_length_le (Nat.le_refl _)] at hr
        rw [hn, hr, h1]
        simp only [h2, h3, decide_true, Bool.and_self, Bool.true_and, if_true]
        rw [hN]
        by_cases h4 : (okPre N p.s p.s.length && expsB (exps N p.s)) = true
        · rw [if_pos h4]
          simp only [List.length_map]
          rw [exps_length, hasAllB_eq]
          have e : ((N + p.s.length : Nat) : Int) - 1 = (N : Int) + p.s.length - 1 := by omega
          rw [e]
          rw [Bool.and_eq_true] at h4
          rw [h4.1, h4.2, Bool.true_and, Bool.true_and]
        · rw [if_neg h4]
          simp only
          rw [← Bool.and_assoc]
          simp only [Bool.not_eq_true] at h4
          rw [h4]
          simp
      · simp [h3]
    · simp [h2]
  · simp only [Bool.not_eq_true] at h1
    simp [h1]
end Go.Proofs.YtbohakifjmdoiabDoor
