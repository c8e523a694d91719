/- Coefficients of the values of code that is made op by op. -/
import Derived.Test.YtpopomcaknbhnaaH8a
namespace Go.Proofs.Ytpopomcaknbhnaa
open Go.RowKit

theorem at0_pSum (f g : List Int) (i : Nat) : at0 (pSum f g) i = at0 f i + at0 g i := by
  unfold pSum
  rcases Nat.lt_or_ge i (max f.length g.length) with h | h
  · exact pt_at h
  · rw [at0_ge (by rw [pt_len]; exact Nat.le_trans (dg_le _ _) h), at0_ge (l := f) (by omega), at0_ge (l := g) (by omega)]; rfl
theorem at0_pCon (n : Int) (i : Nat) : at0 (pCon n) i = if i = 0 then n else 0 := by
  unfold pCon
  rcases Nat.lt_or_ge i 1 with h | h
  · rw [pt_at h, if_pos (by omega)]
  · rw [at0_ge (by rw [pt_len]; exact Nat.le_trans (dg_le _ _) h), if_neg (by omega)]
theorem at0_pMul (f g : List Int) (i : Nat) : at0 (pMul f g) i = cvR f g i f.length := by
  unfold pMul
  rcases Nat.lt_or_ge i (f.length + g.length) with h | h
  · exact pt_at h
  · rw [at0_ge (by rw [pt_len]; exact Nat.le_trans (dg_le _ _) h), cvR_far (by omega) _ (Nat.le_refl _)]
theorem cvR_mono {f g : List Int} {e : Nat} {c : Int} (hg : ∀ j, at0 g j = if j = e then c else 0) (p : Nat) : ∀ k, cvR f g p k = if e ≤ p ∧ p - e < k then at0 f (p - e) * c else 0 := by
  intro k
  induction k with
  | zero => simp [cvR]
  | succ k ih =>
    simp only [cvR]
    rw [ih, hg]
    by_cases h1 : e ≤ p ∧ p - e < k
    · rw [if_pos h1, if_pos (show e ≤ p ∧ p - e < k + 1 by omega)]
      by_cases h3 : k ≤ p
      · rw [if_pos h3, if_neg (show ¬ p - k = e by omega)]; simp
      · rw [if_neg h3]; simp
    · rw [if_neg h1]
      by_cases h2 : e ≤ p ∧ p - e < k + 1
      · rw [if_pos h2, if_pos (show k ≤ p by omega), if_pos (show p - k = e by omega), show p - e = k by omega]; simp
      · rw [if_neg h2]
        by_cases h3 : k ≤ p
        · rw [if_pos h3, if_neg (show ¬ p - k = e by omega)]; simp
        · rw [if_neg h3]; simp
theorem at0_pMulM {f g : List Int} {e : Nat} {c : Int} (hg : ∀ j, at0 g j = if j = e then c else 0) (p : Nat) : at0 (pMul f g) p = if e ≤ p then at0 f (p - e) * c else 0 := by
  rw [at0_pMul, cvR_mono hg]
  by_cases h1 : e ≤ p
  · rw [if_pos h1]
    by_cases h2 : p - e < f.length
    · rw [if_pos ⟨h1, h2⟩]
    · rw [if_neg (by omega), at0_ge (l := f) (by omega)]; simp
  · rw [if_neg h1, if_neg (by omega)]
/-- A list without zeros at the end. -/
def Trm (l : List Int) : Prop := ∃ F n, l = pt F n
theorem trm_opP (o : Op3) (vs : List (List Int)) : Trm (opP o vs) := by
  unfold opP
  split
  · exact ⟨_, _, rfl⟩
  · split
    · exact ⟨_, _, rfl⟩
    · split <;> exact ⟨_, _, rfl⟩
theorem fit_trm {l : List Int} (h : Trm l) (hb : ∀ i, -1000000 ≤ at0 l i ∧ at0 l i ≤ 1000000) (hz : ∀ i, 17 ≤ i → at0 l i = 0) : fitB l = true := by
  obtain ⟨F, n, rfl⟩ := h
  rw [fit_iff]
  refine ⟨?_, fun x hx => ?_⟩
  · apply Classical.byContradiction
    intro h
    rw [pt_len] at h
    have h2 := dg_last (F := F) (n := n) (by omega)
    have h3 := hz (dg F n - 1) (by omega)
    rw [pt_at (by have := dg_le F n; omega)] at h3
    exact h2 h3
  · obtain ⟨i, hi, rfl⟩ := List.getElem_of_mem hx
    have := hb i
    rwa [at0_lt hi] at this
theorem getD_app (s t : List Op3) {k : Nat} (h : k < s.length) : (s ++ t).getD k o0 = s.getD k o0 := by
  rw [List.getD_eq_getElem?_getD, List.getElem?_append_left h, List.getD_eq_getElem?_getD]
theorem pvs_app (s t : List Op3) : ∀ k, k ≤ s.length → pvs (s ++ t) k = pvs s k := by
  intro k
  induction k with
  | zero => intro _; rfl
  | succ k ih => intro h; simp only [pvs]; rw [ih (by omega), getD_app s t (by omega)]
theorem opsG_app (s t : List Op3) : ∀ k, k ≤ s.length → opsG (s ++ t) k = opsG s k := by
  intro k
  induction k with
  | zero => intro _; rfl
  | succ k ih => intro h; simp only [opsG, opG]; rw [ih (by omega), getD_app s t (by omega), pvs_app s t k (by omega)]
theorem getD_snoc (s : List Op3) (o : Op3) : (s ++ [o]).getD s.length o0 = o := by simp [List.getD_eq_getElem?_getD]
/-- The coefficient i of the value v. -/
def cf (s : List Op3) (v : Int) (i : Nat) : Int := at0 (vAt (pvs s s.length) v) i
def okS (s : List Op3) : Prop := opsG s s.length = true
theorem ok_nil : okS [] := rfl
theorem cf_x (i : Nat) : cf [] 0 i = if i = 1 then 1 else 0 := by
  unfold cf vAt at0
  match i with
  | 0 => rfl
  | 1 => rfl
  | i + 2 => simp [pvs]
theorem cf_old {s : List Op3} {o : Op3} {v : Int} (h0 : 0 ≤ v) (h : v ≤ s.length) (i : Nat) : cf (s ++ [o]) v i = cf s v i := by
  unfold cf
  rw [List.length_append, List.length_singleton]
  simp only [pvs]
  rw [pvs_app s [o] s.length (Nat.le_refl _)]
  unfold vAt
  rw [List.getD_eq_getElem?_getD, List.getElem?_append_left (by rw [pvs_len]; omega), List.getD_eq_getElem?_getD]
theorem cf_new {s : List Op3} {o : Op3} (i : Nat) : cf (s ++ [o]) ((s.length : Int) + 1) i = at0 (opP o (pvs s s.length)) i := by
  unfold cf
  rw [List.length_append, List.length_singleton]
  simp only [pvs]
  rw [pvs_app s [o] s.length (Nat.le_refl _), getD_snoc]
  unfold vAt
  rw [List.getD_eq_getElem?_getD, show ((s.length : Int) + 1).toNat = s.length + 1 by omega, List.getElem?_append_right (by rw [pvs_len]; omega), pvs_len]
  simp
theorem ok_push {s : List Op3} {o : Op3} (h : okS s) (ho : opOk o (s.length + 1) = true) (hb : ∀ i, -1000000 ≤ cf (s ++ [o]) ((s.length : Int) + 1) i ∧ cf (s ++ [o]) ((s.length : Int) + 1) i ≤ 1000000) (hz : ∀ i, 17 ≤ i → cf (s ++ [o]) ((s.length : Int) + 1) i = 0) : okS (s ++ [o]) := by
  unfold okS
  rw [List.length_append, List.length_singleton]
  simp only [opsG, opG]
  rw [opsG_app s [o] s.length (Nat.le_refl _), getD_snoc, pvs_app s [o] s.length (Nat.le_refl _), show opsG s s.length = true from h, ho]
  simp only [Bool.true_and]
  refine fit_trm (trm_opP _ _) (fun i => ?_) (fun i hi => ?_)
  · have := hb i; rwa [cf_new] at this
  · have := hz i hi; rwa [cf_new] at this
theorem cf_con (s : List Op3) (n : Int) (i : Nat) : cf (s ++ [(0, n, 0)]) ((s.length : Int) + 1) i = if i = 0 then n else 0 := by
  rw [cf_new]; exact at0_pCon n i
theorem cf_sum (s : List Op3) (a b : Int) (i : Nat) : cf (s ++ [(1, a, b)]) ((s.length : Int) + 1) i = cf s a i + cf s b i := by
  rw [cf_new]; exact at0_pSum _ _ i
theorem cf_scale (s : List Op3) (a n : Int) (i : Nat) : cf (s ++ [(2, a, n)]) ((s.length : Int) + 1) i = cf s a i * n := by
  rw [cf_new]
  show at0 (pMul _ (pCon n)) i = _
  rw [at0_pMulM (e := 0) (c := n) (at0_pCon n), if_pos (Nat.zero_le _)]
  rfl
theorem cf_prod {s : List Op3} {a b : Int} {e : Nat} (hb : ∀ i, cf s b i = if i = e then 1 else 0) (i : Nat) : cf (s ++ [(3, a, b)]) ((s.length : Int) + 1) i = if e ≤ i then cf s a (i - e) else 0 := by
  rw [cf_new]
  show at0 (pMul _ _) i = _
  rw [at0_pMulM (e := e) (c := 1) hb, Int.mul_one]
  rfl
theorem ok_con {s : List Op3} {n : Int} (h : okS s) (hn : -1000000 ≤ n ∧ n ≤ 1000000) : okS (s ++ [(0, n, 0)]) := by
  refine ok_push h (by unfold opOk; simp [isC_iff]; omega) (fun i => ?_) (fun i hi => ?_)
  · rw [cf_con]; split <;> omega
  · rw [cf_con, if_neg (by omega)]
theorem inV_true {v : Int} {n : Nat} (h0 : 0 ≤ v) (h1 : v < n) : inV v n = true := by unfold inV; simp [h0, h1]
theorem ok_sum {s : List Op3} {a b : Int} (h : okS s) (ha : 0 ≤ a ∧ a ≤ s.length) (hb : 0 ≤ b ∧ b ≤ s.length) (h1 : ∀ i, -1000000 ≤ cf s a i + cf s b i ∧ cf s a i + cf s b i ≤ 1000000) (h2 : ∀ i, 17 ≤ i → cf s a i + cf s b i = 0) : okS (s ++ [(1, a, b)]) := by
  refine ok_push h ?_ (fun i => ?_) (fun i hi => ?_)
  · unfold opOk; rw [inV_true ha.1 (by omega), inV_true hb.1 (by omega)]; rfl
  · rw [cf_sum]; exact h1 i
  · rw [cf_sum]; exact h2 i hi
theorem ok_scale {s : List Op3} {a n : Int} (h : okS s) (ha : 0 ≤ a ∧ a ≤ s.length) (hn : -1000000 ≤ n ∧ n ≤ 1000000) (h1 : ∀ i, -1000000 ≤ cf s a i * n ∧ cf s a i * n ≤ 1000000) (h2 : ∀ i, 17 ≤ i → cf s a i = 0) : okS (s ++ [(2, a, n)]) := by
  refine ok_push h ?_ (fun i => ?_) (fun i hi => ?_)
  · unfold opOk; rw [inV_true ha.1 (by omega), isC_iff.2 hn]; rfl
  · rw [cf_scale]; exact h1 i
  · rw [cf_scale, h2 i hi]; simp
theorem ok_prod {s : List Op3} {a b : Int} {e : Nat} (h : okS s) (ha : 0 ≤ a ∧ a ≤ s.length) (hb : 0 ≤ b ∧ b ≤ s.length) (hm : ∀ i, cf s b i = if i = e then 1 else 0) (h1 : ∀ i, -1000000 ≤ cf s a i ∧ cf s a i ≤ 1000000) (h2 : ∀ i, 17 ≤ i + e → cf s a i = 0) : okS (s ++ [(3, a, b)]) := by
  refine ok_push h ?_ (fun i => ?_) (fun i hi => ?_)
  · unfold opOk; rw [inV_true ha.1 (by omega), inV_true hb.1 (by omega)]; rfl
  · rw [cf_prod hm]; split
    · exact h1 _
    · omega
  · rw [cf_prod hm]; split
    · exact h2 _ (by omega)
    · rfl
end Go.Proofs.Ytpopomcaknbhnaa
