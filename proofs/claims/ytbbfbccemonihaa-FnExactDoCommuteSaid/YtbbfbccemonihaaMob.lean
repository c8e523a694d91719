/- Permutations as data. -/
import Derived.Test.YtbbfbccemonihaaMoa
import Derived.Test.YtbbfbccemonihaaOs
import Derived.Test.YtbbfbccemonihaaKc
namespace Go.Proofs.Ytbbfbccemonihaa
open Go.RowKit

/-- A list of as many numbers, each below their number. -/
def Pt (n : Nat) (l : List Int) : Prop := l.length = n ∧ ∀ x ∈ l, 0 ≤ x ∧ x < (n : Int)
/-- The product of two permutations. -/
def thn (a b : List Int) : List Int := a.map fun x => b.getD x.toNat 0
/-- Whether a list is a permutation. -/
def isPm (l : List Int) : Bool := decide (1 ≤ l.length) && (decide (l.length ≤ 8) && prmB l.length l)
theorem isPm_facts {l : List Int} (h : isPm l = true) : 1 ≤ l.length ∧ l.length ≤ 8 ∧ l.Nodup ∧ Pt l.length l := by
  unfold isPm at h
  simp only [Bool.and_eq_true, decide_eq_true_eq] at h
  obtain ⟨h1, h2, h3⟩ := h
  obtain ⟨_, h4, h5⟩ := prm_facts h3
  exact ⟨h1, h2, h4, rfl, h5⟩
theorem thn_len (a b : List Int) : (thn a b).length = a.length := by simp [thn]
theorem getD_mem6 {l : List Int} {i : Nat} (h : i < l.length) : l.getD i 0 ∈ l := by
  rw [List.getD_eq_getElem?_getD, List.getElem?_eq_getElem h]
  exact List.getElem_mem h
theorem Pt.at_ {n : Nat} {l : List Int} (h : Pt n l) {x : Int} (h0 : 0 ≤ x) (h1 : x < n) : 0 ≤ l.getD x.toNat 0 ∧ l.getD x.toNat 0 < (n : Int) :=
  h.2 _ (getD_mem6 (by rw [h.1]; omega))
theorem Pt.thn {n : Nat} {a b : List Int} (ha : Pt n a) (hb : Pt n b) : Pt n (thn a b) := by
  refine ⟨by rw [thn_len, ha.1], fun x hx => ?_⟩
  obtain ⟨y, hy, rfl⟩ := List.mem_map.1 hx
  obtain ⟨h0, h1⟩ := ha.2 y hy
  exact hb.at_ h0 h1
/-- Where a leads i in e steps. -/
def itf (a : List Int) : Nat → Int → Int
  | 0, i => i
  | e + 1, i => a.getD (itf a e i).toNat 0
theorem itf_rng {n : Nat} {a : List Int} (h : Pt n a) {x : Int} (h0 : 0 ≤ x) (h1 : x < n) : ∀ e, 0 ≤ itf a e x ∧ itf a e x < (n : Int) := by
  intro e
  induction e with
  | zero => exact ⟨h0, h1⟩
  | succ e ih => exact h.at_ ih.1 ih.2
theorem itf_add (a : List Int) (x : Int) (e : Nat) : ∀ k, itf a (e + k) x = itf a k (itf a e x) := by
  intro k
  induction k with
  | zero => rfl
  | succ k ih => show a.getD (itf a (e + k) x).toNat 0 = _; rw [ih]; rfl
theorem itf_first (a : List Int) (x : Int) (k : Nat) : itf a (k + 1) x = itf a k (a.getD x.toNat 0) := by
  rw [Nat.add_comm, itf_add]
  rfl
theorem thn_at {a b : List Int} {i : Nat} (h : i < a.length) : (thn a b).getD i 0 = b.getD (a.getD i 0).toNat 0 := by
  unfold thn
  simp [List.getD_eq_getElem?_getD, h]
theorem itf_two {n : Nat} {v : List Int} (hv : Pt n v) {x : Int} (h0 : 0 ≤ x) (h1 : x < n) : ∀ k, itf (thn v v) k x = itf v (2 * k) x := by
  intro k
  induction k with
  | zero => rfl
  | succ k ih =>
    obtain ⟨r0, r1⟩ := itf_rng hv h0 h1 (2 * k)
    show (thn v v).getD (itf (thn v v) k x).toNat 0 = v.getD (v.getD (itf v (2 * k) x).toNat 0).toNat 0
    rw [ih, thn_at (by rw [hv.1]; omega)]
theorem pwL_thn {n : Nat} : ∀ (f e : Nat) (p v : List Int), e < 2 ^ f → Pt n p → Pt n v → pwr thn f e p v = p.map (itf v e) := by
  intro f
  induction f with
  | zero =>
    intro e p v he _ _
    have h0 : e = 0 := by simpa using he
    subst h0
    show p = p.map fun x => x
    simp
  | succ f ih =>
    intro e p v he hp hv
    rcases Nat.eq_zero_or_pos e with rfl | h0
    · show p = p.map fun x => x
      simp
    · have hh := half_lt he
      have h2 := Nat.mod_lt e (show 2 > 0 by omega)
      by_cases ho : e % 2 = 1
      · rw [pwL_odd _ _ _ _ _ ho, ih _ _ _ hh (hp.thn hv) (hv.thn hv)]
        unfold thn
        rw [List.map_map]
        refine List.map_congr_left fun x hx => ?_
        obtain ⟨r0, r1⟩ := hp.2 x hx
        obtain ⟨q0, q1⟩ := hv.at_ r0 r1
        show itf (Go.Proofs.Ytbbfbccemonihaa.thn v v) (e / 2) (v.getD x.toNat 0) = _
        rw [itf_two hv q0 q1, ← itf_first, show 2 * (e / 2) + 1 = e by omega]
      · rw [pwL_even _ _ _ _ _ h0 (by omega), ih _ _ _ hh hp (hv.thn hv)]
        refine List.map_congr_left fun x hx => ?_
        obtain ⟨r0, r1⟩ := hp.2 x hx
        rw [itf_two hv r0 r1, show 2 * (e / 2) = e by omega]
theorem ups_pt (n : Nat) : Pt n (ups n) := by
  refine ⟨ups_length n, fun x hx => ?_⟩
  unfold ups at hx
  obtain ⟨i, hi, rfl⟩ := List.mem_map.1 hx
  have := List.mem_range.1 hi
  omega
/-- The power e of a permutation. -/
def itr (a : List Int) (e : Nat) : List Int := (ups a.length).map (itf a e)
theorem itr_len (a : List Int) (e : Nat) : (itr a e).length = a.length := by simp [itr, ups_length]
theorem itr_pt {n : Nat} {a : List Int} (h : Pt n a) (e : Nat) : Pt n (itr a e) := by
  refine ⟨by rw [itr_len, h.1], fun x hx => ?_⟩
  unfold itr at hx
  obtain ⟨y, hy, rfl⟩ := List.mem_map.1 hx
  obtain ⟨r0, r1⟩ := (ups_pt a.length).2 y hy
  rw [h.1] at r1
  exact itf_rng h r0 r1 e
theorem itr_zero (a : List Int) : itr a 0 = ups a.length := by
  show (ups a.length).map (fun x => x) = _
  simp
theorem itr_one (a : List Int) : itr a 1 = a := by
  apply List.ext_getElem (by rw [itr_len])
  intro i h1 h2
  unfold itr ups
  simp [itf, h2]
theorem itr_succ (a : List Int) (e : Nat) : thn (itr a e) a = itr a (e + 1) := by
  unfold thn itr
  rw [List.map_map]
  rfl
theorem pwL_itr {n : Nat} {a : List Int} (h : Pt n a) {f e : Nat} (he : e < 2 ^ f) : pwr thn f e (ups a.length) a = itr a e := by
  have h' : Pt a.length a := ⟨rfl, by rw [h.1]; exact h.2⟩
  exact pwL_thn f e _ a he (ups_pt _) h'

theorem getD_inj {l : List Int} (hn : l.Nodup) {i j : Nat} (hi : i < l.length) (hj : j < l.length) (h : l.getD i 0 = l.getD j 0) : i = j := by
  rw [List.getD_eq_getElem?_getD, List.getD_eq_getElem?_getD, List.getElem?_eq_getElem hi, List.getElem?_eq_getElem hj] at h
  simp only [Option.getD_some] at h
  apply Classical.byContradiction
  intro hne
  rw [List.nodup_iff_pairwise_ne, List.pairwise_iff_getElem] at hn
  rcases Nat.lt_or_ge i j with h1 | h1
  · exact hn i j hi hj h1 h
  · exact hn j i hj hi (by omega) h.symm
theorem itf_inj {n : Nat} {a : List Int} (h : Pt n a) (hn : a.Nodup) {x y : Int} (x0 : 0 ≤ x) (x1 : x < n) (y0 : 0 ≤ y) (y1 : y < n) : ∀ e, itf a e x = itf a e y → x = y := by
  intro e
  induction e with
  | zero => exact fun h => h
  | succ e ih =>
    intro he
    obtain ⟨r0, r1⟩ := itf_rng h x0 x1 e
    obtain ⟨q0, q1⟩ := itf_rng h y0 y1 e
    have hl := h.1
    have := getD_inj hn (by omega) (by omega) he
    exact ih (by omega)
/-- Each point comes back within as many steps as there are points. -/
theorem itf_back {n : Nat} {a : List Int} (h : Pt n a) (hn : a.Nodup) {x : Int} (x0 : 0 ≤ x) (x1 : x < n) : ∃ k, 1 ≤ k ∧ k ≤ n ∧ itf a k x = x := by
  obtain ⟨i, j, hij, hj, he⟩ := pig_two (n := n) (fun i => (itf a i x).toNat) (fun i _ => by
    obtain ⟨r0, r1⟩ := itf_rng h x0 x1 i
    omega)
  obtain ⟨r0, r1⟩ := itf_rng h x0 x1 i
  obtain ⟨q0, q1⟩ := itf_rng h x0 x1 j
  obtain ⟨s0, s1⟩ := itf_rng h x0 x1 (j - i)
  have e1 : itf a i x = itf a j x := by omega
  have e2 := itf_add a x (j - i) i
  rw [show j - i + i = j by omega, ← e1] at e2
  exact ⟨j - i, by omega, by omega, (itf_inj h hn x0 x1 s0 s1 i e2).symm⟩
theorem itf_mul {a : List Int} {x : Int} {k : Nat} (h : itf a k x = x) : ∀ t, itf a (k * t) x = x := by
  intro t
  induction t with
  | zero => rfl
  | succ t ih => rw [Nat.mul_succ, itf_add, ih, h]
theorem itr_840 {n : Nat} {a : List Int} (h : Pt n a) (hn : a.Nodup) (h8 : n ≤ 8) : itr a 840 = ups a.length := by
  unfold itr
  rw [show ups a.length = (ups a.length).map (fun x => x) by simp]
  rw [List.map_map]
  refine List.map_congr_left fun x hx => ?_
  obtain ⟨x0, x1⟩ := (ups_pt a.length).2 x hx
  rw [h.1] at x1
  obtain ⟨k, k1, k2, hk⟩ := itf_back h hn x0 x1
  obtain ⟨t, ht⟩ : ∃ t, 840 = k * t := by
    match k, k1, (show k ≤ 8 by omega) with
    | 1, _, _ => exact ⟨840, rfl⟩
    | 2, _, _ => exact ⟨420, rfl⟩
    | 3, _, _ => exact ⟨280, rfl⟩
    | 4, _, _ => exact ⟨210, rfl⟩
    | 5, _, _ => exact ⟨168, rfl⟩
    | 6, _, _ => exact ⟨140, rfl⟩
    | 7, _, _ => exact ⟨120, rfl⟩
    | 8, _, _ => exact ⟨105, rfl⟩
  show itf a 840 x = x
  rw [ht]
  exact itf_mul hk t
/-- The least power that leads each point to itself. -/
def ordP (a : List Int) : Nat := fstK (fun e => itr a e == ups a.length) 840
theorem ordP_hit {a : List Int} {e : Nat} (h1 : 1 ≤ e) (h2 : e ≤ 840) (h : itr a e = ups a.length) (hno : ∀ k, 1 ≤ k → k < e → itr a k ≠ ups a.length) : ordP a = e :=
  fstK_hit (P := fun e => itr a e == ups a.length) h1 (by simpa using h) (fun k a b => by simpa using hno k a b) _ h2
theorem fstK_pos {P : Nat → Bool} {e : Nat} : ∀ n, 1 ≤ e → e ≤ n → P e = true → 1 ≤ fstK P n := by
  intro n
  induction n with
  | zero => intro _ _; omega
  | succ n ih =>
    intro h1 h2 h3
    simp only [fstK]
    split
    · omega
    · rename_i h4
      have h5 : fstK P n = 0 := by omega
      rcases Nat.lt_or_ge n e with h6 | h6
      · have : e = n + 1 := by omega
        subst this
        rw [h3]
        simp
      · have := ih h1 h6 h3
        omega
theorem fstK_le (P : Nat → Bool) : ∀ n, fstK P n ≤ n := by
  intro n
  induction n with
  | zero => exact Nat.le_refl _
  | succ n ih =>
    simp only [fstK]
    split
    · omega
    · split <;> omega
theorem fstK_is {P : Nat → Bool} : ∀ n, fstK P n ≠ 0 → P (fstK P n) = true := by
  intro n
  induction n with
  | zero => intro h; exact absurd rfl h
  | succ n ih =>
    intro h
    simp only [fstK] at h ⊢
    by_cases h1 : fstK P n ≠ 0
    · rw [if_pos h1]; exact ih h1
    · rw [if_neg h1] at h ⊢
      by_cases h2 : P (n + 1) = true
      · rw [if_pos h2]; exact h2
      · rw [if_neg h2] at h; exact absurd rfl h
theorem fstK_before {P : Nat → Bool} {k : Nat} : ∀ n, k < fstK P n → 1 ≤ k → P k = false := by
  intro n
  induction n with
  | zero => intro h; exact absurd h (by simp [fstK])
  | succ n ih =>
    intro h h1
    simp only [fstK] at h
    by_cases h2 : fstK P n ≠ 0
    · rw [if_pos h2] at h; exact ih h h1
    · rw [if_neg h2] at h
      cases hk : P k with
      | false => rfl
      | true =>
        split at h
        · have := fstK_pos n h1 (by omega) hk; omega
        · omega
theorem ordP_pos {n : Nat} {a : List Int} (h : Pt n a) (hn : a.Nodup) (h8 : n ≤ 8) : 1 ≤ ordP a ∧ ordP a ≤ 840 :=
  ⟨fstK_pos (e := 840) _ (by omega) (by omega) (by simpa using itr_840 h hn h8), fstK_le _ _⟩
theorem ordP_is {a : List Int} (h : 1 ≤ ordP a) : itr a (ordP a) = ups a.length := by
  have := fstK_is (P := fun e => itr a e == ups a.length) 840 (by unfold ordP at h; omega)
  unfold ordP
  simpa using this
theorem ordP_before {a : List Int} {k : Nat} (h : k < ordP a) (h1 : 1 ≤ k) : itr a k ≠ ups a.length := by
  have := fstK_before (P := fun e => itr a e == ups a.length) 840 h h1
  simpa using this

/-- Whether each number is at most the next one. -/
def srtB (l : List Int) : Bool := (List.range (l.length - 1)).all fun i => decide (l.getD i 0 ≤ l.getD (i + 1) 0)
theorem srt_ups {l : List Int} {n : Nat} (hp : Pt n l) (hn : l.Nodup) : srtB l = true ↔ l = ups l.length := by
  unfold srtB
  rw [List.all_eq_true]
  constructor
  · intro h
    have h1 : ∀ i, i + 1 < l.length → l.getD i 0 < l.getD (i + 1) 0 := fun i hi => by
      have h2 := h i (by simp; omega)
      simp only [decide_eq_true_eq] at h2
      have h3 : l.getD i 0 ≠ l.getD (i + 1) 0 := fun he => by
        have := getD_inj hn (by omega) hi he
        omega
      omega
    have h2 : ∀ i, i < l.length → (i : Int) ≤ l.getD i 0 := by
      intro i
      induction i with
      | zero => intro hi; exact (hp.2 _ (getD_mem6 hi)).1
      | succ i ih => intro hi; have := ih (by omega); have := h1 i hi; omega
    have h3 : ∀ k i, i + k + 1 = l.length → l.getD i 0 ≤ (i : Int) := by
      intro k
      induction k with
      | zero => intro i hi; have := (hp.2 _ (getD_mem6 (l := l) (i := i) (by omega))).2; have := hp.1; omega
      | succ k ih => intro i hi; have := ih (i + 1) (by omega); have := h1 i (by omega); omega
    apply List.ext_getElem (by rw [ups_length])
    intro i hi _
    have a1 := h2 i hi
    have a2 := h3 (l.length - 1 - i) i (by omega)
    have e : l.getD i 0 = l[i] := by simp [hi]
    simp only [ups, List.getElem_map, List.getElem_range]
    omega
  · intro h i hi
    simp at hi
    rw [h]
    have h4 : i < l.length := by omega
    have h5 : i + 1 < l.length := by omega
    simp [ups, List.getD_eq_getElem?_getD, h4, h5]
    omega
theorem itr_nodup {n : Nat} {a : List Int} (h : Pt n a) (hn : a.Nodup) (e : Nat) : (itr a e).Nodup := by
  unfold itr
  rw [List.nodup_iff_pairwise_ne, List.pairwise_iff_getElem]
  intro i j hi hj hij he
  simp only [List.length_map, ups_length] at hi hj
  simp only [List.getElem_map, ups, List.getElem_range] at he
  have hl := h.1
  have := itf_inj h hn (by omega) (by omega) (by omega) (by omega) e he
  omega
end Go.Proofs.Ytbbfbccemonihaa
