/- The exponents of a plan with one input; sorted, they are a chain. -/
import Derived.Test.YtbbjgcagkmlngacFa
import Derived.Test.YtbbjgcagkmlngacQw
namespace Go.Proofs.Ytbbjgcagkmlngac
open Go.RowKit

def evS (out : List Int) (st : Int × Int) : List Int := out ++ [leastI (out.getD st.1.toNat 0 + out.getD st.2.toNat 0) 1000001]
def ev (s : List (Int × Int)) : List Int := s.foldl evS [1]
theorem ev_take {s : List (Int × Int)} {k : Nat} (hk : k < s.length) : ev (s.take (k + 1)) = evS (ev (s.take k)) s[k] := by
  unfold ev
  rw [List.take_succ_eq_append_getElem hk, List.foldl_append]
  rfl
theorem ev_length (s : List (Int × Int)) : ∀ k, k ≤ s.length → (ev (s.take k)).length = k + 1 := by
  intro k
  induction k with
  | zero => intro _; rfl
  | succ k ih =>
    intro hk
    rw [ev_take (by omega)]
    unfold evS
    rw [List.length_append, ih (by omega)]
    rfl
theorem getD_map1 (l : List Int) {a : Nat} (ha : a < l.length) : (l.map fun e => [e]).getD a [] = [l.getD a 0] := by simp [ha]
theorem exps_ev {s : List (Int × Int)} (hok : OkS 1 s) : ∀ k, k ≤ s.length → exps 1 (s.take k) = (ev (s.take k)).map fun e => [e] := by
  intro k
  induction k with
  | zero => intro _; rfl
  | succ k ih =>
    intro hk
    have hk' : k < s.length := by omega
    obtain ⟨h1, h2, h3⟩ := hok k hk'
    have hl := ev_length s k (by omega)
    rw [exps_take 1 hk', ev_take hk', ih (by omega)]
    unfold expStep evS
    rw [getD_map1 _ (by omega), getD_map1 _ (by omega), List.map_append]
    rfl
theorem ev_pre {s : List (Int × Int)} : ∀ n k, k ≤ n → n ≤ s.length → ∀ i, i < k + 1 → (ev (s.take n)).getD i 0 = (ev (s.take k)).getD i 0 := by
  intro n
  induction n with
  | zero => intro k hk _ i _; rw [show k = 0 by omega]
  | succ n ih =>
    intro k hk hn i hi
    rcases Nat.lt_or_eq_of_le hk with h | rfl
    · rw [ev_take (by omega)]
      unfold evS
      have hl := ev_length s n (by omega)
      rw [List.getD_eq_getElem?_getD, List.getElem?_append_left (by omega), ← List.getD_eq_getElem?_getD]
      exact ih k (by omega) (by omega) i hi
    · rfl
/-- Of exponents within their bounds each is a sum. -/
theorem ev_sums {s : List (Int × Int)} (hok : OkS 1 s) (hb : expsB (exps 1 s) = true) :
    (ev s).length = s.length + 1 ∧ (ev s).getD 0 0 = 1 ∧ (∀ i, i < s.length + 1 → 1 ≤ (ev s).getD i 0 ∧ (ev s).getD i 0 ≤ 1000000) ∧
      ∀ k, k < s.length → ∃ a b : Nat, a ≤ b ∧ b < k + 1 ∧ (ev s).getD (k + 1) 0 = (ev s).getD a 0 + (ev s).getD b 0 := by
  have hfull : s.take s.length = s := List.take_of_length_le (Nat.le_refl _)
  have hlen := ev_length s s.length (Nat.le_refl _)
  rw [hfull] at hlen
  have hE := exps_ev hok s.length (Nat.le_refl _)
  rw [hfull] at hE
  have hle : ∀ i, i < s.length + 1 → 0 ≤ (ev s).getD i 0 ∧ (ev s).getD i 0 ≤ 1000000 := fun i hi => by
    have hm : [(ev s).getD i 0] ∈ exps 1 s := by
      rw [hE]
      exact List.mem_map.2 ⟨(ev s).getD i 0, mem_getD (by omega), rfl⟩
    unfold expsB at hb
    rw [List.all_eq_true] at hb
    have h := hb _ hm
    unfold allB at h
    simpa [inB] using h
  have h0 : (ev s).getD 0 0 = 1 := by
    have h := ev_pre (s := s) s.length 0 (by omega) (Nat.le_refl _) 0 (by omega)
    rw [hfull] at h
    rw [h]
    rfl
  have hsum : ∀ k, k < s.length → ∃ a b : Nat, a ≤ b ∧ b < k + 1 ∧ (ev s).getD (k + 1) 0 = (ev s).getD a 0 + (ev s).getD b 0 := fun k hk => by
    obtain ⟨h1, h2, h3⟩ := hok k hk
    refine ⟨(s[k]).1.toNat, (s[k]).2.toNat, by omega, by omega, ?_⟩
    have p1 := ev_pre (s := s) s.length (k + 1) (by omega) (Nat.le_refl _) (k + 1) (by omega)
    have p2 := ev_pre (s := s) s.length k (by omega) (Nat.le_refl _) (s[k]).1.toNat (by omega)
    have p3 := ev_pre (s := s) s.length k (by omega) (Nat.le_refl _) (s[k]).2.toNat (by omega)
    rw [hfull] at p1 p2 p3
    have hl := ev_length s k (by omega)
    have e : (ev (s.take (k + 1))).getD (k + 1) 0 = leastI ((ev (s.take k)).getD (s[k]).1.toNat 0 + (ev (s.take k)).getD (s[k]).2.toNat 0) 1000001 := by
      rw [ev_take hk]
      unfold evS
      rw [List.getD_eq_getElem?_getD, List.getElem?_append_right (by omega), hl]
      simp
    rw [p2, p3]
    rw [e] at p1
    have hb1 := hle (k + 1) (by omega)
    rw [p1] at hb1
    rw [p1]
    unfold leastI at hb1 ⊢
    split at hb1
    · rename_i h
      rw [if_pos h]
    · omega
  refine ⟨hlen, h0, fun i hi => ?_, hsum⟩
  refine ⟨?_, (hle i hi).2⟩
  have hpos : ∀ n i, i ≤ n → i < s.length + 1 → 1 ≤ (ev s).getD i 0 := by
    intro n
    induction n with
    | zero => intro i hi _; rw [show i = 0 by omega, h0]; omega
    | succ n ih =>
      intro i hi hl
      rcases Nat.eq_zero_or_pos i with h | h
      · rw [h, h0]; omega
      · obtain ⟨a, b, h1, h2, h3⟩ := hsum (i - 1) (by omega)
        rw [show i - 1 + 1 = i by omega] at h3 h2
        have ha := ih a (by omega) (by omega)
        have hb := ih b (by omega) (by omega)
        omega
  exact hpos i i (Nat.le_refl _) hi

theorem mem_putI_iff (l : List Int) (x y : Int) : y ∈ putI l x ↔ y = x ∨ y ∈ l := by
  unfold putI
  split
  · rename_i h
    constructor
    · exact .inr
    · rintro (rfl | h') <;> assumption
  · unfold insA
    rw [List.mem_append, List.mem_cons]
    constructor
    · rintro (h | h | h)
      · exact .inr (List.mem_of_mem_take h)
      · exact .inl h
      · exact .inr (List.mem_of_mem_drop h)
    · rintro (h | h)
      · exact .inr (.inl h)
      · rw [← List.take_append_drop (cnt l x) l] at h
        rcases List.mem_append.1 h with h | h
        · exact .inl h
        · exact .inr (.inr h)
theorem uni0_ok (b : List Int) : ∀ k, k ≤ b.length → Asc (uniK [] b k) ∧ (uniK [] b k).length ≤ k ∧ ∀ y, y ∈ uniK [] b k ↔ y ∈ b.take k := by
  intro k
  induction k with
  | zero =>
    intro _
    rw [uniK_zero]
    exact ⟨fun i j _ h => absurd h (by simp), by simp, fun y => by simp⟩
  | succ k ih =>
    intro hk
    obtain ⟨h1, h2, h3⟩ := ih (by omega)
    rw [uniK_succ (by omega)]
    refine ⟨putI_asc h1 _, by have := putI_le (uniK [] b k) (b.getD k 0); omega, fun y => ?_⟩
    rw [mem_putI_iff, h3, take_succ_getD (by omega), List.mem_append, List.mem_singleton]
    constructor
    · rintro (h | h)
      · exact .inr h
      · exact .inl h
    · rintro (h | h)
      · exact .inr h
      · exact .inl h
theorem prs_intro {l : List Int} {k i j : Nat} (hij : i ≤ j) (hj : j < k) (h : l.getD i 0 + l.getD j 0 = l.getD k 0) : prs l k k ≠ [] := by
  intro he
  have hm : ((i : Int), (j : Int)) ∈ prs l k k := by
    unfold prs
    refine List.mem_flatMap.2 ⟨j, List.mem_range.2 hj, ?_⟩
    unfold prsJ prsI
    exact List.mem_map.2 ⟨i, List.mem_filter.2 ⟨List.mem_range.2 (by omega), by simpa using h⟩, rfl⟩
  rw [he] at hm
  simp at hm
theorem getD_of_mem {l : List Int} {x : Int} (h : x ∈ l) : ∃ i, i < l.length ∧ l.getD i 0 = x := by
  obtain ⟨i, hi, rfl⟩ := List.mem_iff_getElem.1 h
  exact ⟨i, hi, by simp [hi]⟩
theorem asc_idx {l : List Int} (ha : Asc l) {i k : Nat} (hi : i < l.length) (_hk : k < l.length) (h : l.getD i 0 < l.getD k 0) : i < k := by
  rcases Nat.lt_or_ge i k with h' | h'
  · exact h'
  · have := asc_le ha h' hi
    omega
theorem chain_of_ev {s : List (Int × Int)} (hok : OkS 1 s) (hb : expsB (exps 1 s) = true) (hs : s.length ≤ 40) : chG (uni [] (ev s)) = true := by
  obtain ⟨h1, h2, h3, h4⟩ := ev_sums hok hb
  obtain ⟨ha, hl, hm⟩ := uni0_ok (ev s) (ev s).length (Nat.le_refl _)
  rw [uniK_end] at ha hl hm
  rw [List.take_length] at hm
  obtain ⟨L, hL⟩ : ∃ L, uni [] (ev s) = L := ⟨_, rfl⟩
  rw [hL] at ha hl hm ⊢
  have hr : ∀ i, i < L.length → 1 ≤ L.getD i 0 ∧ L.getD i 0 ≤ 1000000 := fun i hi => by
    obtain ⟨j, hj, e⟩ := getD_of_mem ((hm _).1 (mem_getD hi))
    rw [← e]
    exact h3 j (by omega)
  have hone : (1 : Int) ∈ L := (hm 1).2 (by rw [← h2]; exact mem_getD (by omega))
  obtain ⟨i1, hi1, e1⟩ := getD_of_mem hone
  have hpos : 1 ≤ L.length := by omega
  have hz : L.getD 0 0 = 1 := by
    have := (hr 0 (by omega)).1
    have := asc_le ha (i := 0) (j := i1) (by omega) hi1
    omega
  have hch : Chn L := ⟨hpos, by omega, hz, hr, ha⟩
  unfold chG
  rw [chn_chB hch, Bool.true_and]
  unfold sumsB
  rw [List.all_eq_true]
  intro k hk
  have hkl := List.mem_range.1 hk
  rcases Nat.eq_zero_or_pos k with h | h
  · simp [h]
  · have hne : prs L k k ≠ [] := by
      obtain ⟨j, hj, e⟩ := getD_of_mem ((hm _).1 (mem_getD hkl))
      have hj0 : j ≠ 0 := fun hj0 => by
        rw [hj0, h2] at e
        have := ha 0 k h hkl
        omega
      obtain ⟨a, b, hab, hbk, hsum⟩ := h4 (j - 1) (by omega)
      rw [show j - 1 + 1 = j by omega] at hsum hbk
      obtain ⟨ia, hia, ea⟩ := getD_of_mem ((hm _).2 (mem_getD (l := ev s) (t := a) (by omega)))
      obtain ⟨ib, hib, eb⟩ := getD_of_mem ((hm _).2 (mem_getD (l := ev s) (t := b) (by omega)))
      have pa := (h3 a (by omega)).1
      have pb := (h3 b (by omega)).1
      have ka := asc_idx ha hia hkl (by omega)
      have kb := asc_idx ha hib hkl (by omega)
      rcases Nat.le_total ia ib with h' | h'
      · exact prs_intro h' kb (by omega)
      · exact prs_intro h' ka (by omega)
    simp [isEmpty_ne hne]
end Go.Proofs.Ytbbjgcagkmlngac
