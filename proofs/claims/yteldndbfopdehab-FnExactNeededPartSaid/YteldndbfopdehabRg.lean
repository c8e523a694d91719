/- What the end of a chain needs, as data. -/
import Derived.Test.YteldndbfopdehabRd
import Derived.Test.YteldndbfopdehabRb
namespace Go.Proofs.Yteldndbfopdehab
open Go.RowKit

theorem need_more {N : Nat} {s : List (Int × Int)} {o : List Int} {x : Int} : ∀ d j, hasI (needI N s o j) x = true → hasI (needI N s o (j + d)) x = true := by
  intro d
  induction d with
  | zero => intro j h; exact h
  | succ d ih =>
    intro j h
    have h1 := ih j h
    show hasI (needI N s o (j + d + 1)) x = true
    simp only [needI]
    split
    · rw [hasI_two, h1]; rfl
    · exact h1
/-- The operands of a needed step are needed. -/
theorem need_closed {s : List (Int × Int)} {o : List Int} (hs : OkS 1 s) {i : Nat} (hi : i < s.length) (hf : finI 1 s o i = true) : hasI (needI 1 s o s.length) (s[i]).1 = true ∧ hasI (needI 1 s o s.length) (s[i]).2 = true := by
  have hj : s.length - 1 - i < s.length := by omega
  have hij : s.length - 1 - (s.length - 1 - i) = i := by omega
  have h := fin_at (o := o) hs hj hij
  rw [hf] at h
  have h2 := need_hit hi hij h.symm
  have e : s.length - 1 - i + 1 + i = s.length := by omega
  have k1 : hasI (needI 1 s o (s.length - 1 - i + 1)) (s[i]).1 = true := by rw [h2, hasI_two]; simp
  have k2 : hasI (needI 1 s o (s.length - 1 - i + 1)) (s[i]).2 = true := by rw [h2, hasI_two]; simp
  have m1 := need_more i _ k1
  have m2 := need_more i _ k2
  rw [e] at m1 m2
  exact ⟨m1, m2⟩
theorem fin_of {s : List (Int × Int)} {o : List Int} {v : Int} {u : Nat} (h : hasI (needI 1 s o s.length) v = true) (hv : v = (u : Int) + 1) : finI 1 s o u = true := by
  unfold finI
  rw [show ((1 : Nat) : Int) + (u : Int) = v by omega]
  exact h
/-- The values of the kept steps are those of the used ones. -/
theorem asc_ints {m : List Int} (ha : Asc m) {i j : Nat} (hj : j < m.length) (hi : i < m.length) (h : m.getD i 0 < m.getD j 0) : i < j := asc_idx ha hi hj h
theorem us_asc (s : List (Int × Int)) (o : List Int) : Asc (usd 1 s o) := by
  have hp : ((List.range' (s.length - s.length) s.length).filter (finI 1 s o)).Pairwise (· < ·) := List.Pairwise.filter _ List.pairwise_lt_range'
  unfold usd usT
  generalize (List.range' (s.length - s.length) s.length).filter (finI 1 s o) = F at hp
  intro i j hij hj
  rw [List.length_map] at hj
  have h := List.pairwise_iff_getElem.1 hp i j (by omega) hj hij
  have e : ∀ t (ht : t < F.length), (F.map fun i : Nat => (i : Int)).getD t 0 = ((F[t] : Nat) : Int) := fun t ht => by simp [ht]
  rw [e i (by omega), e j hj]
  omega
theorem plc_of {U : List Int} (ha : Asc U) {p : Nat} (hp : p < U.length) {n : Int} (h : U.getD p 0 = n) : plc U n 0 = p := by
  have e : U[p] = n := by rw [← h]; simp [hp]
  refine plc_hit hp ?_ (by rw [e]; simp)
  rw [hasI_mem, decide_eq_false_iff_not, mem_take_getD (by omega)]
  rintro ⟨i, hi, hin⟩
  have := ha i p hi hp
  omega
def kv (l U : List Int) (k : Nat) : List Int := 1 :: (U.take k).map fun u => l.getD (u.toNat + 1) 0
theorem kv_len (l U : List Int) {k : Nat} (hk : k ≤ U.length) : (kv l U k).length = k + 1 := by simp [kv]; omega
theorem kv_at (l U : List Int) {k p : Nat} (hp : p < k) (hk : k ≤ U.length) : (kv l U k).getD (p + 1) 0 = l.getD ((U.getD p 0).toNat + 1) 0 := by
  unfold kv
  rw [List.getD_cons_succ]
  have : p < U.length := by omega
  simp [hp, this]
theorem kv_succ (l U : List Int) {k : Nat} (hk : k < U.length) : kv l U (k + 1) = kv l U k ++ [l.getD ((U.getD k 0).toNat + 1) 0] := by
  unfold kv
  rw [take_succ_getD hk, List.map_append]
  rfl

/-- Where an operand of the k-th used step stands among the kept values. -/
theorem num_pos {l : List Int} (hg : chG l = true) {o : List Int} {S : List (Int × Int)} (_hS : stepsK l l.length = S) {U : List Int} (hU : usd 1 S o = U) {k : Nat} (hk : k < U.length) {v : Int} (h0 : 0 ≤ v) (hv : v ≤ U.getD k 0) (hn : hasI (needI 1 S o S.length) v = true) :
    ∃ p : Nat, numI 1 U v = p ∧ p < k + 1 ∧ (kv l U k).getD p 0 = l.getD v.toNat 0 := by
  have ha : Asc U := by rw [← hU]; exact us_asc S o
  rcases Int.lt_or_eq_of_le h0 with hpos | hz
  · have hfin := fin_of (u := v.toNat - 1) hn (by omega)
    have hul : ∀ x ∈ U, 0 ≤ x ∧ x < (S.length : Int) := by rw [← hU]; exact usd_in
    have hlt := (hul _ (mem_getD hk)).2
    have hmem : ((v.toNat - 1 : Nat) : Int) ∈ U := by
      rw [← hU]
      exact usd_mem.2 ⟨v.toNat - 1, by omega, hfin, rfl⟩
    obtain ⟨p, hp, he⟩ := getD_of_mem hmem
    have hpk : p < k := asc_ints ha hk hp (by rw [he]; omega)
    refine ⟨p + 1, ?_, by omega, ?_⟩
    · unfold numI
      rw [if_neg (by omega), plc_of ha hp (n := v - ((1 : Nat) : Int)) (by rw [he]; omega)]
      omega
    · rw [kv_at l U hpk (by omega), he]
      congr 1
      omega
  · subst hz
    refine ⟨0, rfl, by omega, ?_⟩
    unfold kv
    rw [List.getD_cons_zero]
    exact (chG_chn hg).one.symm
theorem stI_cases (a b : Int) : stI a b = (a, b) ∨ stI a b = (b, a) := by
  unfold stI leastI mostI
  by_cases h : a < b
  · left; rw [if_pos h, if_neg (by omega)]
  · by_cases h' : b < a
    · right; rw [if_neg h, if_pos h']
    · left; rw [if_neg h, if_neg h', show a = b by omega]
theorem stI_le (a b : Int) : (stI a b).1 ≤ (stI a b).2 := by
  unfold stI leastI mostI
  simp only
  split <;> split <;> omega
/-- The kept steps, one by one. -/
theorem keep_facts {l : List Int} (hg : chG l = true) {o : List Int} {S : List (Int × Int)} (hS : stepsK l l.length = S) {U : List Int} (hU : usd 1 S o = U) : ∀ k, k ≤ U.length →
    ev (keepS ⟨1, S, o⟩ 1 U k) = kv l U k ∧ OkS 1 (keepS ⟨1, S, o⟩ 1 U k) := by
  have hul : ∀ x ∈ U, 0 ≤ x ∧ x < (S.length : Int) := by rw [← hU]; exact usd_in
  have hok : OkS 1 S := by rw [← hS]; exact okS_stepsK hg
  have hSl : S.length = l.length - 1 := by rw [← hS, stepsK_length]
  intro k
  induction k with
  | zero => intro _; exact ⟨rfl, fun i hi => absurd hi (by simp [keepS])⟩
  | succ k ih =>
    intro hk
    obtain ⟨h1, h2⟩ := ih (by omega)
    have hk' : k < U.length := by omega
    have hux := hul _ (mem_getD hk')
    obtain ⟨u, hu⟩ : ∃ u : Nat, U.getD k 0 = u := ⟨(U.getD k 0).toNat, by omega⟩
    have hus : u < S.length := by omega
    have huk : U[k] = (u : Int) := by rw [← hu]; simp [hk']
    have hfin : finI 1 S o u = true := by
      have hm : (u : Int) ∈ usd 1 S o := by rw [hU, ← hu]; exact mem_getD hk'
      obtain ⟨i, _, hi2, hi3⟩ := usd_mem.1 hm
      have : u = i := by omega
      rw [this]
      exact hi2
    obtain ⟨n1, n2⟩ := need_closed hok hus hfin
    obtain ⟨o1, o2, o3⟩ := hok u hus
    obtain ⟨p, hp1, hp2, hp3⟩ := num_pos hg hS hU hk' (v := (S[u]).1) o1 (by omega) n1
    obtain ⟨q, hq1, hq2, hq3⟩ := num_pos hg hS hU hk' (v := (S[u]).2) (by omega) (by omega) n2
    obtain ⟨a, b, e, _, _, e3⟩ := step_form hg (k := u) (by omega)
    have eS : S[u] = ((a : Int), (b : Int)) := by
      have : S[u] = (stepsK l l.length)[u]'(by rw [hS]; exact hus) := by congr 1; exact hS.symm
      rw [this]
      unfold stepsK
      rw [List.getElem_map, List.getElem_range, e]
    have hks := keepS_succ (p := ⟨1, S, o⟩) (N := 1) hk' huk hus
    simp only at hks
    rw [hp1, hq1] at hks
    have hlen : (keepS ⟨1, S, o⟩ 1 U k).length = k := keepS_len _ _ _ (by omega)
    have hrng := ((chG_chn hg).rng (u + 1) (by omega)).2
    have hsum : (kv l U k).getD p 0 + (kv l U k).getD q 0 = l.getD (u + 1) 0 := by
      rw [hp3, hq3, eS]
      exact e3
    refine ⟨?_, ?_⟩
    · rw [hks]
      unfold ev
      rw [List.foldl_append]
      unfold ev at h1
      rw [h1]
      show evS (kv l U k) (stI (p : Int) (q : Int)) = _
      rw [kv_succ l U hk', hu]
      unfold evS
      rcases stI_cases (p : Int) (q : Int) with h | h
      · rw [h]
        simp only [Int.toNat_natCast]
        rw [hsum]
        unfold leastI
        rw [if_pos (by omega)]
      · rw [h]
        simp only [Int.toNat_natCast]
        rw [Int.add_comm, hsum]
        unfold leastI
        rw [if_pos (by omega)]
    · rw [hks]
      intro i hi
      rw [List.length_append, hlen] at hi
      rcases Nat.lt_or_eq_of_le (Nat.le_of_lt_succ hi) with h | h
      · have hi' : i < (keepS ⟨1, S, o⟩ 1 U k).length := by omega
        rw [List.getElem_append_left hi']
        exact h2 i hi'
      · have e' : (keepS ⟨1, S, o⟩ 1 U k ++ [stI (p : Int) (q : Int)])[i]'(by rw [List.length_append, hlen]; exact hi) = stI (p : Int) (q : Int) := by
          rw [List.getElem_append_right (by omega)]
          simp
        rw [e']
        have hle := stI_le (p : Int) (q : Int)
        rcases stI_cases (p : Int) (q : Int) with h' | h' <;> (rw [h'] at hle ⊢; simp only at hle ⊢; omega)

/-- A rising list is what it is made of. -/
theorem uniK_asc {m : List Int} (ha : Asc m) : ∀ k, k ≤ m.length → uniK [] m k = m.take k := by
  intro k
  induction k with
  | zero => intro _; simp [uniK_zero]
  | succ k ih =>
    intro hk
    rw [uniK_succ (by omega), ih (by omega), take_succ_getD (by omega)]
    have hlt : ∀ t, t < k → (m.take k).getD t 0 < m.getD k 0 := fun t ht => by rw [getD_take ht]; exact ha t k ht (by omega)
    have hl : (m.take k).length = k := by rw [List.length_take]; omega
    have hc : cnt (m.take k) (m.getD k 0) = k := cnt_at (by omega) hlt (fun t h1 h2 => by omega)
    have hn : ¬ m.getD k 0 ∈ m.take k := by
      rw [mem_take_getD (by omega)]
      rintro ⟨i, hi, he⟩
      have := ha i k hi (by omega)
      omega
    rw [putI_new hn, hc]
    unfold insA
    rw [List.take_of_length_le (by omega), List.drop_of_length_le (by omega)]
theorem uni_asc {m : List Int} (ha : Asc m) : uni [] m = m := by
  rw [← uniK_end, uniK_asc ha m.length (Nat.le_refl _), List.take_length]
theorem asc_ext : ∀ (n : Nat) {a b : List Int}, a.length = n → Asc a → Asc b → (∀ x, x ∈ a ↔ x ∈ b) → a = b := by
  intro n a b _ ha hb h
  have key : ∀ {a b : List Int}, Asc a → Asc b → (∀ x, x ∈ a ↔ x ∈ b) → ∀ k, k < a.length → k < b.length ∧ a.getD k 0 = b.getD k 0 := by
    intro a b ha hb h k
    induction k using Nat.strongRecOn with
    | ind k ih =>
      intro hk
      obtain ⟨i, hi, ei⟩ := getD_of_mem ((h _).1 (mem_getD hk))
      have hki : k ≤ i := by
        rcases Nat.lt_or_ge i k with h' | h'
        · have h1 := (ih i h' (by omega)).2
          have := ha i k h' hk
          omega
        · exact h'
      have hkb : k < b.length := by omega
      refine ⟨hkb, ?_⟩
      obtain ⟨j, hj, ej⟩ := getD_of_mem ((h _).2 (mem_getD hkb))
      have h1 : b.getD k 0 ≤ b.getD i 0 := asc_le hb hki hi
      have hkj : k ≤ j := by
        rcases Nat.lt_or_ge j k with h' | h'
        · have h2 := (ih j h' (by omega)).2
          have := hb j k h' hkb
          omega
        · exact h'
      have h2 : a.getD k 0 ≤ a.getD j 0 := asc_le ha hkj hj
      omega
  refine List.ext_getElem ?_ fun k h1 h2 => ?_
  · rcases Nat.lt_trichotomy a.length b.length with h' | h' | h'
    · have := (key hb ha (fun x => (h x).symm) a.length h').1
      omega
    · exact h'
    · have := (key ha hb h b.length h').1
      omega
  · have h3 := (key ha hb h k h1).2
    simpa [h1, h2] using h3

/-- The numbers that the end of a chain needs. -/
def ndU (l : List Int) : List Int := usd 1 (stepsK l l.length) [(l.length : Int) - 1]
def ndL (l : List Int) : List Int := if chG l then kv l (ndU l) (ndU l).length else []
theorem ndL_true {l : List Int} (h : chG l = true) : ndL l = kv l (ndU l) (ndU l).length := by unfold ndL; rw [if_pos h]
theorem ndL_false {l : List Int} (h : chG l = false) : ndL l = [] := by unfold ndL; rw [h]; rfl
theorem ndU_rng (l : List Int) : ∀ x ∈ ndU l, 0 ≤ x ∧ x < ((stepsK l l.length).length : Int) := usd_in
theorem ndU_len {l : List Int} (hg : chG l = true) : (ndU l).length ≤ 40 := by
  have h := us_len 1 (stepsK l l.length) [(l.length : Int) - 1] (stepsK l l.length).length
  have h2 : (stepsK l l.length).length = l.length - 1 := stepsK_length _ _
  have := (chG_chn hg).most
  unfold ndU usd
  omega
theorem ndL_le (l : List Int) : (ndL l).length ≤ 1000 := by
  cases hg : chG l with
  | false => rw [ndL_false hg]; simp
  | true => rw [ndL_true hg, kv_len _ _ (Nat.le_refl _)]; have := ndU_len hg; omega
theorem kv_asc {l : List Int} (hg : chG l = true) : Asc (kv l (ndU l) (ndU l).length) := by
  have hch := chG_chn hg
  have hU := us_asc (stepsK l l.length) [(l.length : Int) - 1]
  have hr := ndU_rng l
  have h2 : (stepsK l l.length).length = l.length - 1 := stepsK_length _ _
  intro i j hij hj
  rw [kv_len _ _ (Nat.le_refl _)] at hj
  obtain ⟨j', rfl⟩ : ∃ t, j = t + 1 := ⟨j - 1, by omega⟩
  have hj' : j' < (ndU l).length := by omega
  have rj := hr _ (mem_getD hj')
  rw [kv_at l (ndU l) hj' (Nat.le_refl _)]
  cases i with
  | zero =>
    unfold kv
    rw [List.getD_cons_zero, ← hch.one]
    exact hch.asc 0 _ (by omega) (by omega)
  | succ i' =>
    have hi' : i' < (ndU l).length := by omega
    have ri := hr _ (mem_getD hi')
    rw [kv_at l (ndU l) hi' (Nat.le_refl _)]
    have := hU i' j' (by omega) hj'
    unfold ndU at *
    exact hch.asc _ _ (by omega) (by omega)
/-- The trimmed plan of a chain has the needed numbers as its exponents. -/
theorem trim_chain {l : List Int} (hg : chG l = true) : cpG (trimR (chP l)) = true ∧ cpL (trimR (chP l)) = ndL l := by
  have hch := chG_chn hg
  have h1 := hch.pos
  have h2 : (stepsK l l.length).length = l.length - 1 := stepsK_length _ _
  have hout : ∀ x ∈ [(l.length : Int) - 1], 0 ≤ x ∧ x < (l.length : Int) := fun x hx => by simp at hx; omega
  have hgood := good_chain hg hout
  rw [show decide ([(l.length : Int) - 1].length ≤ 6) = true from rfl] at hgood
  rw [chP_true hg, trimR_good hgood (N := 1) rfl]
  simp only
  have hk := keep_facts hg (o := [(l.length : Int) - 1]) rfl (U := ndU l) rfl (ndU l).length (Nat.le_refl _)
  have hUe : usd 1 (stepsK l l.length) [(l.length : Int) - 1] = ndU l := rfl
  rw [hUe]
  obtain ⟨e1, e2⟩ := hk
  have hl := keepS_len ⟨1, stepsK l l.length, [(l.length : Int) - 1]⟩ 1 (ndU l) (Nat.le_refl (ndU l).length)
  have hU40 := ndU_len hg
  have hasc := kv_asc hg
  obtain ⟨KS, hKS⟩ : ∃ KS, keepS ⟨1, stepsK l l.length, [(l.length : Int) - 1]⟩ 1 (ndU l) (ndU l).length = KS := ⟨_, rfl⟩
  rw [hKS] at e1 e2 hl ⊢
  have hrng : ∀ x ∈ kv l (ndU l) (ndU l).length, 0 ≤ x ∧ x ≤ 1000000 := fun x hx => by
    unfold kv at hx
    rcases List.mem_cons.1 hx with rfl | hx
    · omega
    · obtain ⟨u, hu, rfl⟩ := List.mem_map.1 hx
      have := ndU_rng l u (List.mem_of_mem_take hu)
      have := hch.rng (u.toNat + 1) (by omega)
      omega
  have hE := exps_ev e2 KS.length (Nat.le_refl _)
  rw [List.take_of_length_le (Nat.le_refl _)] at hE
  have hb : expsB (exps 1 KS) = true := by
    rw [hE, e1]
    unfold expsB
    rw [List.all_eq_true]
    intro r hr
    obtain ⟨x, hx, rfl⟩ := List.mem_map.1 hr
    have := hrng x hx
    simp only [allB, inB, List.all_cons, List.all_nil, Bool.and_true, Bool.and_eq_true, decide_eq_true_eq]
    omega
  have hgt : good (⟨1, KS, keepO ⟨1, stepsK l l.length, [(l.length : Int) - 1]⟩ 1 (ndU l) [(l.length : Int) - 1].length⟩ : Pl) = true := by
    have hol : (keepO ⟨1, stepsK l l.length, [(l.length : Int) - 1]⟩ 1 (ndU l) [(l.length : Int) - 1].length).length = 1 := keepO_len ⟨1, stepsK l l.length, [(l.length : Int) - 1]⟩ 1 (ndU l) (Nat.le_refl _)
    unfold good
    simp only
    have a1 : inB 1 1 6 = true := rfl
    have a2 : decide (KS.length ≤ 40) = true := by simp; omega
    have a3 : okPre 1 KS KS.length = true := okPre_of (n := 1) e2 _ (Nat.le_refl _)
    have a5 : allB (keepO ⟨1, stepsK l l.length, [(l.length : Int) - 1]⟩ 1 (ndU l) [(l.length : Int) - 1].length) 0 (1 + (KS.length : Int) - 1) = true := by
      unfold allB
      rw [List.all_eq_true]
      intro x hx
      unfold keepO at hx
      simp only [List.length_cons, List.length_nil, List.take_succ_cons, List.take_nil, List.map_cons, List.map_nil, List.mem_singleton] at hx
      subst hx
      have hv : 0 ≤ numI 1 (ndU l) ((l.length : Int) - 1) ∧ numI 1 (ndU l) ((l.length : Int) - 1) ≤ ((ndU l).length : Int) := by
        by_cases hl1 : l.length = 1
        · have : (l.length : Int) - 1 = 0 := by omega
          rw [this]
          unfold numI
          rw [if_pos (by omega)]
          omega
        · have hm : ((l.length - 2 : Nat) : Int) ∈ ndU l := by
            refine usd_mem.2 ⟨l.length - 2, by omega, ?_, rfl⟩
            refine fin_of (v := (l.length : Int) - 1) ?_ (by omega)
            have h0 : hasI (needI 1 (stepsK l l.length) [(l.length : Int) - 1] 0) ((l.length : Int) - 1) = true := by simp [needI, hasI]
            have h := need_more (stepsK l l.length).length _ h0
            rw [Nat.zero_add] at h
            exact h
          obtain ⟨p, hp, he⟩ := getD_of_mem hm
          unfold numI
          rw [if_neg (by omega), plc_of (U := ndU l) (us_asc (stepsK l l.length) [(l.length : Int) - 1]) hp (n := (l.length : Int) - 1 - ((1 : Nat) : Int)) (by
            show (ndU l).getD p 0 = _
            rw [he]; omega)]
          omega
      unfold inB
      simp only [Bool.and_eq_true, decide_eq_true_eq]
      omega
    rw [a1, a2, a3, show (1 : Int).toNat = 1 from rfl, hb, a5, hol]
    rfl
  have hcp : cpG (⟨1, KS, keepO ⟨1, stepsK l l.length, [(l.length : Int) - 1]⟩ 1 (ndU l) [(l.length : Int) - 1].length⟩ : Pl) = true := by
    unfold cpG
    rw [hgt]
    rfl
  refine ⟨hcp, ?_⟩
  rw [cpL_true hcp, ndL_true hg]
  simp only
  rw [e1]
  exact uni_asc hasc

theorem need_rng {s : List (Int × Int)} {o : List Int} (hs : OkS 1 s) (ho : ∀ x ∈ o, 0 ≤ x ∧ x ≤ (s.length : Int)) : ∀ j, j ≤ s.length → ∀ x ∈ needI 1 s o j, 0 ≤ x ∧ x ≤ (s.length : Int) := by
  intro j
  induction j with
  | zero => intro _; exact ho
  | succ j ih =>
    intro hj x hx
    have hlt : s.length - 1 - j < s.length := by omega
    obtain ⟨h1, h2, h3⟩ := hs _ hlt
    have e : s.getD (s.length - 1 - j) (0, 0) = s[s.length - 1 - j] := by simp [hlt]
    simp only [needI] at hx
    split at hx
    · rw [e] at hx
      rcases List.mem_append.1 hx with h | h
      · exact ih (by omega) x h
      · simp only [List.mem_cons, List.not_mem_nil, or_false] at h
        rcases h with rfl | rfl <;> omega
    · exact ih (by omega) x hx
theorem need_zero {s : List (Int × Int)} {o : List Int} (hs : OkS 1 s) (ho : ∀ x ∈ o, 0 ≤ x ∧ x ≤ (s.length : Int)) : ∀ (n : Nat) (v : Int), v.toNat ≤ n → v ∈ needI 1 s o s.length → (0 : Int) ∈ needI 1 s o s.length := by
  intro n
  induction n with
  | zero =>
    intro v hv hm
    have := need_rng hs ho s.length (Nat.le_refl _) v hm
    rwa [show v = 0 by omega] at hm
  | succ n ih =>
    intro v hv hm
    have hr := need_rng hs ho s.length (Nat.le_refl _) v hm
    rcases Int.lt_or_eq_of_le hr.1 with h | h
    · have hi : v.toNat - 1 < s.length := by omega
      have hf := fin_of (s := s) (o := o) (u := v.toNat - 1) (v := v) (by rw [hasI_mem]; simpa using hm) (by omega)
      obtain ⟨h1, h2, h3⟩ := hs _ hi
      exact ih _ (by omega) (hasI_true (need_closed hs hi hf).1)
    · rwa [← h] at hm
def ndO (l : List Int) : List Int := [(l.length : Int) - 1]
def ndX (l : List Int) (j : Nat) : List Int := uni [] (needI 1 (stepsK l l.length) (ndO l) j)
theorem ndX_mem (l : List Int) (j : Nat) (x : Int) : x ∈ ndX l j ↔ x ∈ needI 1 (stepsK l l.length) (ndO l) j := by
  have h := (uni0_ok (needI 1 (stepsK l l.length) (ndO l) j) _ (Nat.le_refl _)).2.2 x
  rw [uniK_end, List.take_length] at h
  exact h
theorem ndX_asc (l : List Int) (j : Nat) : Asc (ndX l j) := by
  have h := (uni0_ok (needI 1 (stepsK l l.length) (ndO l) j) _ (Nat.le_refl _)).1
  rw [uniK_end] at h
  exact h
theorem ndX_le (l : List Int) (j : Nat) : (ndX l j).length ≤ 1 + 2 * j := by
  have h := (uni0_ok (needI 1 (stepsK l l.length) (ndO l) j) _ (Nat.le_refl _)).2.1
  rw [uniK_end] at h
  have h2 := need_len 1 (stepsK l l.length) (ndO l) j
  have h3 : (ndO l).length = 1 := rfl
  unfold ndX
  omega
theorem hasI_ndX (l : List Int) (j : Nat) (x : Int) : hasI (ndX l j) x = hasI (needI 1 (stepsK l l.length) (ndO l) j) x := by
  rw [hasI_mem, hasI_mem, decide_eq_decide]
  exact ndX_mem l j x
theorem uni_snoc2 (m : List Int) (a b : Int) : uni [] (m ++ [a, b]) = putI (putI (uni [] m) a) b := by
  unfold uni
  rw [List.foldl_append]
  rfl
theorem ndX_rng {l : List Int} (hg : chG l = true) {j : Nat} (hj : j ≤ l.length - 1) : ∀ x ∈ ndX l j, 0 ≤ x ∧ x < (l.length : Int) := by
  intro x hx
  have h2 : (stepsK l l.length).length = l.length - 1 := stepsK_length _ _
  have hp := (chG_chn hg).pos
  have h := need_rng (okS_stepsK hg) (o := ndO l) (fun x hx => by unfold ndO at hx; simp at hx; omega) j (by omega) x ((ndX_mem l j x).1 hx)
  omega
theorem ndX_end {l : List Int} (hg : chG l = true) : ndX l (l.length - 1) = 0 :: (ndU l).map fun u => u + 1 := by
  have hch := chG_chn hg
  have hp := hch.pos
  have h2 : (stepsK l l.length).length = l.length - 1 := stepsK_length _ _
  have hok := okS_stepsK hg
  have ho : ∀ x ∈ ndO l, 0 ≤ x ∧ x ≤ ((stepsK l l.length).length : Int) := fun x hx => by unfold ndO at hx; simp at hx; omega
  have hU := us_asc (stepsK l l.length) [(l.length : Int) - 1]
  have hr := ndU_rng l
  have ha2 : Asc (0 :: (ndU l).map fun u => u + 1) := by
    intro i j hij hj
    simp only [List.length_cons, List.length_map] at hj
    have e : ∀ t, t < (ndU l).length → (0 :: (ndU l).map fun u => u + 1).getD (t + 1) 0 = (ndU l).getD t 0 + 1 := fun t ht => by
      rw [List.getD_cons_succ]
      simp [ht]
    obtain ⟨j', rfl⟩ : ∃ t, j = t + 1 := ⟨j - 1, by omega⟩
    rw [e j' (by omega)]
    have rj := hr _ (mem_getD (l := ndU l) (t := j') (by omega))
    cases i with
    | zero => rw [List.getD_cons_zero]; omega
    | succ i' =>
      rw [e i' (by omega)]
      have := hU i' j' (by omega) (show j' < (ndU l).length by omega)
      unfold ndU
      omega
  refine asc_ext _ rfl (ndX_asc l _) ha2 fun x => ?_
  rw [ndX_mem, List.mem_cons, List.mem_map, ← h2]
  constructor
  · intro hm
    have hx := need_rng hok ho _ (Nat.le_refl _) x hm
    rcases Int.lt_or_eq_of_le hx.1 with h | h
    · refine .inr ⟨x - 1, ?_, by omega⟩
      have hf := fin_of (u := x.toNat - 1) (v := x) (by rw [hasI_mem]; simpa using hm) (by omega)
      have hm2 : ((x.toNat - 1 : Nat) : Int) ∈ ndU l := usd_mem.2 ⟨x.toNat - 1, by omega, hf, rfl⟩
      rwa [show ((x.toNat - 1 : Nat) : Int) = x - 1 by omega] at hm2
    · exact .inl h.symm
  · rintro (rfl | ⟨u, hu, rfl⟩)
    · have h0 : hasI (needI 1 (stepsK l l.length) (ndO l) 0) ((l.length : Int) - 1) = true := by simp [needI, hasI, ndO]
      have h := need_more (stepsK l l.length).length _ h0
      rw [Nat.zero_add] at h
      exact need_zero hok ho _ _ (Nat.le_refl _) (hasI_true h)
    · obtain ⟨i, hi, hf, rfl⟩ := usd_mem.1 hu
      unfold finI at hf
      have h := hasI_true hf
      rwa [show ((1 : Nat) : Int) + (i : Int) = (i : Int) + 1 by omega] at h
/-- The numbers of the list at the needed indices. -/
theorem ndL_eq {l : List Int} (hg : chG l = true) : (ndX l (l.length - 1)).map (fun x => l.getD x.toNat 0) = ndL l := by
  rw [ndX_end hg, ndL_true hg]
  unfold kv
  rw [List.take_length, List.map_cons, List.map_map]
  congr 1
  · exact (chG_chn hg).one
  · apply List.map_congr_left
    intro u hu
    have := ndU_rng l u hu
    show l.getD (u + 1).toNat 0 = l.getD (u.toNat + 1) 0
    congr 1
    omega
end Go.Proofs.Yteldndbfopdehab
