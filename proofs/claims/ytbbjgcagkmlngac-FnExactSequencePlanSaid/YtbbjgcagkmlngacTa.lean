/- Trimmed plans: used steps are kept with all that they need. -/
import Derived.Test.YtbbjgcagkmlngacUv
import Derived.Test.YtbbjgcagkmlngacKd
namespace Go.Proofs.Ytbbjgcagkmlngac
open Go.RowKit

theorem need_mono {N : Nat} {s : List (Int × Int)} {o : List Int} {x : Int} {j : Nat} : ∀ d, hasI (needI N s o j) x = true → hasI (needI N s o (j + d)) x = true := by
  intro d
  induction d with
  | zero => intro h; exact h
  | succ d ih =>
    intro h
    have ih := ih h
    show hasI (needI N s o (j + d + 1)) x = true
    simp only [needI]
    split
    · rw [hasI_two, ih]; rfl
    · exact ih
theorem usd_mem {N : Nat} {s : List (Int × Int)} {o : List Int} {x : Int} : x ∈ usd N s o ↔ ∃ i : Nat, i < s.length ∧ finI N s o i = true ∧ x = i := by
  unfold usd usT
  simp only [List.mem_map, List.mem_filter, List.mem_range'_1]
  constructor
  · rintro ⟨i, ⟨h1, h2⟩, rfl⟩
    exact ⟨i, by omega, h2, rfl⟩
  · rintro ⟨i, h1, h2, rfl⟩
    exact ⟨i, ⟨by omega, h2⟩, rfl⟩
theorem usd_sorted (N : Nat) (s : List (Int × Int)) (o : List Int) : (usd N s o).Pairwise (· < ·) := by
  unfold usd usT
  rw [List.pairwise_map]
  refine List.Pairwise.filter _ ?_
  refine List.Pairwise.imp ?_ (List.pairwise_lt_range' (s := s.length - s.length) (n := s.length) (step := 1))
  intro a b h
  omega
theorem usd_nodup (N : Nat) (s : List (Int × Int)) (o : List Int) : (usd N s o).Nodup := by
  rw [List.nodup_iff_pairwise_ne]
  exact List.Pairwise.imp (fun h => by omega) (usd_sorted N s o)
theorem take_of_lt {l : List Int} (hs : l.Pairwise (· < ·)) {k : Nat} (hk : k < l.length) {x : Int} (hx : x ∈ l) (hlt : x < l[k]) : hasI (l.take k) x = true := by
  unfold hasI
  simp only [List.contains_eq_mem, decide_eq_true_eq]
  obtain ⟨i, hi, rfl⟩ := List.mem_iff_getElem.1 hx
  rw [List.pairwise_iff_getElem] at hs
  have hik : i < k := by
    rcases Nat.lt_or_ge i k with h | h
    · exact h
    · exfalso
      rcases Nat.lt_or_eq_of_le h with h | h
      · have := hs k i hk hi h; omega
      · subst h; omega
  exact List.mem_iff_getElem.2 ⟨i, by simp; omega, by rw [List.getElem_take]⟩
theorem fin_of_has {N : Nat} {s : List (Int × Int)} {o : List Int} {x : Int} {j : Nat} (hj : j ≤ s.length) (h : hasI (needI N s o j) x = true) {i : Nat} (hx : x = (N : Int) + (i : Int)) : finI N s o i = true := by
  unfold finI
  rw [← hx]
  have := need_mono (s.length - j) h
  rwa [show j + (s.length - j) = s.length by omega] at this
theorem usd_cover {N : Nat} {s : List (Int × Int)} {o : List Int} (hout : ∀ x ∈ o, 0 ≤ x ∧ x < (N : Int) + s.length) : ∀ x ∈ o, nmOk N (usd N s o) x = true := by
  intro x hx
  obtain ⟨h1, h2⟩ := hout x hx
  unfold nmOk
  rw [Bool.or_eq_true, decide_eq_true_eq]
  by_cases hv : x < N
  · exact .inl hv
  · right
    have h0 : hasI (needI N s o 0) x = true := by
      unfold hasI
      simp [needI, hx]
    have hf := fin_of_has (by omega) h0 (i := (x - N).toNat) (by omega)
    unfold hasI
    simp only [List.contains_eq_mem, decide_eq_true_eq]
    exact usd_mem.2 ⟨(x - N).toNat, by omega, hf, by omega⟩
theorem usd_ok {N : Nat} {p : Pl} (hs : OkS N p.s) : kOk N p (usd N p.s p.o) (usd N p.s p.o).length = true := by
  unfold kOk
  rw [List.all_eq_true]
  intro k hk
  have hk : k < (usd N p.s p.o).length := by simpa using hk
  obtain ⟨n, hn, hf, he⟩ := usd_mem.1 (List.getElem_mem hk)
  obtain ⟨s1, s2, s3⟩ := hs n hn
  rw [stepAt_eq hk he hn]
  have hj : p.s.length - 1 - n < p.s.length := by omega
  have hat := fin_at (o := p.o) hs hj (i := n) (by omega)
  rw [hf] at hat
  have hneed := need_hit (o := p.o) hn (j := p.s.length - 1 - n) (by omega) hat.symm
  have one : ∀ v : Int, 0 ≤ v → v < N + n → hasI (needI N p.s p.o (p.s.length - 1 - n + 1)) v = true → nmOk N ((usd N p.s p.o).take k) v = true := by
    intro v h0 hv hh
    unfold nmOk
    rw [Bool.or_eq_true, decide_eq_true_eq]
    by_cases hvN : v < N
    · exact .inl hvN
    · right
      have hf2 := fin_of_has (by omega) hh (i := (v - N).toNat) (by omega)
      have hm : (v - N) ∈ usd N p.s p.o := usd_mem.2 ⟨(v - N).toNat, by omega, hf2, by omega⟩
      exact take_of_lt (usd_sorted _ _ _) hk hm (by rw [he]; omega)
  rw [Bool.and_eq_true]
  exact ⟨one _ s1 (by omega) (by rw [hneed, hasI_two]; simp), one _ (by omega) (by omega) (by rw [hneed, hasI_two]; simp)⟩
end Go.Proofs.Ytbbjgcagkmlngac
