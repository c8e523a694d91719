/- Shared plans: the least numbers with the same exponents in place of the values. -/
import Derived.Test.YtppfpdobdoaoiaaTb
import Derived.Test.YtppfpdobdoaoiaaFy
namespace Go.Proofs.Ytppfpdobdoaoiaa
open Go.RowKit

def shF (E : List (List Int)) (v : Int) : Int := (fx E (E.getD v.toNat []) : Nat)
def shS (E : List (List Int)) (st : Int × Int) : Int × Int := stI (shF E st.1) (shF E st.2)
def shareQ (p : Pl) (N : Nat) : Pl := ⟨p.n, p.s.map (shS (exps N p.s)), p.o.map (shF (exps N p.s))⟩
theorem shF_facts {E : List (List Int)} {v : Int} (h0 : 0 ≤ v) (h1 : v < E.length) : 0 ≤ shF E v ∧ shF E v ≤ v ∧ E.getD (shF E v).toNat [] = E.getD v.toNat [] := by
  obtain ⟨k, rfl⟩ : ∃ k : Nat, v = k := ⟨v.toNat, by omega⟩
  have hk : k < E.length := by omega
  have e : E.getD k [] = E[k] := by simp [hk]
  unfold shF
  rw [Int.toNat_natCast, e]
  have h := fx_lt hk
  refine ⟨by omega, by omega, ?_⟩
  rw [Int.toNat_natCast]
  have hl : fx E E[k] < E.length := by omega
  have h2 := fx_at hk
  simp [hl, h2]
theorem sumL_comm (a b : List Int) : sumL a b = sumL b a := by
  unfold sumL
  rw [List.zipWith_comm]
  congr 1
  funext x y
  rw [Int.add_comm]
theorem exps_more (N : Nat) (s : List (Int × Int)) {j i : Nat} (hi : i < N + j) : ∀ d, j + d ≤ s.length → (exps N (s.take (j + d))).getD i [] = (exps N (s.take j)).getD i [] := by
  intro d
  induction d with
  | zero => intro _; rfl
  | succ d ih =>
    intro hd
    have ih := ih (by omega)
    rw [← ih, ← Nat.add_assoc, exps_take N (show j + d < s.length by omega)]
    have hl : i < (exps N (s.take (j + d))).length := by rw [exps_length]; simp; omega
    unfold expStep
    simp [hl, List.getElem?_append_left]
theorem exps_pre (N : Nat) (s : List (Int × Int)) {j i : Nat} (hj : j ≤ s.length) (hi : i < N + j) : (exps N (s.take j)).getD i [] = (exps N s).getD i [] := by
  have h := exps_more N s hi (s.length - j) (by omega)
  rw [show j + (s.length - j) = s.length by omega, List.take_of_length_le (Nat.le_refl _)] at h
  exact h.symm
theorem exps_share {N : Nat} {s : List (Int × Int)} (hs : OkS N s) : ∀ j, j ≤ s.length → exps N ((s.map (shS (exps N s))).take j) = exps N (s.take j) := by
  intro j
  induction j with
  | zero => intro _; simp
  | succ j ih =>
    intro hj
    have ih := ih (by omega)
    have hlt : j < s.length := by omega
    have hlt' : j < (s.map (shS (exps N s))).length := by simpa using hlt
    obtain ⟨h1, h2, h3⟩ := hs j hlt
    have hel := exps_length N s
    rw [exps_take N hlt', exps_take N hlt, ih]
    obtain ⟨fa0, fa1, fa2⟩ := shF_facts (E := exps N s) h1 (by omega)
    obtain ⟨fb0, fb1, fb2⟩ := shF_facts (E := exps N s) (v := (s[j]).2) (by omega) (by omega)
    have ea : (exps N (s.take j)).getD (shF (exps N s) (s[j]).1).toNat [] = (exps N (s.take j)).getD (s[j]).1.toNat [] := by
      rw [exps_pre N s (by omega) (by omega), exps_pre N s (by omega) (by omega), fa2]
    have eb : (exps N (s.take j)).getD (shF (exps N s) (s[j]).2).toNat [] = (exps N (s.take j)).getD (s[j]).2.toNat [] := by
      rw [exps_pre N s (by omega) (by omega), exps_pre N s (by omega) (by omega), fb2]
    rw [List.getElem_map]
    unfold expStep shS stI leastI mostI
    simp only
    by_cases hc : shF (exps N s) (s[j]).1 < shF (exps N s) (s[j]).2
    · rw [if_pos hc, if_neg (by omega), ea, eb]
    · rw [if_neg hc]
      by_cases hc2 : shF (exps N s) (s[j]).2 < shF (exps N s) (s[j]).1
      · rw [if_pos hc2, ea, eb, sumL_comm]
      · have he : shF (exps N s) (s[j]).1 = shF (exps N s) (s[j]).2 := by omega
        rw [if_neg hc2, eb]
        rw [← ea, he, eb]
theorem okS_share {N : Nat} {s : List (Int × Int)} (hs : OkS N s) : OkS N (s.map (shS (exps N s))) := by
  intro i hi
  have hi' : i < s.length := by simpa using hi
  obtain ⟨h1, h2, h3⟩ := hs i hi'
  have hel := exps_length N s
  obtain ⟨fa0, fa1, _⟩ := shF_facts (E := exps N s) h1 (by omega)
  obtain ⟨fb0, fb1, _⟩ := shF_facts (E := exps N s) (v := (s[i]).2) (by omega) (by omega)
  rw [List.getElem_map]
  unfold shS stI leastI mostI
  simp only
  split <;> split <;> omega
theorem pre_of_okS {N : Nat} {s : List (Int × Int)} (h : OkS N s) : okPre (N : Int) s s.length = true := by
  unfold okPre
  rw [List.all_eq_true]
  intro i hi
  have hi' : i < s.length := by simpa using hi
  obtain ⟨h1, h2, h3⟩ := h i hi'
  simp [hi', stepOk, inB]
  omega
theorem good_share {p : Pl} {N : Nat} (hg : good p = true) (hN : p.n = N) : good (shareQ p N) = true := by
  obtain ⟨N', hN', n1, n6, hs40, ho6, hok, hout, hex⟩ := good_facts hg
  obtain rfl : N' = N := by omega
  have e1 := exps_share hok p.s.length (Nat.le_refl _)
  rw [List.take_of_length_le (by simp), List.take_of_length_le (Nat.le_refl _)] at e1
  have hel := exps_length N' p.s
  have hnat : p.n.toNat = N' := by omega
  have hpre := pre_of_okS (okS_share hok)
  have hin : inB p.n 1 6 = true := by simp [inB]; omega
  have hall : allB (p.o.map (shF (exps N' p.s))) 0 (p.n + (p.s.length : Int) - 1) = true := by
    unfold allB
    rw [List.all_eq_true]
    intro x hx
    obtain ⟨v, hv, rfl⟩ := List.mem_map.1 hx
    obtain ⟨v0, v1⟩ := hout v hv
    obtain ⟨f0, f1, _⟩ := shF_facts (E := exps N' p.s) v0 (by omega)
    simp [inB]
    omega
  unfold good shareQ
  simp only [hin, List.length_map, hs40, ho6, decide_true, Bool.true_and, hnat, e1, hex, hall, Bool.and_true]
  rw [hN]
  simpa using hpre
end Go.Proofs.Ytppfpdobdoaoiaa
