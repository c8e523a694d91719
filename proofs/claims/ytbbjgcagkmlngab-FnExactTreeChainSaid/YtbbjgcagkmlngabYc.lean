/- The way to a number in the tree of powers, by the model. -/
import Derived.Test.YtbbjgcagkmlngabYb
import Derived.Test.YtbbjgcagkmlngabCs
import Derived.Test.YtbbjgcagkmlngabQn
import Derived.Test.YtbbjgcagkmlngabYa
namespace Go.Proofs.Ytbbjgcagkmlngab
open Go.RowKit


/-- The number above each number. -/
structure Ab (n : Nat) (s : TS) (ab : List Int) : Prop where
  len : ab.length = n + 1
  no : ∀ j, s.W j = [] → ab.getD j 0 = 0
  one : ab.getD 1 0 = 0
  yes : ∀ j, 2 ≤ j → s.W j ≠ [] → ∃ m : Nat, 1 ≤ m ∧ m < j ∧ ab.getD j 0 = (m : Int) ∧ s.W m ≠ [] ∧ s.W j = s.W m ++ [j]
theorem getD_rep (n j : Nat) : (List.replicate n (0 : Int)).getD j 0 = 0 := by
  rw [List.getD_eq_getElem?_getD, List.getElem?_replicate]
  split <;> rfl
theorem Ab.start (n : Nat) : Ab n tZ (List.replicate (n + 1) (0 : Int)) := by
  refine ⟨by simp, fun j _ => getD_rep _ _, getD_rep _ _, fun j hj h => ?_⟩
  exfalso
  apply h
  show (if j = 1 then [1] else []) = []
  rw [if_neg (by omega)]
theorem getD_set {l : List Int} {i j : Nat} {x : Int} (hi : i < l.length) : (l.set i x).getD j 0 = if j = i then x else l.getD j 0 := by
  rw [List.getD_eq_getElem?_getD, List.getElem?_set]
  split
  · subst_vars
    rw [if_pos rfl]
    simp
  · rw [if_neg (by omega), List.getD_eq_getElem?_getD]
theorem Ab.add {n m a : Nat} {s : TS} {ab : List Int} (h : Ab n s ab) (hm : s.W m ≠ []) (h1 : 1 ≤ a) (hm1 : 1 ≤ m) (hle : m + a ≤ n) (h0 : s.W (m + a) = []) : Ab n (tA n m s a) (ab.set (m + a) (m : Int)) := by
  rw [tA_yes hle h0]
  have hlt : m + a < ab.length := by rw [h.len]; omega
  have hu : ∀ j, (updW s.W (m + a) (s.W m ++ [m + a])) j = if j = m + a then s.W m ++ [m + a] else s.W j := fun j => rfl
  refine ⟨by rw [List.length_set, h.len], fun j hj => ?_, ?_, fun j hj2 hj => ?_⟩
  · have hj : updW s.W (m + a) (s.W m ++ [m + a]) j = [] := hj
    rw [hu] at hj
    rw [getD_set hlt]
    split at hj
    · simp at hj
    · rename_i e
      rw [if_neg e]
      exact h.no j hj
  · rw [getD_set hlt, if_neg (by omega)]
    exact h.one
  · have hj : updW s.W (m + a) (s.W m ++ [m + a]) j ≠ [] := hj
    show ∃ m' : Nat, 1 ≤ m' ∧ m' < j ∧ _ ∧ updW s.W (m + a) (s.W m ++ [m + a]) m' ≠ [] ∧ updW s.W (m + a) (s.W m ++ [m + a]) j = updW s.W (m + a) (s.W m ++ [m + a]) m' ++ [j]
    rw [hu] at hj
    by_cases e : j = m + a
    · refine ⟨m, hm1, by omega, ?_, ?_, ?_⟩
      · rw [getD_set hlt, if_pos e]
      · rw [hu, if_neg (by omega)]; exact hm
      · rw [hu, hu, if_pos e, if_neg (by omega), e]
    · rw [if_neg e] at hj
      obtain ⟨m', q1, q2, q3, q4, q5⟩ := h.yes j hj2 hj
      have hne : m' ≠ m + a := fun e' => q4 (by rw [e']; exact h0)
      refine ⟨m', q1, q2, ?_, ?_, ?_⟩
      · rw [getD_set hlt, if_neg e, q3]
      · rw [hu, if_neg hne]; exact q4
      · rw [hu, hu, if_neg e, if_neg hne, q5]

set_option maxRecDepth 100000 in
set_option maxHeartbeats 2000000 in
theorem meWay_any (B : Nat) (A : Option Addr) (c n m : Nat) (s : TS) (ab : List Int) (w : World) (hB : B ≤ w.heap.size) (hn : n ≤ 400) (hab : Ab n s ab) (hI : TI n s) (hm : s.W m ≠ []) (hr : Rd w B 1 A (n + 1) (ab.map I)) :
    Calls Try.prog 151 #[.slice A (n + 1) c, .int .i64 (m : Int)] w fun e w' => ∃ A' c', e = .returned (.slice A' (s.W m).length c') ∧ OwI w' w.heap.size (.slice A' (s.W m).length c') (cs (s.W m)) ∧ Below w.heap.size w w' := by
  have hmr := hI.rng m hm
  have hlen := hab.len
  rw [← hlen] at hr
  obtain ⟨b, off, rfl, hbB, hc⟩ := hr.cells (by omega)
  have HC := Lib.hid (show ∀ j, j ≤ n → w.cell? ⟨b, off + j, none⟩ = some (.int .i64 (ab.getD j 0)) from fun j hj => hc j (by omega))
  have HAB := Lib.hid hab
  have HI := Lib.hid hI
  have HM := Lib.hid hm
  have HL := Lib.hid hlen
  clear hr hc hab hI hm hlen
  go_enter Try.func151, Try.ntmps151
  go_wp2
  go_loopw [1, 5] (fun mv ov wr => ∃ (i k : Nat) (l : List Nat) (A1 : Option Addr) (c1 : Nat), mv = .int .i64 (i : Int) ∧ ov = .slice A1 k c1 ∧ k = l.length ∧ i ≤ n ∧ l.length ≤ 401 ∧ OwI wr w.heap.size (.slice A1 k c1) (cs l) ∧ Below w.heap.size w wr ∧ ((i = 0 ∧ s.W m = l) ∨ (1 ≤ i ∧ s.W i ≠ [] ∧ s.W m = s.W i ++ l))) (fun mv _ _ => (intOf mv).toNat)
  case atStart => exact ⟨m, 0, [], none, 0, rfl, rfl, rfl, hmr.2, by simp, show OwI _ _ _ [] from OwI.nil _ _, Below.refl _ _, .inr ⟨hmr.1, HM.out, by simp⟩⟩
  case round =>
    obtain ⟨i, k, l, A1, c1, rfl, rfl, hk, hin, hl, hown, hbel, hrest⟩ := hrel
    have OWN := Lib.hid hown
    have BEL := Lib.hid hbel
    have HK := Lib.hid hk
    have hs : w.heap.size ≤ wr.heap.size := hbel.size
    clear hown hbel hk
    rcases hrest with ⟨h0, hW⟩ | ⟨h1, hWi, hW⟩
    · have i0 : ¬ (0 : Int) < (i : Int) := by omega
      have HW := Lib.hid hW
      clear hW h0
      go_wp2
      go_ret
      exact ⟨A1, c1, by rw [HW.out, ← HK.out]; rfl, by rw [HW.out, ← HK.out]; exact OWN.out, BEL.out⟩
    · have i0 : (0 : Int) < (i : Int) := by omega
      obtain ⟨p, hp, hpi, hstep⟩ : ∃ p : Nat, ab.getD i 0 = (p : Int) ∧ p < i ∧ ((p = 0 ∧ s.W m = i :: l) ∨ (1 ≤ p ∧ s.W p ≠ [] ∧ s.W m = s.W p ++ (i :: l))) := by
        rcases Nat.lt_or_eq_of_le h1 with h2 | h2
        · obtain ⟨p, q1, q2, q3, q4, q5⟩ := HAB.out.yes i (by omega) hWi
          exact ⟨p, q3, q2, .inr ⟨q1, q4, by rw [hW, q5, List.append_assoc]; rfl⟩⟩
        · subst h2
          exact ⟨0, HAB.out.one, by omega, .inl ⟨rfl, by rw [hW, HI.out.one]; rfl⟩⟩
      have hll : l.length + 1 ≤ 401 := by
        have h3 := HI.out.len m
        have h4 : (s.W i).length ≠ 0 := fun e => hWi (List.eq_nil_of_length_eq_zero e)
        rw [hW, List.length_append] at h3
        omega
      have hcell := HC.out i hin
      rw [hp] at hcell
      have HCI := Lib.hid hcell
      clear hcell
      have hkb : k ≤ 401 := by rw [HK.out]; omega
      have hil : (i : Int) < (n : Int) + 1 := by omega
      have HST := Lib.hid hstep
      clear hstep hW hWi hp
      go_wp2_with (at_builtin; refine list_step (fun K hK => ?_); refine step_appM Try.underlying22 info_int rfl (by omega) (by omega) rfl (.tmp 13) (.tmp 14) rfl w.heap.size 1 _ [I (i : Int)] rfl (show World.ownsRow _ _ _ _ _ _ _ from own_one (i : Int) (by omega)) A1 k c1 ((cs l).map I) rfl (show Rd _ _ 1 A1 k _ from by have h := (OWN.out.alloc (.cells #[.int .i64 (i : Int)] 3)); exact Rd.of_own (by have h2 := h; unfold OwI at h2; rw [cs_len, ← HK.out] at h2; exact h2)) (ints_one _) (by omega) (by simp; omega) ?_; intro A2 c2 w2 hown2 hg2 hbel2; have hcell2 := (((BEL.out.alloc hs _).trans hbel2).cell (p := ⟨b, off + i, none⟩) (by simp only []; omega)).trans HCI.out; go_simp; refine hK _ _ ?_; clear hK K)
      go_roundw
      case rel =>
        refine ⟨p, 1 + k, i :: l, A2, c2, rfl, rfl, by rw [HK.out, List.length_cons]; omega, by omega, hll, ?_, ?_, HST.out⟩
        · unfold OwI
          rw [cs_len, List.length_cons, show l.length + 1 = 1 + k by rw [HK.out]; omega]
          exact hown2
        · exact (BEL.out.alloc hs _).trans hbel2
      case measure => simp [intOf]; omega
end Go.Proofs.Ytbbjgcagkmlngab
