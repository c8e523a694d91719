/- A number put into a rising list. -/
import Derived.Test.YtbbjgcagkmlngacQq
namespace Go.Proofs.Ytbbjgcagkmlngac
open Go.RowKit

theorem insert_any (B0 : Nat) (A : Option Addr) (c n i : Nat) (x : Int) (vb vc : Nat) (l : List Int) (w : World) (hln : l.length = n) (hi : i ≤ n) (hn : n ≤ 1000) (hB : B0 ≤ w.heap.size)
    (hown : w.ownsRow B0 3 1 (.slice A n c) n (l.map I)) (hv : w.heap[vb]? = some (.cells #[I x] 3 (0, 0))) (hne : (Value.slice A n c).ownBlock ≠ some vb) :
    Calls Try.prog 82 #[.slice A n c, .int .i64 i, .slice (some ⟨vb, 0, none⟩) 1 vc] w fun e w' =>
      ∃ A' c', e = .returned (.slice A' (n + 1) c') ∧ w'.ownsRow B0 3 1 (.slice A' (n + 1) c') (n + 1) ((insA l i x).map I) ∧ Below B0 w w' := by
  by_cases h : i = n
  · subst h
    exact insert_end B0 A c i x vb vc l w hln hn hB hown (by unfold World.cell?; rw [hv]; simp)
  · obtain ⟨g, rfl, _, _, _, _⟩ := own_at hown (by omega)
    by_cases hc : n + 1 ≤ c
    · exact insert_room B0 g c n i x vb vc l w hln (by omega) hn hc hown hv (fun h => hne (by rw [h]; rfl))
    · exact insert_grow B0 g c n i x vb vc l w hln (by omega) hn (by omega) hB hown hv

/-- The list with x at its place. -/
def putI (l : List Int) (x : Int) : List Int := if x ∈ l then l else insA l (cnt l x) x
theorem putI_has {l : List Int} {x : Int} (h : x ∈ l) : putI l x = l := by unfold putI; rw [if_pos h]
theorem putI_new {l : List Int} {x : Int} (h : ¬ x ∈ l) : putI l x = insA l (cnt l x) x := by unfold putI; rw [if_neg h]
theorem cnt_le (l : List Int) (x : Int) : cnt l x ≤ l.length := List.countP_le_length
theorem putI_le (l : List Int) (x : Int) : (putI l x).length ≤ l.length + 1 := by
  unfold putI
  split
  · omega
  · rw [insA_length l x (cnt_le l x)]; omega
theorem insA_getD (l : List Int) {i : Nat} (x : Int) (hi : i ≤ l.length) (j : Nat) : (insA l i x).getD j 0 = if j < i then l.getD j 0 else if j = i then x else l.getD (j - 1) 0 := by
  unfold insA
  rw [List.getD_eq_getElem?_getD]
  by_cases h1 : j < i
  · rw [if_pos h1, List.getElem?_append_left (by simp; omega), List.getElem?_take, if_pos h1, List.getD_eq_getElem?_getD]
  · rw [if_neg h1, List.getElem?_append_right (by simp; omega)]
    have e : (List.take i l).length = i := by simp; omega
    rw [e]
    by_cases h2 : j = i
    · subst h2
      simp
    · rw [if_neg h2, show j - i = (j - i - 1) + 1 by omega, List.getElem?_cons_succ, List.getElem?_drop, List.getD_eq_getElem?_getD, show i + (j - i - 1) = j - 1 by omega]
/-- What lies before the place is less, what lies behind it greater. -/
theorem cnt_parts {l : List Int} (ha : Asc l) (x : Int) : (∀ t, t < cnt l x → l.getD t 0 < x) ∧ ∀ t, cnt l x ≤ t → t < l.length → x ≤ l.getD t 0 := by
  have key : ∀ n, n ≤ l.length → ∃ i, i ≤ n ∧ (∀ t, t < i → l.getD t 0 < x) ∧ ∀ t, i ≤ t → t < n → x ≤ l.getD t 0 := by
    intro n
    induction n with
    | zero => intro _; exact ⟨0, by omega, fun t h => absurd h (by omega), fun t _ h => absurd h (by omega)⟩
    | succ n ih =>
      intro hn
      obtain ⟨i, h1, h2, h3⟩ := ih (by omega)
      by_cases hi : i = n
      · by_cases hx : l.getD n 0 < x
        · refine ⟨n + 1, by omega, fun t ht => ?_, fun t h h' => absurd h (by omega)⟩
          rcases Nat.lt_or_eq_of_le (Nat.le_of_lt_succ ht) with h | rfl
          · exact h2 t (by omega)
          · exact hx
        · refine ⟨i, by omega, h2, fun t h h' => ?_⟩
          have : t = n := by omega
          subst this
          omega
      · refine ⟨i, by omega, h2, fun t h h' => ?_⟩
        rcases Nat.lt_or_eq_of_le (Nat.le_of_lt_succ h') with h'' | rfl
        · exact h3 t h h''
        · have := h3 i (Nat.le_refl _) (by omega)
          have := ha i t (by omega) (by omega)
          omega
  obtain ⟨i, h1, h2, h3⟩ := key l.length (Nat.le_refl _)
  rw [cnt_at h1 h2 h3]
  exact ⟨h2, h3⟩
theorem mem_getD {l : List Int} {t : Nat} (h : t < l.length) : l.getD t 0 ∈ l := by
  have e : l.getD t 0 = l[t] := by simp [h]
  rw [e]
  exact List.getElem_mem h
theorem putI_asc {l : List Int} (ha : Asc l) (x : Int) : Asc (putI l x) := by
  by_cases hx : x ∈ l
  · rw [putI_has hx]; exact ha
  · rw [putI_new hx]
    obtain ⟨h1, h2⟩ := cnt_parts ha x
    have hc := cnt_le l x
    intro i j hij hj
    rw [insA_length l x hc] at hj
    rw [insA_getD l x hc, insA_getD l x hc]
    have h3 : ∀ t, cnt l x ≤ t → t < l.length → x < l.getD t 0 := fun t h h' => by
      have := h2 t h h'
      rcases Int.lt_or_eq_of_le this with h4 | h4
      · exact h4
      · exact absurd (h4 ▸ mem_getD h') hx
    by_cases c1 : i < cnt l x
    · rw [if_pos c1]
      by_cases c2 : j < cnt l x
      · rw [if_pos c2]; exact ha i j hij (by omega)
      · rw [if_neg c2]
        by_cases c3 : j = cnt l x
        · rw [if_pos c3]; exact h1 i c1
        · rw [if_neg c3]; exact ha i (j - 1) (by omega) (by omega)
    · rw [if_neg c1, if_neg (by omega : ¬ j < cnt l x), if_neg (by omega : ¬ j = cnt l x)]
      by_cases c3 : i = cnt l x
      · rw [if_pos c3]; exact h3 (j - 1) (by omega) (by omega)
      · rw [if_neg c3]; exact ha (i - 1) (j - 1) (by omega) (by omega)

set_option maxRecDepth 100000 in
set_option maxHeartbeats 2000000 in
theorem with_any (B : Nat) (A : Option Addr) (c : Nat) (l : List Int) (x : Int) (w : World) (hm : l.length ≤ 500) (ha : Asc l) (hA : l = [] → A = none ∧ c = 0) (hB : B ≤ w.heap.size) (hr : Rd w B 1 A l.length (l.map I)) :
    Calls Try.prog 67 #[.slice A l.length c, .int .i64 x] w fun e w' =>
      ∃ A' c', e = .returned (.slice A' (putI l x).length c') ∧ OwI w' w.heap.size (.slice A' (putI l x).length c') (putI l x) ∧ Below w.heap.size w w' := by
  have hcl : Calls Try.prog 81 #[.slice A l.length c] w fun e w' => ∃ A' c', e = .returned (.slice A' l.length c') ∧ OwI w' w.heap.size (.slice A' l.length c') l ∧ Below w.heap.size w w' := by
    by_cases h0 : 0 < l.length
    · exact cloneA_any B A c l w (by omega) h0 hB hr
    · have hl : l = [] := List.eq_nil_of_length_eq_zero (by omega)
      obtain ⟨rfl, rfl⟩ := hA hl
      subst hl
      refine (cloneA_nil w).mono ?_
      rintro e w' ⟨rfl, rfl⟩
      exact ⟨none, 0, rfl, OwI.nil _ _, Below.refl _ _⟩
  have hF := fun (W : World) (hb : Below w.heap.size w W) => find_any B A c l x W (by omega) ha (hr.below' hb hB)
  have hcx := cnt_le l x
  obtain ⟨a, haa⟩ : ∃ a, cnt l x = a := ⟨_, rfl⟩
  rw [haa] at hF hcx
  have HCL := Lib.hid hcl
  have AA := Lib.hid haa
  clear hcl hr ha hA haa
  by_cases hx : x ∈ l
  · rw [decide_eq_true hx] at hF
    have P := Lib.hid (putI_has hx)
    have HF := Lib.hid hF
    clear hF hx
    go_enter Try.func67, Try.ntmps67
    go_wp2_with (first
      | (go_at_call 81; refine HCL.out.mono ?_; rintro e w2 ⟨A2, c2, rfl, hown2, hb2⟩; have OW2 := Lib.hid hown2; have HB2 := Lib.hid hb2; clear hown2 hb2)
      | (go_at_call 75; refine (HF.out w2 HB2.out).mono ?_; rintro e w3 ⟨rfl, ⟨nd, rfl⟩⟩))
    go_ret
    exact ⟨A2, c2, by rw [P.out]; rfl, by rw [P.out]; exact OwI.drewN OW2.out nd, bDrewN HB2.out nd⟩
  · rw [decide_eq_false hx] at hF
    have P := Lib.hid (putI_new hx)
    have HF := Lib.hid hF
    clear hF hx
    obtain ⟨N, hN⟩ : ∃ N, l.length = N := ⟨_, rfl⟩
    have HN := Lib.hid hN
    have hNb : N ≤ 500 := by omega
    have haN : a ≤ N := by omega
    have HCL' := HCL.out
    have HF' := HF.out
    rw [hN] at HCL' HF'
    rw [hN]
    have C1 := Lib.hid HCL'
    have F1 := Lib.hid HF'
    clear HCL' HF' HCL HF hN hm hcx
    go_enter Try.func67, Try.ntmps67
    go_wp2_with (first
      | (go_at_call 81; refine C1.out.mono ?_; rintro e w2 ⟨A2, c2, rfl, hown2, hb2⟩; have OW2 := Lib.hid (show w2.ownsRow w.heap.size 3 1 (.slice A2 N c2) N (l.map I) from (by have h := hown2; unfold OwI at h; rw [HN.out] at h; exact h)); have HB2 := Lib.hid hb2; have hs2 : w.heap.size ≤ w2.heap.size := hb2.size; clear hown2 hb2)
      | (go_at_call 75; refine (F1.out w2 HB2.out).mono ?_; rintro e w3 ⟨rfl, ⟨nd, rfl⟩⟩))
    go_at_call 82
    generalize hw4 : World.alloc _ _ = w4
    have hg4 : w4.heap[w2.heap.size]? = some (.cells #[I x] 3 (0, 0)) := by rw [← hw4]; exact Array.getElem?_push_size
    have hb4 : Below w2.heap.size w2 w4 := by rw [← hw4]; exact (bDrewN (Below.refl _ _) nd).alloc (Nat.le_refl _) _
    clear hw4
    have hown4 := own_below OW2.out hb4
    have hne : (Value.slice A2 N c2).ownBlock ≠ some w2.heap.size := fun h => by
      have := (own_block OW2.out _ h).2
      omega
    refine (insert_any w.heap.size A2 c2 N a x w2.heap.size 1 l w4 HN.out haN (by omega) (by have := hb4.size; omega) hown4 hg4 hne).mono ?_
    rintro e w5 ⟨A5, c5, rfl, hown5, hb5⟩
    have hpl : (putI l x).length = N + 1 := by rw [P.out, AA.out, insA_length l x (by have := HN.out; omega), HN.out]
    have HB5 := Lib.hid ((HB2.out.trans (hb4.mono hs2)).trans hb5)
    have OW5 := Lib.hid (show OwI w5 w.heap.size (.slice A5 (N + 1) c5) (putI l x) from (by unfold OwI; rw [hpl, P.out, AA.out]; exact hown5))
    have HPL := Lib.hid hpl
    clear hown5 hb5 hown4 hb4 hg4 hne hpl
    go_wp2
    go_ret
    exact ⟨A5, c5, by rw [HPL.out]; rfl, by rw [HPL.out]; exact OW5.out, HB5.out⟩
end Go.Proofs.Ytbbjgcagkmlngac
