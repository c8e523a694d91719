/- Joined: Hz Gd Ge. -/
import Derived.Test.YtbbjgcagkmlngabTT2
/- The numbers of a level, by the program. -/
namespace Go.Proofs.Ytbbjgcagkmlngab
open Go.RowKit

def isLv (x : Int) : Bool := decide (0 ≤ x) && decide (x ≤ 8)
/-- The ends of the ways of a length. -/
def lvE (L : Nat) (T : List (List Nat)) : List Int := cs ((T.filter fun p => p.length == L + 1).map lastN)
def tlL (x : Int) : List Int := if isLv x then lvE x.toNat treeT else []
theorem tlL_yes {L : Nat} (h : isLv (L : Int) = true) : tlL (L : Int) = lvE L treeT := by unfold tlL; rw [if_pos h]; rfl
theorem tlL_no {x : Int} (h : isLv x = false) : tlL x = [] := by unfold tlL; rw [h]; rfl
theorem lvE_snoc_yes {L : Nat} {T : List (List Nat)} {p : List Nat} (h : p.length = L + 1) : lvE L (T ++ [p]) = lvE L T ++ [(lastN p : Int)] := by
  unfold lvE
  rw [List.filter_append, List.filter_cons_of_pos (by simpa using h), List.filter_nil, List.map_append, List.map_cons, List.map_nil, cs_snoc]
theorem lvE_snoc_no {L : Nat} {T : List (List Nat)} {p : List Nat} (h : p.length ≠ L + 1) : lvE L (T ++ [p]) = lvE L T := by
  unfold lvE
  rw [List.filter_append, List.filter_cons_of_neg (by simpa using h), List.filter_nil, List.append_nil]
theorem lvE_le (L : Nat) (T : List (List Nat)) : (lvE L T).length ≤ T.length := by
  unfold lvE
  rw [cs_len, List.length_map]
  exact List.length_filter_le _ _
theorem takeN_succ {T : List (List Nat)} {i : Nat} (h : i < T.length) : T.take (i + 1) = T.take i ++ [T.getD i []] := by
  rw [List.take_succ_eq_append_getElem h, List.getD_eq_getElem?_getD, List.getElem?_eq_getElem h]
  rfl
theorem tlL_le (x : Int) : (tlL x).length ≤ 1000 := by
  unfold tlL
  split
  · have h1 := lvE_le x.toNat treeT
    have h2 := (tree_facts (List.prefix_refl treeT)).1
    omega
  · simp

set_option maxRecDepth 100000 in
set_option maxHeartbeats 4000000 in
theorem implTreeLevel_any (x : Int) (w : World) : Calls Try.prog 60 #[.int .i64 x] w fun e w' => ∃ A' c', e = .returned (.tuple #[.slice A' (tlL x).length c', .bool (isLv x)]) ∧ OwI w' w.heap.size (.slice A' (tlL x).length c') (tlL x) ∧ Below w.heap.size w w' := by
  by_cases h0 : x < 0
  · have E := Lib.hid (tlL_no (x := x) (by unfold isLv; rw [decide_eq_false (by omega)]; rfl))
    have G := Lib.hid (show isLv x = false by unfold isLv; rw [decide_eq_false (by omega)]; rfl)
    go_enter Try.func60, Try.ntmps60
    go_wp2
    go_ret2
    exact ⟨none, 0, by rw [E.out, G.out]; rfl, by rw [E.out]; exact OwI.nil _ _, Below.refl _ _⟩
  by_cases h8 : 8 < x
  · have E := Lib.hid (tlL_no (x := x) (by unfold isLv; rw [decide_eq_false (show ¬ x ≤ 8 by omega), Bool.and_false]))
    have G := Lib.hid (show isLv x = false by unfold isLv; rw [decide_eq_false (show ¬ x ≤ 8 by omega), Bool.and_false])
    go_enter Try.func60, Try.ntmps60
    go_wp2
    go_ret2
    exact ⟨none, 0, by rw [E.out, G.out]; rfl, by rw [E.out]; exact OwI.nil _ _, Below.refl _ _⟩
  obtain ⟨L, rfl⟩ : ∃ L : Nat, x = L := ⟨x.toNat, by omega⟩
  have hv : isLv (L : Int) = true := by unfold isLv; rw [decide_eq_true (by omega), decide_eq_true (by omega)]; rfl
  have hT := treeWays_any w
  have hTf := tree_facts (List.prefix_refl treeT)
  have E := Lib.hid (tlL_yes hv)
  have G := Lib.hid hv
  obtain ⟨Z, hZ⟩ : ∃ Z, treeT = Z := ⟨_, rfl⟩
  rw [hZ] at hT hTf E
  have HT := Lib.hid hT
  have HF := Lib.hid hTf.2
  have hZ4 := hTf.1
  have hw1 : IntKind.i64.wrap ((L : Int) + 1) = (L : Int) + 1 := IntWalk.i64_in _ (by omega)
  have HW1 := Lib.hid hw1
  have hL8 : L ≤ 8 := by omega
  clear hT hTf hZ hv hw1
  go_enter Try.func60, Try.ntmps60
  go_wp2_with fail
  go_at_call 116
  refine HT.out.mono ?_
  rintro e w2 ⟨A, c, f, rfl, hown, hb2⟩
  have OWN := Lib.hid hown
  have B2 := Lib.hid hb2
  have hs2 := hb2.size
  clear hown hb2
  go_wp2
  go_loopw [4, 15] (fun ov iv wr => ∃ (i R1 : Nat) (A1 : Option Addr) (c1 : Nat), iv = .int .i64 (i : Int) ∧ ov = .slice A1 R1 c1 ∧ i ≤ Z.length ∧ Aside (R1 = (lvE L (Z.take i)).length ∧ OwI wr w2.heap.size (.slice A1 R1 c1) (lvE L (Z.take i)) ∧ Below w2.heap.size w2 wr)) (fun _ iv _ => Z.length - (intOf iv).toNat)
  case atStart => exact ⟨0, 0, none, 0, rfl, rfl, by omega, rfl, OwI.nil _ _, Below.refl _ _⟩
  case round =>
    obtain ⟨i, R1, A1, c1, rfl, rfl, hi, AS⟩ := hrel
    have HR := Lib.hid AS.out.1
    have OW1 := Lib.hid AS.out.2.1
    have BEL := Lib.hid AS.out.2.2
    have hs := AS.out.2.2.size
    clear AS
    by_cases hlt : i < Z.length
    · have iiZ : (i : Int) < (Z.length : Int) := by omega
      obtain ⟨g, rfl, hgB, hcell⟩ := (OWN.out.below BEL.out).at_ hlt
      have hrow := (OWN.out.below BEL.out).2 i hlt
      have hpf := HF.out i hlt
      have htk := takeN_succ hlt
      have hRle : R1 ≤ 400 := by
        have h1 := lvE_le L (Z.take i)
        have h2 : (Z.take i).length ≤ Z.length := by rw [List.length_take]; omega
        rw [HR.out]
        omega
      obtain ⟨p, hp⟩ : ∃ p, Z.getD i [] = p := ⟨_, rfl⟩
      rw [hp] at hcell hrow hpf htk
      obtain ⟨m, hm⟩ : ∃ m, p.length = m := ⟨_, rfl⟩
      have hcl : (cs p).length = m := by rw [cs_len]; exact hm
      obtain ⟨a1, ha1⟩ : ∃ a1, (f i).1 = a1 := ⟨_, rfl⟩
      obtain ⟨a2, ha2⟩ : ∃ a2, (f i).2 = a2 := ⟨_, rfl⟩
      rw [ha1, ha2, hm] at hcell hrow
      have p1 := hpf.1
      have p2 := hpf.2.1
      rw [hm] at p1 p2
      have hrd : Rd wr wr.heap.size 1 a1 m ((cs p).map I) := by
        have h := hrow
        unfold OwI at h
        rw [hcl] at h
        exact Rd.of_own h
      have hE := endOf_any wr.heap.size a1 a2 (cs p) wr (by omega) (by omega) (by rw [hcl]; exact hrd)
      have hlv : (cs p).getD ((cs p).length - 1) 0 = (lastN p : Int) := by rw [cs_len, cs_getD]; rfl
      rw [hlv, hcl] at hE
      by_cases hml : m = L + 1
      · have iml : ((m : Int) == (L : Int) + 1) = true := by rw [beq_iff_eq]; omega
        have NX := Lib.hid (show lvE L (Z.take (i + 1)) = lvE L (Z.take i) ++ [(lastN p : Int)] by rw [htk]; exact lvE_snoc_yes (by omega))
        obtain ⟨l, hl⟩ : ∃ l, lastN p = l := ⟨_, rfl⟩
        rw [hl] at NX hE
        have HEND := Lib.hid hE
        have imL : (((L : Int) + 1 == (L : Int) + 1)) = true := by simp
        subst hml
        clear hrow hpf htk hp hm hcl ha1 ha2 hrd hE hlv hl
        have hw1 := HW1.out
        go_wp2_with fail
        clear hw1
        go_at_call 117
        refine HEND.out.mono ?_
        rintro e w4 ⟨rfl, hw4⟩
        subst hw4
        go_wp2_with (at_builtin; refine list_step (fun K hK => ?_); refine step_app_int rfl (.tmp 24) (.tmp 27) rfl w2.heap.size R1 _ (lvE L (Z.take i)) rfl (OwI.alloc OW1.out _) HR.out.symm w4.heap.size 1 (l : Int) rfl (by simp) (by omega) (by simp; omega) ?_; intro A6 c6 w6 hown6 hg6 hbel6; have O6 := Lib.hid hown6; have B6 := Lib.hid hbel6; clear hown6 hbel6 hg6; go_simp; refine hK _ _ ?_; clear hK K)
        go_roundw
        case rel => exact ⟨i + 1, R1 + 1, A6, c6, by go_num, rfl, by omega, by rw [NX.out, List.length_append, ← HR.out]; rfl, by rw [NX.out]; exact O6.out, (BEL.out.alloc hs _).trans B6.out⟩
        case measure => simp [intOf]; omega
      · have iml : ((m : Int) == (L : Int) + 1) = false := by rw [beq_eq_false_iff_ne]; omega
        have NX := Lib.hid (show lvE L (Z.take (i + 1)) = lvE L (Z.take i) by rw [htk]; exact lvE_snoc_no (by omega))
        clear hrow hpf htk hp hm hcl ha1 ha2 hrd hE hlv hml
        have hw1 := HW1.out
        go_wp2
        clear hw1
        go_roundw
        case rel => exact ⟨i + 1, R1, A1, c1, by go_num, rfl, by omega, by rw [NX.out]; exact HR.out, by rw [NX.out]; exact OW1.out, BEL.out⟩
        case measure => simp [intOf]; omega
    · have e : i = Z.length := by omega
      subst e
      have NX := Lib.hid (show lvE L (Z.take Z.length) = lvE L Z by rw [List.take_of_length_le (Nat.le_refl _)])
      rw [NX.out] at HR OW1
      have hr := HR.out
      subst hr
      go_wp2
      go_ret2
      exact ⟨A1, c1, by rw [E.out, G.out]; rfl, by rw [E.out]; exact OwI.base OW1.out hs2, B2.out.trans (BEL.out.mono hs2)⟩
end Go.Proofs.Ytbbjgcagkmlngab
/- The root of the model's tree; its levels as data. -/
namespace Go.Proofs.Ytbbjgcagkmlngab
open Go.RowKit

theorem levs_all {T : List (List Nat)} : ∀ (f k : Nat), levsOk T f k (grK k) = true → ∀ d, d < f → levOk (k + d) (grK (k + d)) T = true := by
  intro f
  induction f with
  | zero => intro k _ d hd; omega
  | succ f ih =>
    intro k h d hd
    unfold levsOk at h
    rw [Bool.and_eq_true] at h
    rcases Nat.eq_zero_or_pos d with rfl | hp
    · exact h.1
    · have := ih (k + 1) h.2 (d - 1) (by omega)
      rw [show k + 1 + (d - 1) = k + d by omega] at this
      exact this
/-- The levels of the model's tree. -/
structure LevF (k : Nat) (st : List (List Nat) × List Int) : Prop where
  l5 : st.1.length ≤ 500
  a5 : st.2.length ≤ 500
  rows : ∀ i, i < st.1.length → (st.1.getD i []).length = k + 1 ∧ ∀ j, j < (st.1.getD i []).length → (st.1.getD i []).getD j 0 ≤ 1024
  ends : st.1.map lastN = (treeT.filter fun p => p.length == k + 1).map lastN
theorem lev_facts {k : Nat} (hk : k ≤ 8) : LevF k (grK k) := by
  have h := levs_all 9 0 levs_ok k (by omega)
  rw [Nat.zero_add, ← treeT_eq] at h
  unfold levOk at h
  simp only [Bool.and_eq_true, decide_eq_true_eq] at h
  obtain ⟨⟨⟨a, b⟩, c⟩, d⟩ := h
  refine ⟨a, b, fun i hi => ?_, d⟩
  have e : (grK k).1.getD i [] = (grK k).1[i] := by simp [hi]
  have hc := List.all_eq_true.1 c _ (List.getElem_mem hi)
  rw [Bool.and_eq_true, beq_iff_eq, List.all_eq_true] at hc
  rw [e]
  refine ⟨hc.1, fun j hj => ?_⟩
  have e2 : ((grK k).1[i]).getD j 0 = ((grK k).1[i])[j] := by simp [hj]
  have := hc.2 _ (List.getElem_mem hj)
  rw [Bool.and_eq_true, decide_eq_true_eq, decide_eq_true_eq] at this
  rw [e2]
  exact this.2
theorem grK_asc : ∀ k, Asc (grK k).2 := by
  have hA : ∀ (p : List Nat) (q : List Nat) (st : List (List Nat) × List Int), Asc st.2 → Asc (q.foldl (grA p) st).2 := by
    intro p q
    induction q with
    | nil => intro st h; exact h
    | cons a q ih => intro st h; exact ih _ (grA_asc h)
  have hP : ∀ (l : List (List Nat)) (st : List (List Nat) × List Int), Asc st.2 → Asc (l.foldl grP st).2 := by
    intro l
    induction l with
    | nil => intro st h; exact h
    | cons p l ih => intro st h; exact ih _ (hA p p st h)
  intro k
  induction k with
  | zero =>
    intro i j hij hj
    simp [grK] at hj
    omega
  | succ k ih => exact hP _ _ ih
/-- A row of numbers is no struct of two slices. -/
theorem rd_setX {wr : World} {B n bX o : Nat} {A L1 L2 : Option Addr} {n1 n2 c1 c2 : Nat} {l : List Int} {t : TypeId} (h : Rd wr B 1 A n (l.map I)) (hl : l.length = n) (hx : wr.heap[bX]? = some (.cells #[.slice L1 n1 c1, .slice L2 n2 c2] t (0, 0))) (v : Value) : Rd (wr.setCell ⟨bX, o, none⟩ v) B 1 A n (l.map I) := by
  refine ⟨h.1, fun hn => ?_⟩
  obtain ⟨b, off, e, hb, hc⟩ := h.2 hn
  have hne : b ≠ bX := by
    intro e
    have h0 := hc 0 (by omega)
    rw [e, cell_of_row wr bX (off + 0) _ _ (0, 0) hx, List.getElem?_map, List.getElem?_eq_getElem (by omega)] at h0
    match off, h0 with
    | 0, h0 => simp [I] at h0
    | 1, h0 => simp [I] at h0
    | k + 2, h0 => simp at h0
  refine ⟨b, off, e, hb, fun j hj => ?_⟩
  rw [← hc j hj]
  exact cell_heap (Below.heap_setCell wr ⟨bX, o, none⟩ v b hne)

set_option maxRecDepth 100000 in
set_option maxHeartbeats 2000000 in
theorem shRoot_any (w : World) : Calls Try.prog 114 #[] w fun e w' => ∃ L cL f Aa ca, e = .returned (.agg #[.slice L 1 cL, .slice Aa 1 ca]) ∧ OwN w' w.heap.size L cL f [[1]] ∧ OwI w' w.heap.size (.slice Aa 1 ca) [1] ∧ Below w.heap.size w w' := by
  go_enter Try.func114, Try.ntmps114
  go_wp2
  generalize hw4 : World.alloc (World.alloc (World.alloc (World.alloc w _) _) _) _ = w4
  obtain ⟨b, hb⟩ : ∃ b, w.heap.size = b := ⟨_, rfl⟩
  have q0 : w4.heap[b]? = some (.cells #[.slice (some ⟨b + 2, 0, none⟩) 1 1, .slice (some ⟨b + 3, 0, none⟩) 1 1] 143 (0, 0)) := by
    rw [← hw4, ← hb, Below.heap_alloc _ _ _ (by simp <;> omega), Below.heap_alloc _ _ _ (by simp <;> omega), Below.heap_alloc _ _ _ (by simp)]
    exact heap_alloc_newG rfl _
  have q1 : w4.heap[b + 1]? = some (.cells #[.int .i64 1] 3 (0, 0)) := by
    rw [← hw4, ← hb, Below.heap_alloc _ _ _ (by simp <;> omega), Below.heap_alloc _ _ _ (by simp)]
    exact heap_alloc_newG (by simp) _
  have q2 : w4.heap[b + 2]? = some (.cells #[.slice (some ⟨b + 1, 0, none⟩) 1 1] 22 (0, 0)) := by
    rw [← hw4, ← hb, Below.heap_alloc _ _ _ (by simp)]
    exact heap_alloc_newG (by simp) _
  have q3 : w4.heap[b + 3]? = some (.cells #[.int .i64 1] 3 (0, 0)) := by
    rw [← hw4, ← hb]
    exact heap_alloc_newG (by simp) _
  have qb : Below w.heap.size w w4 := by rw [← hw4]; exact (((((Below.refl _ _).alloc (Nat.le_refl _) _).alloc (by simp) _).alloc (by simp <;> omega) _).alloc (by simp <;> omega) _)
  have t0 : w4.cell? ⟨b, 0, none⟩ = some (.slice (some ⟨b + 2, 0, none⟩) 1 1) := by rw [cell_of_row w4 b 0 _ _ (0, 0) q0]; rfl
  have t1 : w4.cell? ⟨b, 1, none⟩ = some (.slice (some ⟨b + 3, 0, none⟩) 1 1) := by rw [cell_of_row w4 b 1 _ _ (0, 0) q0]; rfl
  have hOW : OwN w4 b (some ⟨b + 2, 0, none⟩) 1 (fun _ => (some ⟨b + 1, 0, none⟩, 1)) [[1]] := by
    refine ⟨⟨rfl, .inr ⟨b + 2, 1, _, rfl, by omega, q2, Nat.le_refl _, by unfold maxLen; omega, rfl, rfl⟩⟩, fun i hi => ?_⟩
    have e : i = 0 := by simpa using hi
    subst e
    exact ⟨rfl, .inr ⟨b + 1, 1, _, rfl, by omega, q1, Nat.le_refl _, by unfold maxLen; omega, rfl, rfl⟩⟩
  have hOA : OwI w4 b (.slice (some ⟨b + 3, 0, none⟩) 1 1) [1] := ⟨rfl, .inr ⟨b + 3, 1, _, rfl, by omega, q3, Nat.le_refl _, by unfold maxLen; omega, rfl, rfl⟩⟩
  subst hb
  clear q0 q1 q2 q3 hw4
  refine bodyPost_ret (v := .agg #[.slice (some ⟨w.heap.size + 2, 0, none⟩) 1 1, .slice (some ⟨w.heap.size + 3, 0, none⟩) 1 1]) (by simp [results, Try.results114, go_sem, t0, t1]) rfl ⟨_, _, _, _, _, rfl, hOW, hOA, qb⟩
end Go.Proofs.Ytbbjgcagkmlngab
/- A level of the tree, by the model. -/
namespace Go.Proofs.Ytbbjgcagkmlngab
open Go.RowKit

set_option maxRecDepth 100000 in
set_option maxHeartbeats 8000000 in
theorem specTreeLevel_any (x : Int) (w : World) : Calls Try.prog 59 #[.int .i64 x] w fun e w' =>
    ∃ A' c', e = .returned (.tuple #[.slice A' (tlL x).length c', .bool (isLv x)]) ∧ OwI w' w.heap.size (.slice A' (tlL x).length c') (tlL x) ∧ Below w.heap.size w w' := by
  cases hg : isLv x with
  | false =>
    have HG := Lib.hid (show inB x 0 8 = false from hg)
    have E := Lib.hid (tlL_no hg)
    clear hg
    go_enter Try.func59, Try.ntmps59
    go_wp2_with (go_at_call 85; refine (l1In_any _ _ _ _).mono ?_; rw [HG.out]; rintro e w' ⟨rfl, rfl⟩)
    go_ret2
    exact ⟨none, 0, by rw [E.out]; rfl, by rw [E.out]; exact OwI.nil _ _, Below.refl _ _⟩
  | true =>
    have hx : 0 ≤ x ∧ x ≤ 8 := by simpa [isLv] using hg
    obtain ⟨N, rfl⟩ : ∃ N : Nat, x = N := ⟨x.toNat, by omega⟩
    have hN8 : N ≤ 8 := by omega
    have E := Lib.hid (tlL_yes hg)
    have HG := Lib.hid (show inB (N : Int) 0 8 = true from hg)
    have LF := Lib.hid (fun k (hk : k ≤ 8) => lev_facts hk)
    have RT := Lib.hid (fun W => shRoot_any W)
    have HEN := Lib.hid (show lvE N treeT = cs ((grK N).1.map lastN) by rw [(lev_facts hN8).ends]; rfl)
    clear hg hx
    go_enter Try.func59, Try.ntmps59
    go_wp2_with fail
    go_at_call 85
    refine (l1In_any _ _ _ _).mono ?_
    rw [HG.out]
    rintro e w1 ⟨rfl, rfl⟩
    go_wp2_with fail
    go_at_call 114
    refine (RT.out w).mono ?_
    rintro e w2 ⟨L0, c0, f0, A0, d0, rfl, hr0, ha0, hb2⟩
    have HR0 := Lib.hid hr0
    have HA0 := Lib.hid ha0
    have HB2 := Lib.hid hb2
    clear hr0 ha0 hb2
    go_wp2
    generalize hw3 : World.alloc w2 _ = w3
    have q0 : w3.heap[w2.heap.size]? = some (.cells #[.slice L0 (grK 0).1.length c0, .slice A0 (grK 0).2.length d0] 143 (0, 0)) := by rw [← hw3]; exact heap_alloc_newG rfl _
    have hb3 : Below w2.heap.size w2 w3 := by rw [← hw3]; exact (Below.refl _ _).alloc (Nat.le_refl _) _
    have hb3' : Below w.heap.size w w3 := HB2.out.trans (hb3.mono HB2.out.size)
    have hr3 : OwN w3 w.heap.size L0 c0 f0 (grK 0).1 := HR0.out.below hb3
    have ha3 : Rd w3 w3.heap.size 1 A0 (grK 0).2.length ((grK 0).2.map I) := Rd.of_own (own_below (show World.ownsRow _ _ _ _ _ _ _ from HA0.out) hb3)
    have hc3 : (grK 0).2.length ≤ d0 := own_capG (show World.ownsRow _ _ _ _ _ _ _ from HA0.out)
    have HQ0 := Lib.hid (And.intro q0 (And.intro hr3 (And.intro ha3 (And.intro hc3 hb3'))))
    obtain ⟨bX, hbX⟩ : ∃ bX, w2.heap.size = bX := ⟨_, rfl⟩
    have hwX : w.heap.size ≤ bX := by have := HB2.out.size; omega
    rw [hbX] at HQ0 ⊢
    clear hw3 q0 hb3 hb3' hr3 ha3 hc3 HR0 HA0 hbX
    go_loopw [0] (fun iv wr => ∃ (k : Nat) (L : Option Addr) (cL : Nat) (f : Nat → Option Addr × Nat) (Aa : Option Addr) (ca : Nat), k ≤ N ∧ iv = .int .i64 ((N : Int) - (k : Int)) ∧
      wr.heap[bX]? = some (.cells #[.slice L (grK k).1.length cL, .slice Aa (grK k).2.length ca] 143 (0, 0)) ∧ OwN wr w.heap.size L cL f (grK k).1 ∧ Rd wr wr.heap.size 1 Aa (grK k).2.length ((grK k).2.map I) ∧ (grK k).2.length ≤ ca ∧ Below w.heap.size w wr) (fun i _ => (intOf i).toNat)
    case atStart => exact ⟨0, L0, c0, f0, A0, d0, by omega, by go_num, HQ0.out.1, HQ0.out.2.1, HQ0.out.2.2.1, HQ0.out.2.2.2.1, HQ0.out.2.2.2.2⟩
    case round =>
      obtain ⟨k, L, cL, f, Aa, ca, hk, rfl, hx, hrows, hall, hcap, hbel⟩ := hrel
      have hXlt : bX < wr.heap.size := (Array.getElem?_eq_some_iff.1 hx).1
      have x0 : wr.cell? ⟨bX, 0, none⟩ = some (.slice L (grK k).1.length cL) := by rw [cell_of_row wr bX 0 _ _ (0, 0) hx]; rfl
      have x1 : wr.cell? ⟨bX, 1, none⟩ = some (.slice Aa (grK k).2.length ca) := by rw [cell_of_row wr bX 1 _ _ (0, 0) hx]; rfl
      have HX := Lib.hid hx
      have BEL := Lib.hid hbel
      have HROWS := Lib.hid hrows
      by_cases hlt : k < N
      · have igt : (0 : Int) < (N : Int) - (k : Int) := by omega
        have hsub : IntKind.i64.wrap ((N : Int) - (k : Int) - 1) = (N : Int) - ((k + 1 : Nat) : Int) := by rw [IntWalk.i64_in _ (by omega)]; omega
        have fk := LF.out k (by omega)
        have fk1 := LF.out (k + 1) (by omega)
        have GR := Lib.hid (grow_any w.heap.size L cL f (grK k).1 Aa ca (grK k).2 wr (grK (k + 1)).1 (grK (k + 1)).2 rfl fk1.l5 fk1.a5 fk.l5 (fun i hi => ⟨by have := (fk.rows i hi).1; omega, by have := (fk.rows i hi).1; omega, (fk.rows i hi).2⟩) (grK_asc k) hcap hrows hall)
        have hsz := hbel.size
        obtain ⟨T, hT⟩ : ∃ T, (grK k).1 = T := ⟨_, rfl⟩
        obtain ⟨l, hl⟩ : ∃ l, (grK k).2 = l := ⟨_, rfl⟩
        obtain ⟨T1, hT1⟩ : ∃ T, (grK (k + 1)).1 = T := ⟨_, rfl⟩
        obtain ⟨l1, hl1⟩ : ∃ l, (grK (k + 1)).2 = l := ⟨_, rfl⟩
        rw [hT, hl, hT1, hl1] at GR
        rw [hT, hl] at HX
        rw [hT] at x0
        rw [hl] at x1
        have HT1 := Lib.hid hT1
        have HL1 := Lib.hid hl1
        clear fk fk1 hx hrows hall hcap hbel HROWS hT hl hT1 hl1
        go_wp2_with fail
        go_at_call 115
        refine GR.out.mono ?_
        rintro e w6 ⟨L1, d1, f1, A1, e1, rfl, hr1, ha1, hb6⟩
        have hx6 := (hb6.block bX hXlt).trans HX.out
        have y0 : w6.cell? ⟨bX, 0, none⟩ = some (.slice L T.length cL) := by rw [cell_of_row w6 bX 0 _ _ (0, 0) hx6]; rfl
        have y1 : w6.cell? ⟨bX, 1, none⟩ = some (.slice Aa l.length ca) := by rw [cell_of_row w6 bX 1 _ _ (0, 0) hx6]; rfl
        have g0 : w6.frozen? ⟨bX, 0, none⟩ = false := frozen_of_row w6 bX 0 _ _ hx6
        have g1 : w6.frozen? ⟨bX, 1, none⟩ = false := frozen_of_row w6 bX 1 _ _ hx6
        have HX6 := Lib.hid hx6
        have HR1 := Lib.hid hr1
        have HA1 := Lib.hid ha1
        have HB6 := Lib.hid hb6
        clear hr1 ha1 hb6 hx6 x0 x1
        go_wp2
        go_roundw
        case rel =>
          have k1 := heap_setCell_same w6 bX 0 _ _ (.slice L1 T1.length d1) HX6.out
          have k2 := heap_setCell_same _ bX 1 _ _ (.slice A1 l1.length e1) k1
          have hs6 := HB6.out.size
          refine ⟨k + 1, L1, d1, f1, A1, e1, by omega, by go_num, ?_, ?_, ?_, ?_, ?_⟩
          · rw [HT1.out, HL1.out]; exact k2
          · rw [HT1.out]
            have r := (HR1.out.setO HX6.out (by decide) (by decide) (o := 0) (.slice L1 T1.length d1)).setO k1 (by decide) (by decide) (o := 1) (.slice A1 l1.length e1)
            exact ⟨own_base r.1 hsz, fun i hi => own_base (show World.ownsRow _ _ _ _ _ _ _ from r.2 i hi) hsz⟩
          · rw [HL1.out]
            have r0 := HA1.out.rd hs6
            have r1 := rd_setX (o := 0) r0 rfl HX6.out (.slice L1 T1.length d1)
            have r2 := rd_setX (o := 1) r1 rfl k1 (.slice A1 l1.length e1)
            simpa using r2
          · rw [HL1.out]; exact HA1.out.1
          · exact ((BEL.out.trans (HB6.out.mono hsz)).setCell hwX _).setCell hwX _
        case measure => simp [intOf]; omega
      · have hk' : k = N := by omega
        subst hk'
        have igt : ¬ (0 : Int) < (k : Int) - (k : Int) := by omega
        have fk := LF.out k (by omega)
        obtain ⟨T, hT⟩ : ∃ T, (grK k).1 = T := ⟨_, rfl⟩
        have hT5 := fk.l5
        have hTR := fk.rows
        have hen := HEN.out
        rw [hT] at hT5 hTR hen x0 HROWS
        have HTR := Lib.hid hTR
        have HEN2 := Lib.hid hen
        obtain ⟨wz, hwz⟩ : ∃ wz, wz = wr := ⟨_, rfl⟩
        subst hwz
        have hsz := hbel.size
        clear fk hTR hen hx hrows hall hcap hbel hT
        go_wp2
        go_loopw [5, 21] (fun ov iv wr => ∃ (i : Nat) (A1 : Option Addr) (c1 : Nat), i ≤ T.length ∧ iv = .int .i64 i ∧ ov = .slice A1 i c1 ∧ OwI wr wz.heap.size (.slice A1 i c1) (cs ((T.map lastN).take i)) ∧ Below wz.heap.size wz wr) (fun _ i _ => T.length - (intOf i).toNat)
        case atStart => exact ⟨0, none, 0, by omega, rfl, rfl, OwI.nil _ _, Below.refl _ _⟩
        case round =>
          obtain ⟨i, A1, c1, hi, rfl, rfl, hown, hbel⟩ := hrel
          have OW1 := Lib.hid hown
          have BE1 := Lib.hid hbel
          have hs1 := hbel.size
          by_cases hit : i < T.length
          · have iqi : (i : Int) < (T.length : Int) := by omega
            have ow := HROWS.out.below hbel
            obtain ⟨gA, rfl, hgB, hcell⟩ := ow.at_ hit
            have hrw := ow.2 i hit
            unfold OwI at hrw
            rw [cs_len] at hrw
            obtain ⟨hpl, _⟩ := HTR.out i hit
            have NX := Lib.hid (show cs ((T.map lastN).take (i + 1)) = cs ((T.map lastN).take i) ++ [(lastN (T.getD i []) : Int)] by
              rw [List.take_succ_eq_append_getElem (by rw [List.length_map]; exact hit), List.getElem_map]
              unfold cs
              rw [List.map_append]
              simp [hit])
            have hcl : (cs ((T.map lastN).take i)).length = i := by rw [cs_len, List.length_take, List.length_map]; omega
            obtain ⟨p, hp⟩ : ∃ p, T.getD i [] = p := ⟨_, rfl⟩
            obtain ⟨⟨F1, F2⟩, hF⟩ : ∃ F, f i = F := ⟨_, rfl⟩
            rw [hp] at hpl NX
            rw [hF, hp] at hcell hrw
            simp only at hcell hrw
            have rdw : Rd wr wr.heap.size 1 F1 (cs p).length ((cs p).map I) := by rw [cs_len]; exact Rd.of_own hrw
            obtain ⟨gr, off, rfl, hgr, hcs⟩ := rdw.cells (by rw [cs_len]; omega)
            have hl1 := hcs k (by rw [cs_len]; omega)
            rw [cs_getD] at hl1
            obtain ⟨lp, hlp⟩ : ∃ lp, lastN p = lp := ⟨_, rfl⟩
            have hlN : p.getD k 0 = lp := by rw [← hlp]; unfold lastN; rw [show p.length - 1 = k by omega]
            rw [hlN] at hl1
            rw [hlp] at NX
            have hsub : IntKind.i64.wrap ((p.length : Int) - 1) = (k : Int) := by rw [IntWalk.i64_in _ (by omega)]; omega
            have i1 : (k : Int) < (p.length : Int) := by omega
            have HCL := Lib.hid hcl
            clear hown hbel ow hrw rdw hcs hpl hlN hlp hF hp hcl
            go_wp2_with (at_builtin; refine list_step (fun K hK => ?_); refine step_app_int rfl (.tmp 25) (.tmp 32) rfl wz.heap.size i _ (cs ((T.map lastN).take i)) rfl (OwI.alloc OW1.out _) HCL.out wr.heap.size 1 (lp : Int) rfl (by simp) (by omega) (by simp; omega) ?_; intro A6 c6 w6 hown6 hg6 hbel6; have O6 := Lib.hid hown6; have B6 := Lib.hid hbel6; clear hown6 hbel6 hg6; go_simp; refine hK _ _ ?_; clear hK K)
            go_roundw
            case rel => exact ⟨i + 1, A6, c6, by omega, by go_num, rfl, by rw [NX.out]; exact O6.out, (BE1.out.alloc hs1 _).trans B6.out⟩
            case measure => simp [intOf]; omega
          · have hi' : i = T.length := by omega
            subst hi'
            have hfull : cs ((T.map lastN).take T.length) = tlL (k : Int) := by
              rw [E.out, HEN2.out, List.take_of_length_le (by rw [List.length_map]; exact Nat.le_refl _)]
            have hlen : T.length = (tlL (k : Int)).length := by rw [E.out, HEN2.out, cs_len, List.length_map]
            rw [hfull, hlen] at OW1
            have HLN := Lib.hid hlen
            clear hown hbel hfull hlen
            go_wp2
            go_ret2
            exact ⟨A1, c1, by rw [← HLN.out]; rfl, OwI.base OW1.out hsz, BEL.out.trans (BE1.out.mono hsz)⟩
end Go.Proofs.Ytbbjgcagkmlngab
