/- The model's search for star chains. -/
import Derived.Test.YtppahohakiidmaaHl
namespace Go.Proofs.Ytppahohakiidmaa
open Go.RowKit

def outI (n k most : Nat) (c : List Nat) (i : Nat) : List (List Nat) := (c.take i).foldl (shJ n k most c) []
theorem outI_end (n k most : Nat) (c : List Nat) : outI n k most c c.length = shS n (k + 1) most c := by
  unfold outI
  rw [List.take_of_length_le (Nat.le_refl _), shS_succ]
theorem outI_succ {n k most : Nat} {c : List Nat} {i : Nat} (h : i < c.length) : outI n k most c (i + 1) = shJ n k most c (outI n k most c i) (c.getD i 0) := by
  unfold outI
  rw [List.take_succ_eq_append_getElem h, List.foldl_append, List.getD_eq_getElem?_getD, List.getElem?_eq_getElem h]
  rfl
theorem shS_len {n : Nat} : ∀ k most (c : List Nat), 1 ≤ most → (shS n k most c).length ≤ most := by
  intro k
  induction k with
  | zero =>
    intro most c h
    show (if lastN c = n then [c] else []).length ≤ most
    split
    · simpa using h
    · simp
  | succ k ih =>
    intro most c h
    rw [shS_succ]
    have key : ∀ (ys : List Nat) (out : List (List Nat)), out.length ≤ most → (ys.foldl (shJ n k most c) out).length ≤ most := by
      intro ys
      induction ys with
      | nil => intro out ho; exact ho
      | cons a ys iha =>
        intro out ho
        rw [List.foldl_cons]
        apply iha
        unfold shJ
        split
        · exact ho
        · have := ih (most - out.length) (c ++ [lastN c + a]) (by omega)
          rw [List.length_append]
          omega
    exact key c [] (by simp)
theorem outI_len {n k most : Nat} {c : List Nat} (i : Nat) : (outI n k most c i).length ≤ most := by
  have key : ∀ (ys : List Nat) (out : List (List Nat)), out.length ≤ most → (ys.foldl (shJ n k most c) out).length ≤ most := by
    intro ys
    induction ys with
    | nil => intro out ho; exact ho
    | cons a ys iha =>
      intro out ho
      rw [List.foldl_cons]
      apply iha
      unfold shJ
      split
      · exact ho
      · have := shS_len (n := n) k (most - out.length) (c ++ [lastN c + a]) (by omega)
        rw [List.length_append]
        omega
  exact key _ [] (by simp)

def jn (f : Nat → Option Addr × Nat) (R : Nat) (g : Nat → Option Addr × Nat) : Nat → Option Addr × Nat := fun i => if i < R then f i else g (i - R)
theorem TT_jn (f g : Nat → Option Addr × Nat) (N R S : Nat) : TT (jn f R g) N (R + S) = TT f N R ++ TT g N S := by
  apply List.ext_getElem?
  intro i
  rcases Nat.lt_or_ge i R with h | h
  · rw [TT_at _ _ (by omega), List.getElem?_append_left (by rw [TT_length]; exact h), TT_at _ _ h]
    simp [jn, h]
  · rw [List.getElem?_append_right (by rw [TT_length]; exact h), TT_length]
    rcases Nat.lt_or_ge i (R + S) with h2 | h2
    · rw [TT_at _ _ h2, TT_at _ _ (by omega)]
      simp [jn, show ¬ i < R by omega]
    · rw [List.getElem?_eq_none (by rw [TT_length]; exact h2), List.getElem?_eq_none (by rw [TT_length]; omega)]
theorem TT_one (f : Nat → Option Addr × Nat) (N R : Nat) : ∀ u ∈ TT f N R, u.oneCell' = true := by
  intro u hu
  unfold TT at hu
  obtain ⟨_, _, rfl⟩ := List.mem_map.1 hu
  rfl

set_option maxRecDepth 100000 in
set_option maxHeartbeats 4000000 in
theorem shSearch_any (n : Nat) (hn : n ≤ 100) : ∀ (k N most m : Nat) (c : List Nat) (B : Nat) (A : Option Addr) (cc : Nat) (w : World), c.length = m → 1 ≤ m → m + k = N → N ≤ 20 → 1 ≤ most → most ≤ 300 → (∀ i, i < m → c.getD i 0 ≤ 100) → B ≤ w.heap.size → Rd w B 1 A m ((cs c).map I) →
    Calls Try.prog 52 #[.slice A m cc, .int .i64 (n : Int), .int .i64 (k : Int), .int .i64 (most : Int)] w fun e w' => ∃ A' c' f, e = .returned (.slice A' (shS n k most c).length c') ∧ OwL w' w.heap.size A' c' f N (shS n k most c).length (fun i => cs ((shS n k most c).getD i [])) ∧ Below w.heap.size w w' := by
  intro k
  induction k with
  | zero =>
    intro N most m c B A cc w hcm hm1 hN hN20 hmo1 hmo hc hB hr
    have hlen : (cs c).length = m := by rw [cs_len]; exact hcm
    obtain ⟨M, hM⟩ : ∃ M, m = M + 1 := ⟨m - 1, by omega⟩
    have hr' := hr
    rw [← hlen] at hr
    obtain ⟨b, off, rfl, hbB, hcells⟩ := hr.cells (by omega)
    have cl := hcells M (by omega)
    rw [cs_getD] at cl
    have hlast : lastN c = c.getD M 0 := by unfold lastN; rw [hcm, hM]; rfl
    obtain ⟨x, hx⟩ : ∃ x, c.getD M 0 = x := ⟨_, rfl⟩
    rw [hx] at cl hlast
    have hO := l1Own_any B (some ⟨b, off, none⟩) cc (cs c) w (by omega) hB hr
    rw [hlen] at hO
    have HO := Lib.hid hO
    have HL := Lib.hid hlast
    have hw1 : IntKind.i64.wrap ((m : Int) - 1) = (M : Int) := by rw [IntWalk.i64_in _ (by omega)]; omega
    have iM : (M : Int) < (m : Int) := by omega
    have HNm := Lib.hid (show N = m by omega)
    have HCL := Lib.hid hlen
    clear hr hr' hcells hO hlast hM hx hlen
    by_cases hxn : x = n
    · have E := Lib.hid (show shS n 0 most c = [c] from if_pos (by rw [HL.out]; exact hxn))
      have ixn : ((x : Int) == (n : Int)) = true := by rw [beq_iff_eq]; omega
      have ixn' : ((n : Int) == (n : Int)) = true := by simp
      subst hxn
      go_enter Try.func52, Try.ntmps52
      go_wp2_with (go_at_call 78; refine HO.out.mono ?_; rintro e w2 ⟨A2, c2, rfl, hown2, hb2⟩)
      go_ret
      rw [E.out]
      refine ⟨some ⟨w2.heap.size, 0, none⟩, 1, fun _ => (A2, c2), rfl, ⟨?_, ?_⟩, hb2.alloc hb2.size _⟩
      · have h := World.ownsRow_lit (base := w.heap.size) (e := 22) (size := 1) w2 #[.slice A2 m c2] 1 hb2.size (by unfold maxLen; omega) (by simp)
        rw [HNm.out]
        exact h
      · intro i hi
        have ei : i = 0 := by simp at hi; exact hi
        subst ei
        rw [HNm.out]
        have h := OwI.alloc hown2 (.cells #[.slice A2 m c2] 22)
        unfold OwI at h
        rw [HCL.out] at h
        exact h
    · have E := Lib.hid (show shS n 0 most c = [] from if_neg (by rw [HL.out]; exact hxn))
      have ixn : ((x : Int) == (n : Int)) = false := by rw [beq_eq_false_iff_ne]; omega
      go_enter Try.func52, Try.ntmps52
      go_wp2
      go_ret
      rw [E.out]
      exact ⟨none, 0, fun _ => (none, 0), rfl, ⟨World.ownsRow_nil _ _ _ _, fun i hi => absurd hi (Nat.not_lt_zero _)⟩, Below.refl _ _⟩
  | succ k ih =>
    intro N most m c B A cc w hcm hm1 hN hN20 hmo1 hmo hc hB hr
    have hlen : (cs c).length = m := by rw [cs_len]; exact hcm
    obtain ⟨M, hM⟩ : ∃ M, m = M + 1 := ⟨m - 1, by omega⟩
    have HRD := Lib.hid hr
    rw [← hlen] at hr
    obtain ⟨b, off, rfl, hbB, hcells⟩ := hr.cells (by omega)
    have HCE := Lib.hid (show ∀ i, i < m → w.cell? ⟨b, off + i, none⟩ = some (.int .i64 ((c.getD i 0 : Nat) : Int)) from fun i hi => by
      have := hcells i (by omega)
      rwa [cs_getD] at this)
    have cl := HCE.out M (by omega)
    have hlast : lastN c = c.getD M 0 := by unfold lastN; rw [hcm, hM]; rfl
    have hx100 := hc M (by omega)
    obtain ⟨x, hx⟩ : ∃ x, c.getD M 0 = x := ⟨_, rfl⟩
    rw [hx] at cl hlast hx100
    have hO := fun (W : World) (hBW : B ≤ W.heap.size) (hrW : Rd W B 1 (some ⟨b, off, none⟩) m ((cs c).map I)) => l1Own_any B (some ⟨b, off, none⟩) cc (cs c) W (by omega) hBW (by rw [hlen]; exact hrW)
    rw [hlen] at hO
    have HO := Lib.hid hO
    have HL := Lib.hid hlast
    have hw1 : IntKind.i64.wrap ((m : Int) - 1) = (M : Int) := by rw [IntWalk.i64_in _ (by omega)]; omega
    have iM : (M : Int) < (m : Int) := by omega
    have HCL := Lib.hid hlen
    have HC := Lib.hid hc
    have IH := Lib.hid ih
    have HCM := Lib.hid hcm
    have hE := outI_end n k most c
    obtain ⟨ZZ, hZZ⟩ : ∃ ZZ, shS n (k + 1) most c = ZZ := ⟨_, rfl⟩
    rw [hZZ] at hE ⊢
    have HE := Lib.hid hE
    obtain ⟨K1, hK1⟩ : ∃ K1, k + 1 = K1 := ⟨_, rfl⟩
    rw [hK1]
    have ik : ((K1 : Int) == 0) = false := by rw [beq_eq_false_iff_ne]; omega
    have hwk : IntKind.i64.wrap ((K1 : Int) - 1) = (k : Int) := by rw [IntWalk.i64_in _ (by omega)]; omega
    have HK1 := Lib.hid hK1
    clear hr hcells hO hlast hM hx hlen hc ih hcm hE hZZ hK1
    go_enter Try.func52, Try.ntmps52
    go_wp2
    go_loopw [10, 30] (fun ov iv wr => ∃ (i R1 : Nat) (A1 : Option Addr) (c1 : Nat) (f1 : Nat → Option Addr × Nat), iv = .int .i64 (i : Int) ∧ ov = .slice A1 R1 c1 ∧ i ≤ m ∧ Aside (R1 = (outI n k most c i).length ∧ OwL wr w.heap.size A1 c1 f1 N R1 (fun j => cs ((outI n k most c i).getD j [])) ∧ Below w.heap.size w wr)) (fun _ iv _ => m - (intOf iv).toNat)
    case atStart => exact ⟨0, 0, none, 0, fun _ => (none, 0), rfl, rfl, by omega, rfl, ⟨World.ownsRow_nil _ _ _ _, fun i hi => absurd hi (Nat.not_lt_zero _)⟩, Below.refl _ _⟩
    case round =>
      obtain ⟨i, R1, A1, c1, f1, rfl, rfl, hi, AS⟩ := hrel
      have HR1 := Lib.hid AS.out.1
      have OWN := Lib.hid AS.out.2.1
      have BEL := Lib.hid AS.out.2.2
      have hs : w.heap.size ≤ wr.heap.size := AS.out.2.2.size
      have hR1 : R1 ≤ most := by rw [AS.out.1]; exact outI_len i
      clear AS
      by_cases hlt : i < m
      · have iim : (i : Int) < (m : Int) := by omega
        have ci := (BEL.out.cell (p := ⟨b, off + i, none⟩) (by simp only []; omega)).trans (HCE.out i hlt)
        have ha100 := HC.out i hlt
        have hsucc := outI_succ (n := n) (k := k) (most := most) (c := c) (i := i) (by rw [HCM.out]; exact hlt)
        obtain ⟨a, ha⟩ : ∃ a, c.getD i 0 = a := ⟨_, rfl⟩
        rw [ha] at ci ha100 hsucc
        obtain ⟨s, hs'⟩ : ∃ s, x + a = s := ⟨_, rfl⟩
        obtain ⟨P, hP⟩ : ∃ P, s * 2 ^ k = P := ⟨_, rfl⟩
        have hjj : outI n k most c (i + 1) = if n < s ∨ P < n ∨ most ≤ R1 then outI n k most c i else outI n k most c i ++ shS n k (most - R1) (c ++ [s]) := by
          rw [hsucc]
          unfold shJ
          rw [HL.out, hs', hP, ← HR1.out]
        have hk20 : 2 ^ k ≤ 1048576 := Nat.pow_le_pow_right (n := 2) (by decide) (show k ≤ 20 by omega)
        have hPb : P ≤ 209715200 := by
          rw [← hP]
          have := Nat.mul_le_mul (show s ≤ 200 by omega) hk20
          omega
        have hwa : IntKind.i64.wrap ((x : Int) + (a : Int)) = (s : Int) := by rw [IntWalk.i64_in _ (by omega)]; omega
        have hPI : (s : Int) * 2 ^ k = (P : Int) := by rw [← hP]; push_cast; rfl
        have hwP : IntKind.i64.wrap (P : Int) = (P : Int) := IntWalk.i64_in _ (by omega)
        have JJ := Lib.hid hjj
        have HSX := Lib.hid hs'
        clear ha hsucc hP hjj hk20 hs'
        by_cases h1 : n < s
        · have i1 : (n : Int) < (s : Int) := by omega
          have E := Lib.hid (show outI n k most c (i + 1) = outI n k most c i by rw [JJ.out, if_pos (.inl h1)])
          clear h1
          go_wp2
          go_roundw
          case rel => exact ⟨i + 1, R1, A1, c1, f1, by go_num, rfl, by omega, by rw [E.out]; exact HR1.out, by rw [E.out]; exact OWN.out, BEL.out⟩
          case measure => simp [intOf]; omega
        have i1 : ¬ (n : Int) < (s : Int) := by omega
        by_cases h2 : P < n
        · have i2 : (P : Int) < (n : Int) := by omega
          have E := Lib.hid (show outI n k most c (i + 1) = outI n k most c i by rw [JJ.out, if_pos (.inr (.inl h2))])
          clear h2
          go_wp2
          go_roundw
          case rel => exact ⟨i + 1, R1, A1, c1, f1, by go_num, rfl, by omega, by rw [E.out]; exact HR1.out, by rw [E.out]; exact OWN.out, BEL.out⟩
          case measure => simp [intOf]; omega
        have i2 : ¬ (P : Int) < (n : Int) := by omega
        by_cases h3 : most ≤ R1
        · have i3 : (most : Int) ≤ (R1 : Int) := by omega
          have E := Lib.hid (show outI n k most c (i + 1) = outI n k most c i by rw [JJ.out, if_pos (.inr (.inr h3))])
          clear h3
          go_wp2
          go_roundw
          case rel => exact ⟨i + 1, R1, A1, c1, f1, by go_num, rfl, by omega, by rw [E.out]; exact HR1.out, by rw [E.out]; exact OWN.out, BEL.out⟩
          case measure => simp [intOf]; omega
        have i3 : ¬ (most : Int) ≤ (R1 : Int) := by omega
        have E := Lib.hid (show outI n k most c (i + 1) = outI n k most c i ++ shS n k (most - R1) (c ++ [s]) by rw [JJ.out, if_neg (by omega)])
        have HOW := Lib.hid (HO.out wr (by omega) (HRD.out.below' BEL.out hB))
        obtain ⟨q, hq⟩ : ∃ q, most - R1 = q := ⟨_, rfl⟩
        have hwq : IntKind.i64.wrap ((most : Int) - (R1 : Int)) = (q : Int) := by rw [IntWalk.i64_in _ (by omega)]; omega
        rw [hq] at E
        have hq1 : 1 ≤ q := by omega
        have hq300 : q ≤ 300 := by omega
        have hSl := shS_len (n := n) k q (c ++ [s]) hq1
        have IHC := Lib.hid (fun (B' : Nat) (A' : Option Addr) (cc' : Nat) (W : World) (h8 : B' ≤ W.heap.size) (h9 : Rd W B' 1 A' (m + 1) ((cs (c ++ [s])).map I)) => IH.out N q (m + 1) (c ++ [s]) B' A' cc' W (by rw [List.length_append, HCM.out]; rfl) (by omega) (by omega) hN20 hq1 hq300 (fun j hj => by
          rcases Nat.lt_or_ge j m with h | h
          · rw [List.getD_eq_getElem?_getD, List.getElem?_append_left (by rw [HCM.out]; exact h), ← List.getD_eq_getElem?_getD]
            exact HC.out j h
          · have ej : j = m := by omega
            subst ej
            rw [List.getD_eq_getElem?_getD, ← HCM.out, List.getElem?_concat_length]
            exact (by omega : s ≤ 100)) h8 h9)
        obtain ⟨Z, hZ⟩ : ∃ Z, shS n k q (c ++ [s]) = Z := ⟨_, rfl⟩
        rw [hZ] at E IHC hSl
        have CSN := Lib.hid (show cs c ++ [(s : Int)] = cs (c ++ [s]) from (cs_snoc c s).symm)
        clear h1 h2 h3 hq hZ
        go_wp2_with (first
          | (go_at_call 78; refine HOW.out.mono ?_; rintro e w5 ⟨A5, c5, rfl, hown5, hb5⟩; have O5 := Lib.hid hown5; have B5 := Lib.hid hb5; have hs5 : wr.heap.size ≤ w5.heap.size := hb5.size; clear hown5 hb5)
          | (at_builtin; refine list_step (fun K hK => ?_); refine step_app_int rfl (.tmp 56) (.tmp 58) rfl wr.heap.size m _ (cs c) rfl (OwI.alloc O5.out _) HCL.out w5.heap.size 1 (s : Int) rfl (by simp) (by omega) (by simp; omega) ?_; intro A6 c6 w6 hown6 hg6 hbel6; have O6 := Lib.hid hown6; have B6 := Lib.hid ((B5.out.alloc hs5 _).trans hbel6); have hs6 : wr.heap.size ≤ w6.heap.size := (by have := hbel6.size; simp at this; omega); clear hown6 hg6 hbel6; go_simp; refine hK _ _ ?_; clear hK K)
          | (go_at_call 52; refine (IHC.out w6.heap.size A6 c6 w6 (Nat.le_refl _) (by have h := O6.out; unfold OwI at h; rw [CSN.out, cs_len, List.length_append, HCM.out] at h; exact Rd.of_own h)).mono ?_; rintro e w7 ⟨A7, c7, f7, rfl, hown7, hb7⟩; have O7 := Lib.hid hown7; have B7 := Lib.hid (B6.out.trans (hb7.mono hs6)); have hs7 : wr.heap.size ≤ w7.heap.size := (by have := hb7.size; omega); clear hown7 hb7)
          | (at_builtin; refine list_step (fun K hK => ?_); refine step_appM Try.underlying35 info_ints rfl (by omega) (by omega) rfl (.tmp 54) (.tmp 67) rfl w.heap.size R1 _ (TT f1 N R1) rfl (own_below OWN.out.1 B7.out) A7 Z.length c7 (TT f7 N Z.length) rfl (Rd.of_own O7.out.1) (TT_one _ _ _) (by omega) (by omega) ?_; intro A8 c8 w8 hown8 hg8 hbel8; go_simp; refine hK _ _ ?_; clear hK K))
        go_roundw
        case rel =>
          refine ⟨i + 1, R1 + Z.length, A8, c8, jn f1 R1 f7, by go_num, rfl, by omega, by rw [E.out, List.length_append, HR1.out], ⟨by rw [TT_jn]; exact hown8, ?_⟩, (BEL.out.trans (B7.out.mono hs)).trans hbel8⟩
          intro j hj
          rcases Nat.lt_or_ge j R1 with h | h
          · have e1 : jn f1 R1 f7 j = f1 j := by simp [jn, h]
            have e2 : (outI n k most c (i + 1)).getD j [] = (outI n k most c i).getD j [] := by
              rw [E.out, List.getD_eq_getElem?_getD, List.getElem?_append_left (by rw [← HR1.out]; exact h), ← List.getD_eq_getElem?_getD]
            rw [e1]
            show World.ownsRow _ _ _ _ _ _ ((cs ((outI n k most c (i + 1)).getD j [])).map I)
            rw [e2]
            have hrow := own_below (OWN.out.2 j h) B7.out
            exact World.ownsRow.kept hrow hg8 (own_ne hrow (own_below OWN.out.1 B7.out) (by decide))
          · have e1 : jn f1 R1 f7 j = f7 (j - R1) := by simp [jn, show ¬ j < R1 by omega]
            have e2 : (outI n k most c (i + 1)).getD j [] = Z.getD (j - R1) [] := by
              rw [E.out, List.getD_eq_getElem?_getD, List.getElem?_append_right (by rw [← HR1.out]; exact h), ← HR1.out, ← List.getD_eq_getElem?_getD]
            rw [e1]
            show World.ownsRow _ _ _ _ _ _ ((cs ((outI n k most c (i + 1)).getD j [])).map I)
            rw [e2]
            have hrow := O7.out.2 (j - R1) (by omega)
            exact own_base (World.ownsRow.kept hrow hg8 (own_ne hrow (own_below OWN.out.1 B7.out) (by decide))) (by omega)
        case measure => simp [intOf]; omega
      · have e : i = m := by omega
        subst e
        have hE2 := HE.out
        rw [HCM.out] at hE2
        have HE2 := Lib.hid hE2
        clear hE2
        go_wp2
        go_ret
        have hr1 := HR1.out
        rw [HE2.out] at hr1
        subst hr1
        refine ⟨A1, c1, f1, rfl, ?_, BEL.out⟩
        have := OWN.out
        rw [HE2.out] at this
        exact this
end Go.Proofs.Ytppahohakiidmaa
