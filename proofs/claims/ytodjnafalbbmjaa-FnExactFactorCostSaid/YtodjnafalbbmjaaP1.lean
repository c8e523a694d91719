/- Joined: Ic Id Ma Lb Ea Fa Ap Ca Ka Kc Cb. -/
import Derived.Test.YtodjnafalbbmjaaP0
import Derived.Maps.AppendAt
/- One product of the program. -/
namespace Go.Proofs.Ytodjnafalbbmjaa
open Go.RowKit

theorem six_form {l : List Int} (h : l.length = 6) : ∃ a0 a1 a2 a3 a4 a5, l = [a0, a1, a2, a3, a4, a5] := by
  match l, h with
  | [a0, a1, a2, a3, a4, a5], _ => exact ⟨a0, a1, a2, a3, a4, a5, rfl⟩

/-- What a product leaves. -/
def MulPost (B g o : Nat) (t : TypeId) (cs : Array Value) (rows : List (List Int)) (m : Option (List Int)) (w : World) (e : Ending) (w' : World) : Prop :=
  Below B w w' ∧ (match m with
    | none => e = .returned (.bool false)
    | some r => e = .returned (.bool true) ∧ ∃ A c, w'.heap[g]? = some (.cells (cs.setIfInBounds o (.slice A (rows.length + 1) c)) t (0, 0)) ∧
        w'.ownsRow B 137 6 (.slice A (rows.length + 1) c) (rows.length + 1) (fl6 (rows ++ [r])))

theorem mulPost_none {B g o : Nat} {t : TypeId} {cs : Array Value} {rows : List (List Int)} {m : Option (List Int)} {w w' : World} (hm : m = none) (hb : Below B w w') : MulPost B g o t cs rows m w (.returned (.bool false)) w' := by
  subst hm
  exact ⟨hb, rfl⟩

def pr (al bl : List Int) (k : Nat) : List Int := List.zipWith (· + ·) (al.take k) (bl.take k) ++ al.drop k

set_option maxRecDepth 100000 in
set_option maxHeartbeats 2000000 in
theorem multiply_any (B g o : Nat) (t : TypeId) (cs : Array Value) (A : Option Addr) (c : Nat) (rows : List (List Int)) (a b : Int) (w : World)
    (hB : B ≤ g) (hblk : w.heap[g]? = some (.cells cs t (0, 0))) (ht : t ≠ 137) (hcs : cs[o]? = some (.slice A rows.length c))
    (hown : w.ownsRow B 137 6 (.slice A rows.length c) rows.length (fl6 rows)) (hsix : Six rows) (hrng : ∀ r ∈ rows, ∀ x ∈ r, 0 ≤ x ∧ x ≤ 1000000) (hlen : rows.length ≤ 1000) (hBs : B ≤ w.heap.size) :
    Calls Try.prog 114 #[.pointer (some ⟨g, o, none⟩), .agg #[.int .i64 a, .int .i64 b]] w (MulPost B g o t cs rows (mulI rows a b) w) := by
  have hgl : g < w.heap.size := (Array.getElem?_eq_some_iff.1 hblk).1
  have hc0 : w.cell? ⟨g, o, none⟩ = some (.slice A rows.length c) := by rw [cell_of_row w g o cs t (0, 0) hblk]; exact hcs
  have hf0 : w.frozen? ⟨g, o, none⟩ = false := frozen_of_row w g o cs t hblk
  have HBLK := Lib.hid hblk
  have HCS := Lib.hid hcs
  have HOWN := Lib.hid hown
  have HSIX := Lib.hid hsix
  have HRNG := Lib.hid hrng
  have HT := Lib.hid ht
  have hc1 := cell_kept hc0
  clear hblk hcs hown hsix hrng ht
  by_cases h1 : a ≤ b
  case neg =>
    have e : mulI rows a b = none := by simp [mulI, h1]
    have E := Lib.hid e
    have h1' : b < a := by omega
    clear e h1
    go_enter Try.func114, Try.ntmps114
    go_wp2
    go_ret
    exact mulPost_none E.out ((Below.refl _ _).alloc hBs _)
  case pos =>
  obtain ⟨b2, hb2⟩ : ∃ x, hasB a rows.length = x := ⟨_, rfl⟩
  cases b2 with
  | false =>
    have e : mulI rows a b = none := by simp [mulI, hb2]
    have E := Lib.hid e
    clear e
    go_enter Try.func114, Try.ntmps114
    go_wp2_with (go_at_call 120; refine (has_any _ _ _ _ _ _ _ (hc1 _)).mono ?_; rintro e w' ⟨rfl, rfl⟩)
    go_ret
    exact mulPost_none E.out ((Below.refl _ _).alloc hBs _)
  | true =>
  obtain ⟨b3, hb3⟩ : ∃ x, hasB b rows.length = x := ⟨_, rfl⟩
  cases b3 with
  | false =>
    have e : mulI rows a b = none := by simp [mulI, hb3]
    have E := Lib.hid e
    clear e
    go_enter Try.func114, Try.ntmps114
    go_wp2_with (go_at_call 120; refine (has_any _ _ _ _ _ _ _ (hc1 _)).mono ?_; rintro e w' ⟨rfl, rfl⟩)
    go_ret
    exact mulPost_none E.out ((Below.refl _ _).alloc hBs _)
  | true =>
  have ha' : 0 ≤ a ∧ a < rows.length := by simpa [hasB] using hb2
  have hb' : 0 ≤ b ∧ b < rows.length := by simpa [hasB] using hb3
  obtain ⟨i, hi⟩ : ∃ i : Nat, a = i := ⟨a.toNat, by omega⟩
  obtain ⟨j, hj⟩ : ∃ j : Nat, b = j := ⟨b.toNat, by omega⟩
  subst hi
  subst hj
  have hil : i < rows.length := by omega
  have hjl : j < rows.length := by omega
  obtain ⟨a0, a1, a2, a3, a4, a5, hal⟩ := six_form (HSIX.out _ (List.getElem_mem hil))
  obtain ⟨d0, d1, d2, d3, d4, d5, hbl⟩ := six_form (HSIX.out _ (List.getElem_mem hjl))
  obtain ⟨gr, rfl, hgr, hgrl, hcell, _⟩ := own_at HOWN.out (by omega)
  have ca : ∀ q, q < 6 → w.cell? ⟨gr, i * 6 + q, none⟩ = some (I ([a0, a1, a2, a3, a4, a5].getD q 0)) := fun q hq => by rw [hcell _ (by omega), fl6_at HSIX.out hil hq, hal]
  have cb : ∀ q, q < 6 → w.cell? ⟨gr, j * 6 + q, none⟩ = some (I ([d0, d1, d2, d3, d4, d5].getD q 0)) := fun q hq => by rw [hcell _ (by omega), fl6_at HSIX.out hjl hq, hbl]
  have em : mulI rows i j = (if allB (List.zipWith (· + ·) [a0, a1, a2, a3, a4, a5] [d0, d1, d2, d3, d4, d5]) 0 1000000 then some (List.zipWith (· + ·) [a0, a1, a2, a3, a4, a5] [d0, d1, d2, d3, d4, d5]) else none) := by
    unfold mulI
    rw [hb2, hb3]
    simp [hal, hbl, hil, hjl, h1]
  have ra : ∀ q, q < 6 → 0 ≤ [a0, a1, a2, a3, a4, a5].getD q 0 ∧ [a0, a1, a2, a3, a4, a5].getD q 0 ≤ 1000000 := fun q hq => by
    have := HRNG.out _ (List.getElem_mem hil)
    rw [hal] at this
    have h := this ([a0, a1, a2, a3, a4, a5].getD q 0) (by simp [hq])
    exact h
  have rb : ∀ q, q < 6 → 0 ≤ [d0, d1, d2, d3, d4, d5].getD q 0 ∧ [d0, d1, d2, d3, d4, d5].getD q 0 ≤ 1000000 := fun q hq => by
    have := HRNG.out _ (List.getElem_mem hjl)
    rw [hbl] at this
    have h := this ([d0, d1, d2, d3, d4, d5].getD q 0) (by simp [hq])
    exact h
  have CA := Lib.hid ca
  have CB := Lib.hid cb
  have RA := Lib.hid ra
  have RB := Lib.hid rb
  have EM := Lib.hid em
  have C0 := Lib.hid hc0
  have HAL := Lib.hid hal
  have HBL := Lib.hid hbl
  clear ca cb ra rb em hal hbl hcell hc0
  go_enter Try.func114, Try.ntmps114
  go_wp2_with (go_at_call 120; refine (has_any _ _ _ _ _ _ _ (hc1 _)).mono ?_; rintro e w' ⟨rfl, rfl⟩)
  generalize hw1 : World.alloc w _ = w1
  obtain ⟨x0, x1, xs, xb⟩ := box2 hw1
  clear hc1 hf0 hw1
  have XB := Lib.hid xb
  have XS := Lib.hid xs
  clear xb xs
  have f0 := (XB.out.cell (p := ⟨g, o, none⟩) hgl).trans C0.out
  have fa : ∀ q, q < 6 → w1.cell? ⟨gr, i * 6 + q, none⟩ = some (I ([a0, a1, a2, a3, a4, a5].getD q 0)) := fun q hq => (XB.out.cell (p := ⟨gr, i * 6 + q, none⟩) hgrl).trans (CA.out q hq)
  have fb : ∀ q, q < 6 → w1.cell? ⟨gr, j * 6 + q, none⟩ = some (I ([d0, d1, d2, d3, d4, d5].getD q 0)) := fun q hq => (XB.out.cell (p := ⟨gr, j * 6 + q, none⟩) hgrl).trans (CB.out q hq)
  have FA := Lib.hid fa
  have FB := Lib.hid fb
  have ii : (i : Int) < (rows.length : Int) := by omega
  have ij : (j : Int) < (rows.length : Int) := by omega
  clear fa fb
  have HS : (fun x : World => x.cell? ⟨g, o, none⟩ = some (.slice (some ⟨gr, 0, none⟩) rows.length c) ∧ x.cell? ⟨w.heap.size, 0, none⟩ = some (.int .i64 i) ∧ x.cell? ⟨gr, i * 6, none⟩ = some (.int .i64 a0) ∧ x.cell? ⟨gr, i * 6 + 1, none⟩ = some (.int .i64 a1) ∧
      x.cell? ⟨gr, i * 6 + 2, none⟩ = some (.int .i64 a2) ∧ x.cell? ⟨gr, i * 6 + 3, none⟩ = some (.int .i64 a3) ∧ x.cell? ⟨gr, i * 6 + 4, none⟩ = some (.int .i64 a4) ∧ x.cell? ⟨gr, i * 6 + 5, none⟩ = some (.int .i64 a5)) w1.drew :=
    ⟨f0, x0, FA.out 0 (by omega), FA.out 1 (by omega), FA.out 2 (by omega), FA.out 3 (by omega), FA.out 4 (by omega), FA.out 5 (by omega)⟩
  refine wp_region_T (fun x : World => x.cell? ⟨g, o, none⟩ = some (.slice (some ⟨gr, 0, none⟩) rows.length c) ∧ x.cell? ⟨w.heap.size, 0, none⟩ = some (.int .i64 i) ∧ x.cell? ⟨gr, i * 6, none⟩ = some (.int .i64 a0) ∧ x.cell? ⟨gr, i * 6 + 1, none⟩ = some (.int .i64 a1) ∧
      x.cell? ⟨gr, i * 6 + 2, none⟩ = some (.int .i64 a2) ∧ x.cell? ⟨gr, i * 6 + 3, none⟩ = some (.int .i64 a3) ∧ x.cell? ⟨gr, i * 6 + 4, none⟩ = some (.int .i64 a4) ∧ x.cell? ⟨gr, i * 6 + 5, none⟩ = some (.int .i64 a5)) [0, 1, 2, 3, 4, 5, 6, 7] [3, 5, 7] (.lp 0 (.lp 1 (.lp 2 (.lp 4 (.ls 3 (.ls 5 (.lp 6 (.ls 7 (.hv 8 (.hv 9 (.done))))))))))) (by kernel_rfl) (by kernel_rfl) ?_
  have HS2 := Lib.hid HS
  clear f0 x0 HS
  (repeat (refine T_lp rfl (fun K hK => ?_); go_simp; refine hK _ ?_; clear hK K))
  refine T_ls1 (v := .slice (some ⟨gr, 0, none⟩) rows.length c) rfl rfl HS2.out (fun x hx => (by obtain ⟨h1, h2, _⟩ := hx; go_simp)) (fun K hK => ?_)
  (go_simp; refine hK _ ?_; clear hK K)
  refine T_ls1 (v := .int .i64 i) rfl rfl HS2.out (fun x hx => (by obtain ⟨h1, h2, _⟩ := hx; go_simp)) (fun K hK => ?_)
  (go_simp; refine hK _ ?_; clear hK K)
  (repeat (refine T_lp rfl (fun K hK => ?_); go_simp; refine hK _ ?_; clear hK K))
  refine T_ls1 (v := .agg #[.int .i64 a0, .int .i64 a1, .int .i64 a2, .int .i64 a3, .int .i64 a4, .int .i64 a5]) rfl rfl HS2.out (fun x hx => (by obtain ⟨h1, h2, h3, h4, h5, h6, h7, h8⟩ := hx; go_simp)) (fun K hK => ?_)
  (go_simp; refine hK _ ?_; clear hK K)
  refine T_hvS rfl (fun K hK => ?_)
  go_simp
  refine hK _ _ ⟨?_, ?_, ?_, ?_, ?_, ?_, ?_, ?_⟩ ?_
  · exact cell_kept HS2.out.1 _
  · exact cell_kept HS2.out.2.1 _
  · exact cell_kept HS2.out.2.2.1 _
  · exact cell_kept HS2.out.2.2.2.1 _
  · exact cell_kept HS2.out.2.2.2.2.1 _
  · exact cell_kept HS2.out.2.2.2.2.2.1 _
  · exact cell_kept HS2.out.2.2.2.2.2.2.1 _
  · exact cell_kept HS2.out.2.2.2.2.2.2.2 _
  clear hK K
  (refine T_hv rfl (by kernel_rfl) (fun K hK => ?_); go_simp; refine hK _ _ ?_; clear hK K)
  refine T_done ?_
  go_wp2
  generalize hw2 : World.drew (World.alloc w1 _) = w2
  have hgp : w2.heap[w1.heap.size]? = some (.cells #[.int .i64 a0, .int .i64 a1, .int .i64 a2, .int .i64 a3, .int .i64 a4, .int .i64 a5] 137 (0, 0)) := by rw [← hw2]; exact heap_alloc_new w1 _
  have hb12 : Below w1.heap.size w1 w2 := by rw [← hw2]; exact ((Below.refl _ _).alloc (Nat.le_refl _) _).drew
  have hs2 : w2.heap.size = w1.heap.size + 1 := by rw [← hw2]; simp
  clear hw2
  have hsz1 : w1.heap.size = w.heap.size + 1 := XS.out
  have f0 : w2.cell? ⟨g, o, none⟩ = some (.slice (some ⟨gr, 0, none⟩) rows.length c) := (hb12.cell (p := ⟨g, o, none⟩) (by simp only []; omega)).trans HS2.out.1
  have f1 : w2.cell? ⟨w.heap.size, 1, none⟩ = some (.int .i64 j) := (hb12.cell (p := ⟨w.heap.size, 1, none⟩) (by simp only []; omega)).trans x1
  have hgr1 : gr < w1.heap.size := by omega
  have g0 : w2.cell? ⟨gr, j * 6, none⟩ = some (.int .i64 d0) := (hb12.cell (p := ⟨gr, j * 6, none⟩) hgr1).trans (FB.out 0 (by omega))
  have g1 : w2.cell? ⟨gr, j * 6 + 1, none⟩ = some (.int .i64 d1) := (hb12.cell (p := ⟨gr, j * 6 + 1, none⟩) hgr1).trans (FB.out 1 (by omega))
  have g2 : w2.cell? ⟨gr, j * 6 + 2, none⟩ = some (.int .i64 d2) := (hb12.cell (p := ⟨gr, j * 6 + 2, none⟩) hgr1).trans (FB.out 2 (by omega))
  have g3 : w2.cell? ⟨gr, j * 6 + 3, none⟩ = some (.int .i64 d3) := (hb12.cell (p := ⟨gr, j * 6 + 3, none⟩) hgr1).trans (FB.out 3 (by omega))
  have g4 : w2.cell? ⟨gr, j * 6 + 4, none⟩ = some (.int .i64 d4) := (hb12.cell (p := ⟨gr, j * 6 + 4, none⟩) hgr1).trans (FB.out 4 (by omega))
  have g5 : w2.cell? ⟨gr, j * 6 + 5, none⟩ = some (.int .i64 d5) := (hb12.cell (p := ⟨gr, j * 6 + 5, none⟩) hgr1).trans (FB.out 5 (by omega))
  have HGP := Lib.hid hgp
  have HB12 := Lib.hid hb12
  have HS3 := Lib.hid hs2
  have HSZ1 := Lib.hid hsz1
  clear hgp hb12 hs2 hsz1
  refine wp_region_Tw [0, 1, 2, 3, 4, 5, 6, 7, 8] [3, 5, 7] (.lp 0 (.lp 1 (.lp 2 (.lp 4 (.lp 8 (.ls 3 (.ls 5 (.lp 6 (.ls 7 (.done)))))))))) (by kernel_rfl) (by kernel_rfl) ?_
  (repeat (first | (refine T_lp rfl (fun K hK => ?_); go_simp; refine hK _ ?_; clear hK K) | (refine T_ls rfl rfl (fun K hK => ?_); go_simp; refine hK _ ?_; clear hK K)))
  refine T_done ?_
  go_wp2
  clear g0 g1 g2 g3 g4 g5 f1 x1
  obtain ⟨al, hal⟩ : ∃ al, al = [a0, a1, a2, a3, a4, a5] := ⟨_, rfl⟩
  obtain ⟨bl, hbl⟩ : ∃ bl, bl = [d0, d1, d2, d3, d4, d5] := ⟨_, rfl⟩
  have HAL2 := Lib.hid hal
  have HBL2 := Lib.hid hbl
  clear hal hbl
  go_loopw [43] (fun q wr => ∃ k : Nat, k ≤ 6 ∧ q = .int .i64 k ∧ (∀ m, m < k → al.getD m 0 + bl.getD m 0 ≤ 1000000) ∧ w2.drew.grownBy wr (some w1.heap.size) ∧ wr.heap[w1.heap.size]? = some (.cells ((pr al bl k).map I).toArray 137 (0, 0))) (fun q _ => 6 - (intOf q).toNat)
  case atStart =>
    refine ⟨0, by omega, rfl, fun m hm => absurd hm (by omega), World.grownBy.refl _ _, ?_⟩
    rw [HAL2.out, HBL2.out]
    exact HGP.out
  case round =>
    obtain ⟨k, hk, rfl, hle, hgr2, hblk⟩ := hrel
    have HLE := Lib.hid hle
    have HG := Lib.hid hgr2
    have HBK := Lib.hid hblk
    clear hle hgr2 hblk
    by_cases hlt : k < 6
    · obtain ⟨x, hx⟩ : ∃ x, al.getD k 0 = x := ⟨_, rfl⟩
      obtain ⟨y, hy⟩ : ∃ y, bl.getD k 0 = y := ⟨_, rfl⟩
      have hx0 : 0 ≤ x ∧ x ≤ 1000000 := by have := RA.out k hlt; rw [← HAL2.out, hx] at this; exact this
      have hy0 : 0 ≤ y ∧ y ≤ 1000000 := by have := RB.out k hlt; rw [← HBL2.out, hy] at this; exact this
      have hidx : ∀ W, (Instr.index 137 (.agg #[.int .i64 d0, .int .i64 d1, .int .i64 d2, .int .i64 d3, .int .i64 d4, .int .i64 d5]) (.int .i64 (k : Int))).run Try.prog W = .ok (.int .i64 y) W := by
        have hk6 : k = 0 ∨ k = 1 ∨ k = 2 ∨ k = 3 ∨ k = 4 ∨ k = 5 := by omega
        rw [HBL2.out] at hy
        rcases hk6 with rfl | rfl | rfl | rfl | rfl | rfl <;> (subst hy; intro W; kernel_rfl)
      have hpk : (pr al bl k)[k]? = some x := by
        have hk6 : k = 0 ∨ k = 1 ∨ k = 2 ∨ k = 3 ∨ k = 4 ∨ k = 5 := by omega
        rw [HAL2.out] at hx
        rw [HAL2.out, HBL2.out]
        rcases hk6 with rfl | rfl | rfl | rfl | rfl | rfl <;> (subst hx; rfl)
      have hset : (pr al bl k).set k (x + y) = pr al bl (k + 1) := by
        have hk6 : k = 0 ∨ k = 1 ∨ k = 2 ∨ k = 3 ∨ k = 4 ∨ k = 5 := by omega
        rw [HAL2.out] at hx
        rw [HBL2.out] at hy
        rw [HAL2.out, HBL2.out]
        rcases hk6 with rfl | rfl | rfl | rfl | rfl | rfl <;> (subst hx; subst hy; rfl)
      have hc : wr.cell? ⟨w1.heap.size, k, none⟩ = some (.int .i64 x) := by rw [cell_of_row wr w1.heap.size k _ _ (0, 0) HBK.out]; simp [hpk, I]
      have hf : wr.frozen? ⟨w1.heap.size, k, none⟩ = false := frozen_of_row wr w1.heap.size k _ _ HBK.out
      have HX := Lib.hid hx
      have HY := Lib.hid hy
      have HSET := Lib.hid hset
      clear hx hy hset hpk
      by_cases hs : x + y ≤ 1000000
      · go_wp2
        go_roundw
        case rel =>
          refine ⟨k + 1, by omega, by go_num, ?_, grown_set HG.out _, ?_⟩
          · intro m hm
            by_cases hmk : m = k
            · rw [hmk, HX.out, HY.out]; exact hs
            · exact HLE.out m (by omega)
          · rw [heap_setCell_same wr w1.heap.size k _ _ _ HBK.out]
            simp only [List.setIfInBounds_toArray]
            rw [show (Value.int .i64 (x + y)) = I (x + y) from rfl, ← List.map_set, HSET.out]
        case measure => simp [intOf]; omega
      · go_wp2
        go_ret
        have e : mulI rows i j = none := by
          rw [EM.out, if_neg]
          rw [Bool.not_eq_true]
          unfold allB
          rw [List.all_eq_false]
          refine ⟨x + y, ?_, by simp [inB]; omega⟩
          rw [← HX.out, ← HY.out, HAL2.out, HBL2.out]
          have hk6 : k = 0 ∨ k = 1 ∨ k = 2 ∨ k = 3 ∨ k = 4 ∨ k = 5 := by omega
          rcases hk6 with rfl | rfl | rfl | rfl | rfl | rfl <;> simp
        refine mulPost_none e (((XB.out.mono hBs).trans (HB12.out.mono (by have := HSZ1.out; omega))).trans ?_)
        have hB1 : B ≤ w1.heap.size := by have := HSZ1.out; omega
        exact (((Below.refl B w2).drew).grown HG.out (by have := HS3.out; simp; omega) (fun q hq => by injection hq with hq; omega)).setCell hB1 _
    · have hk' : k = 6 := by omega
      subst hk'
      clear hlt hk
      have hpr : (pr al bl 6).map I = [I (a0 + d0), I (a1 + d1), I (a2 + d2), I (a3 + d3), I (a4 + d4), I (a5 + d5)] := by rw [HAL2.out, HBL2.out]; rfl
      have hb6 : wr.heap[w1.heap.size]? = some (.cells #[I (a0 + d0), I (a1 + d1), I (a2 + d2), I (a3 + d3), I (a4 + d4), I (a5 + d5)] 137 (0, 0)) := by rw [HBK.out, hpr]
      have p0 : wr.cell? ⟨w1.heap.size, 0, none⟩ = some (.int .i64 (a0 + d0)) := by rw [cell_of_row wr w1.heap.size 0 _ _ (0, 0) hb6]; rfl
      have p1 : wr.cell? ⟨w1.heap.size, 1, none⟩ = some (.int .i64 (a1 + d1)) := by rw [cell_of_row wr w1.heap.size 1 _ _ (0, 0) hb6]; rfl
      have p2 : wr.cell? ⟨w1.heap.size, 2, none⟩ = some (.int .i64 (a2 + d2)) := by rw [cell_of_row wr w1.heap.size 2 _ _ (0, 0) hb6]; rfl
      have p3 : wr.cell? ⟨w1.heap.size, 3, none⟩ = some (.int .i64 (a3 + d3)) := by rw [cell_of_row wr w1.heap.size 3 _ _ (0, 0) hb6]; rfl
      have p4 : wr.cell? ⟨w1.heap.size, 4, none⟩ = some (.int .i64 (a4 + d4)) := by rw [cell_of_row wr w1.heap.size 4 _ _ (0, 0) hb6]; rfl
      have p5 : wr.cell? ⟨w1.heap.size, 5, none⟩ = some (.int .i64 (a5 + d5)) := by rw [cell_of_row wr w1.heap.size 5 _ _ (0, 0) hb6]; rfl
      have hsz1 : w1.heap.size = w.heap.size + 1 := HSZ1.out
      have hg1 : g < w1.heap.size := by omega
      have hgw2 : w2.drew.heap[g]? = some (.cells cs t (0, 0)) := (HB12.out.block g hg1).trans ((XB.out.block g hgl).trans HBLK.out)
      have hgwr : wr.heap[g]? = some (.cells cs t (0, 0)) := (HG.out.block g (by have := HS3.out; simp; omega) (by intro h; injection h with h; omega)).trans hgw2
      have q0 : wr.cell? ⟨g, o, none⟩ = some (.slice (some ⟨gr, 0, none⟩) rows.length c) := by rw [cell_of_row wr g o cs t (0, 0) hgwr]; exact HCS.out
      have hown2 : wr.ownsRow B 137 6 (.slice (some ⟨gr, 0, none⟩) rows.length c) rows.length (fl6 rows) := by
        refine World.ownsRow.kept (w := w2.drew) (own_below' (own_below HOWN.out XB.out) HB12.out.drew (Nat.le_refl _)) HG.out (.inr ?_)
        simp only [Value.ownBlock, ne_eq, Option.some.injEq]
        omega
      have HOWN2 := Lib.hid hown2
      have HGWR := Lib.hid hgwr
      have HSW := (show w1.heap.size < wr.heap.size from (Array.getElem?_eq_some_iff.1 hb6).1)
      clear hpr hb6 hgw2 hgwr hown2 hsz1
      go_wp2
      have HS4 : (fun x : World => x.cell? ⟨g, o, none⟩ = some (.slice (some ⟨gr, 0, none⟩) rows.length c) ∧ x.cell? ⟨w1.heap.size, 0, none⟩ = some (.int .i64 (a0 + d0)) ∧ x.cell? ⟨w1.heap.size, 1, none⟩ = some (.int .i64 (a1 + d1)) ∧
          x.cell? ⟨w1.heap.size, 2, none⟩ = some (.int .i64 (a2 + d2)) ∧ x.cell? ⟨w1.heap.size, 3, none⟩ = some (.int .i64 (a3 + d3)) ∧ x.cell? ⟨w1.heap.size, 4, none⟩ = some (.int .i64 (a4 + d4)) ∧ x.cell? ⟨w1.heap.size, 5, none⟩ = some (.int .i64 (a5 + d5))) wr.drew := ⟨q0, p0, p1, p2, p3, p4, p5⟩
      have HS5 := Lib.hid HS4
      clear q0 p0 p1 p2 p3 p4 p5 HS4
      refine wp_region_T (fun x : World => x.cell? ⟨g, o, none⟩ = some (.slice (some ⟨gr, 0, none⟩) rows.length c) ∧ x.cell? ⟨w1.heap.size, 0, none⟩ = some (.int .i64 (a0 + d0)) ∧ x.cell? ⟨w1.heap.size, 1, none⟩ = some (.int .i64 (a1 + d1)) ∧
          x.cell? ⟨w1.heap.size, 2, none⟩ = some (.int .i64 (a2 + d2)) ∧ x.cell? ⟨w1.heap.size, 3, none⟩ = some (.int .i64 (a3 + d3)) ∧ x.cell? ⟨w1.heap.size, 4, none⟩ = some (.int .i64 (a4 + d4)) ∧ x.cell? ⟨w1.heap.size, 5, none⟩ = some (.int .i64 (a5 + d5))) [0, 1, 2, 3, 4, 5, 8, 9] [4, 5] (.lp 0 (.lp 1 (.lp 2 (.lp 3 (.ls 4 (.ls 5 (.hv 6 (.hv 7 (.lp 8 (.lp 9 (.hv 10 (.done)))))))))))) (by kernel_rfl) (by kernel_rfl) ?_
      (repeat (refine T_lp rfl (fun K hK => ?_); go_simp; refine hK _ ?_; clear hK K))
      refine T_ls1 (v := .slice (some ⟨gr, 0, none⟩) rows.length c) rfl rfl HS5.out (fun x hx => (by obtain ⟨h1, h2, _⟩ := hx; go_simp)) (fun K hK => ?_)
      (go_simp; refine hK _ ?_; clear hK K)
      refine T_ls1 (v := .agg #[.int .i64 (a0 + d0), .int .i64 (a1 + d1), .int .i64 (a2 + d2), .int .i64 (a3 + d3), .int .i64 (a4 + d4), .int .i64 (a5 + d5)]) rfl rfl HS5.out (fun x hx => (by obtain ⟨h1, h2, h3, h4, h5, h6, h7⟩ := hx; go_simp)) (fun K hK => ?_)
      (go_simp; refine hK _ ?_; clear hK K)
      refine T_hvS rfl (fun K hK => ?_)
      go_simp
      refine hK _ _ ⟨cell_kept HS5.out.1 _, cell_kept HS5.out.2.1 _, cell_kept HS5.out.2.2.1 _, cell_kept HS5.out.2.2.2.1 _, cell_kept HS5.out.2.2.2.2.1 _, cell_kept HS5.out.2.2.2.2.2.1 _, cell_kept HS5.out.2.2.2.2.2.2 _⟩ ?_
      clear hK K
      refine T_hv rfl (by kernel_rfl) (fun K hK => ?_)
      refine step_appN Try.underlying121 info_exp rfl (by omega) (by omega) rfl (.tmp 62) (.tmp 64) rfl B rows.length _ (fl6 rows) rfl (HOWN2.out.alloc _) wr.heap.size 1 [I (a0 + d0), I (a1 + d1), I (a2 + d2), I (a3 + d3), I (a4 + d4), I (a5 + d5)] rfl rfl ?_ ?_ (by omega) (by simp; omega) ?_
      · intro q hq
        have hk6 : q = 0 ∨ q = 1 ∨ q = 2 ∨ q = 3 ∨ q = 4 ∨ q = 5 := by omega
        rcases hk6 with rfl | rfl | rfl | rfl | rfl | rfl <;> (rw [World.cell?_drew, World.cell?_alloc_at _ _ _ _ rfl]; rfl)
      · intro u hu
        simp only [List.mem_cons, List.not_mem_nil, or_false] at hu
        rcases hu with rfl | rfl | rfl | rfl | rfl | rfl <;> rfl
      intro A4 c4 w4 hown4 hg4 hbel4
      have hg5 : w4.heap[g]? = some (.cells cs t (0, 0)) := by
        refine (hg4.block g ?_ ?_).trans ?_
        · have := (Array.getElem?_eq_some_iff.1 HGWR.out).1
          simp; omega
        · exact own_ne_blk HOWN2.out HGWR.out HT.out
        · exact (Below.heap_alloc wr _ g (Array.getElem?_eq_some_iff.1 HGWR.out).1).trans HGWR.out
      have k0 : w4.cell? ⟨g, o, none⟩ = some (.slice (some ⟨gr, 0, none⟩) rows.length c) := by rw [cell_of_row w4 g o cs t (0, 0) hg5]; exact HCS.out
      have k1 : w4.frozen? ⟨g, o, none⟩ = false := frozen_of_row w4 g o cs t hg5
      have K5 := Lib.hid hg5
      clear hg5
      (go_simp; refine hK _ _ ?_; clear hK K)
      (repeat (first | (refine T_lp rfl (fun K hK => ?_); go_simp; refine hK _ ?_; clear hK K) | (refine T_ls rfl rfl (fun K hK => ?_); go_simp; refine hK _ ?_; clear hK K)))
      (refine T_hv rfl (by kernel_rfl) (fun K hK => ?_); go_simp; refine hK _ _ ?_; clear hK K)
      refine T_done ?_
      go_wp2
      go_ret
      have hB1 : B ≤ w1.heap.size := by have := HSZ1.out; omega
      refine ⟨((XB.out.mono hBs).trans (HB12.out.mono hB1)).trans ((((((Below.refl B w2).drew).grown HG.out (by have := HS3.out; simp; omega) (fun q hq => by injection hq with hq; omega)).alloc (by omega) _).drew).trans (hbel4.setCell hB _) |> id), ?_⟩
      rw [EM.out, if_pos]
      · refine ⟨rfl, A4, c4, ?_, ?_⟩
        · rw [heap_setCell_same w4 g o cs t _ K5.out]
        · have h := own_set (o := o) hown4 K5.out HT.out (.slice A4 (rows.length + 1) c4)
          have e : fl6 (rows ++ [List.zipWith (· + ·) [a0, a1, a2, a3, a4, a5] [d0, d1, d2, d3, d4, d5]]) = fl6 rows ++ [I (a0 + d0), I (a1 + d1), I (a2 + d2), I (a3 + d3), I (a4 + d4), I (a5 + d5)] := by
            simp [fl6]
          rw [e]
          exact h
      · unfold allB
        rw [List.all_eq_true]
        intro x hx
        rw [List.mem_iff_getElem] at hx
        obtain ⟨q, hq, rfl⟩ := hx
        have hq6 : q < 6 := by simpa using hq
        have l1 := HLE.out q hq6
        have l2 := RA.out q hq6
        have l3 := RB.out q hq6
        rw [HAL2.out, HBL2.out] at l1
        have hk6 : q = 0 ∨ q = 1 ∨ q = 2 ∨ q = 3 ∨ q = 4 ∨ q = 5 := by omega
        rcases hk6 with rfl | rfl | rfl | rfl | rfl | rfl <;> (simp at l1 l2 l3; simp [inB]; omega)
end Go.Proofs.Ytodjnafalbbmjaa
/- A plan found valid by the program, together with its values. -/
namespace Go.Proofs.Ytodjnafalbbmjaa
open Go.RowKit

def runI (rows : List (List Int)) : List (Int × Int) → Option (List (List Int))
  | [] => some rows
  | s :: r => match mulI rows s.1 s.2 with
    | none => none
    | some v => runI (rows ++ [v]) r
def valsI (p : Pl) : Option (List (List Int)) :=
  if inB p.n 1 6 && (decide (p.s.length ≤ 40) && decide (p.o.length ≤ 6)) then
    match runI (units6 p.n.toNat) p.s with
    | none => none
    | some rows => if hasAllB p.o rows.length then some rows else none
  else none

def WvPost (p : Pl) (A1 A2 : Option Addr) (c1 c2 : Nat) (w : World) (e : Ending) (w' : World) : Prop :=
  Below w.heap.size w w' ∧ (match valsI p with
    | none => e = .returned (.tuple #[.agg #[.int .i64 0, .slice none 0 0, .slice none 0 0, .slice none 0 0], .bool false])
    | some rows => ∃ A c, e = .returned (.tuple #[.agg #[.int .i64 p.n, .slice A1 p.s.length c1, .slice A2 p.o.length c2, .slice A rows.length c], .bool true]) ∧
        w'.ownsRow w.heap.size 137 6 (.slice A rows.length c) rows.length (fl6 rows))
theorem wvPost_none {p : Pl} {A1 A2 : Option Addr} {c1 c2 : Nat} {w w' : World} (h : valsI p = none) (hb : Below w.heap.size w w') :
    WvPost p A1 A2 c1 c2 w (.returned (.tuple #[.agg #[.int .i64 0, .slice none 0 0, .slice none 0 0, .slice none 0 0], .bool false])) w' := by
  refine ⟨hb, ?_⟩
  rw [h]

theorem runI_len {rows rows' : List (List Int)} {s : List (Int × Int)} (h : runI rows s = some rows') : rows'.length = rows.length + s.length := by
  induction s generalizing rows with
  | nil => simp [runI] at h; subst h; rfl
  | cons st s ih =>
    simp only [runI] at h
    split at h
    · cases h
    · rename_i v hv
      have := ih h
      simp at this ⊢
      omega
theorem runI_append (rows : List (List Int)) (s t : List (Int × Int)) : runI rows (s ++ t) = (runI rows s).bind fun r => runI r t := by
  induction s generalizing rows with
  | nil => rfl
  | cons st s ih =>
    simp only [List.cons_append, runI]
    split
    · rfl
    · exact ih _
theorem runI_none {u rows : List (List Int)} {s : List (Int × Int)} {k : Nat} (hk : k < s.length) (h : runI u (s.take k) = some rows) (hm : mulI rows (s[k]).1 (s[k]).2 = none) : runI u s = none := by
  have e : s = s.take k ++ s[k] :: s.drop (k + 1) := by simp
  rw [e, runI_append, h]
  simp [runI, hm]
theorem runI_some {u rows : List (List Int)} {s : List (Int × Int)} {k : Nat} {v : List Int} (hk : k < s.length) (h : runI u (s.take k) = some rows) (hm : mulI rows (s[k]).1 (s[k]).2 = some v) : runI u (s.take (k + 1)) = some (rows ++ [v]) := by
  rw [List.take_succ_eq_append_getElem hk, runI_append, h]
  simp [runI, hm]
/-- All values have six exponents, none out of range. -/
def Rng6 (rows : List (List Int)) : Prop := ∀ r ∈ rows, r.length = 6 ∧ ∀ x ∈ r, 0 ≤ x ∧ x ≤ 1000000
theorem mulI_ok {rows : List (List Int)} {a b : Int} {v : List Int} (h : mulI rows a b = some v) (hr : Rng6 rows) : v.length = 6 ∧ ∀ x ∈ v, 0 ≤ x ∧ x ≤ 1000000 := by
  unfold mulI at h
  split at h
  · rename_i hc
    simp only [hasB, Bool.and_eq_true, decide_eq_true_eq] at hc
    obtain ⟨_, ⟨ha0, ha⟩, hb0, hb⟩ := hc
    have la : a.toNat < rows.length := by omega
    have lb : b.toNat < rows.length := by omega
    have h1 : rows.getD a.toNat [] = rows[a.toNat] := by simp [la]
    have h2 : rows.getD b.toNat [] = rows[b.toNat] := by simp [lb]
    rw [h1, h2] at h
    have r1 := hr _ (List.getElem_mem la)
    have r2 := hr _ (List.getElem_mem lb)
    simp only at h
    split at h
    · rename_i hall
      injection h with h
      subst h
      refine ⟨by simp [r1.1, r2.1], fun x hx => ?_⟩
      unfold allB at hall
      rw [List.all_eq_true] at hall
      have := hall x hx
      simpa [inB] using this
    · cases h
  · cases h
theorem rng6_app {rows : List (List Int)} {v : List Int} (hr : Rng6 rows) (hv : v.length = 6 ∧ ∀ x ∈ v, 0 ≤ x ∧ x ≤ 1000000) : Rng6 (rows ++ [v]) := by
  intro r h
  rcases List.mem_append.1 h with h | h
  · exact hr r h
  · rw [List.mem_singleton] at h; subst h; exact hv
theorem rng6_units (n : Nat) : Rng6 (units6 n) := by
  intro r hr
  simp only [units6, List.mem_map] at hr
  obtain ⟨i, _, rfl⟩ := hr
  refine ⟨by simp [unit6], fun x hx => ?_⟩
  unfold unit6 at hx
  rcases List.mem_or_eq_of_mem_set hx with h | h
  · have := List.eq_of_mem_replicate h; omega
  · omega
theorem Rng6.six {rows : List (List Int)} (h : Rng6 rows) : Six rows := fun r hr => (h r hr).1
theorem Rng6.rng {rows : List (List Int)} (h : Rng6 rows) : ∀ r ∈ rows, ∀ x ∈ r, 0 ≤ x ∧ x ≤ 1000000 := fun r hr => (h r hr).2

set_option maxRecDepth 100000 in
set_option maxHeartbeats 4000000 in
theorem withValues_any (B : Nat) (A1 A2 : Option Addr) (c1 c2 : Nat) (p : Pl) (w : World) (hB : B ≤ w.heap.size) (hls : p.s.length ≤ 2000000) (hlo : p.o.length ≤ 2000000)
    (hr : RdP w B A1 A2 p) :
    Calls Try.prog 110 #[.agg #[.int .i64 p.n, .slice A1 p.s.length c1, .slice A2 p.o.length c2]] w (WvPost p A1 A2 c1 c2 w) := by
  have H := Lib.hid hr
  clear hr
  obtain ⟨lls, hls1⟩ : ∃ x : Int, x = p.s.length := ⟨_, rfl⟩
  by_cases hg : p.n < 1 ∨ 6 < p.n ∨ 40 < p.s.length ∨ 6 < p.o.length
  · have e : valsI p = none := by
      unfold valsI
      rw [if_neg]
      simp only [inB, Bool.and_eq_true, decide_eq_true_eq]
      omega
    have E := Lib.hid e
    clear e hls1
    by_cases h1 : p.n < 1
    · clear hg
      go_enter Try.func110, Try.ntmps110
      go_wp2
      refine bodyPost_ret (v := .tuple #[.agg #[.int .i64 0, .slice none 0 0, .slice none 0 0, .slice none 0 0], .bool false]) (by simp [results, Try.results110, go_sem]) rfl (wvPost_none E.out ?_)
      exact ((Below.refl _ _).alloc (Nat.le_refl _) _).alloc (by simp) _
    by_cases h2 : 6 < p.n
    · clear hg
      go_enter Try.func110, Try.ntmps110
      go_wp2
      refine bodyPost_ret (v := .tuple #[.agg #[.int .i64 0, .slice none 0 0, .slice none 0 0, .slice none 0 0], .bool false]) (by simp [results, Try.results110, go_sem]) rfl (wvPost_none E.out ?_)
      exact ((Below.refl _ _).alloc (Nat.le_refl _) _).alloc (by simp) _
    by_cases h3 : 40 < p.s.length
    · have h3' : (40 : Int) < (p.s.length : Int) := by omega
      clear hg h3
      go_enter Try.func110, Try.ntmps110
      go_wp2
      refine bodyPost_ret (v := .tuple #[.agg #[.int .i64 0, .slice none 0 0, .slice none 0 0, .slice none 0 0], .bool false]) (by simp [results, Try.results110, go_sem]) rfl (wvPost_none E.out ?_)
      exact ((Below.refl _ _).alloc (Nat.le_refl _) _).alloc (by simp) _
    · have h4 : 6 < p.o.length := by omega
      have h3' : (p.s.length : Int) ≤ 40 := by omega
      have h4' : (6 : Int) < (p.o.length : Int) := by omega
      clear hg h3 h4
      go_enter Try.func110, Try.ntmps110
      go_wp2
      refine bodyPost_ret (v := .tuple #[.agg #[.int .i64 0, .slice none 0 0, .slice none 0 0, .slice none 0 0], .bool false]) (by simp [results, Try.results110, go_sem]) rfl (wvPost_none E.out ?_)
      exact ((Below.refl _ _).alloc (Nat.le_refl _) _).alloc (by simp) _
  · clear hls1
    obtain ⟨n1, n2, l1, l2⟩ : 1 ≤ p.n ∧ p.n ≤ 6 ∧ p.s.length ≤ 40 ∧ p.o.length ≤ 6 := by omega
    obtain ⟨N, hN⟩ : ∃ N : Nat, p.n = N := ⟨p.n.toNat, by omega⟩
    have ev : valsI p = (match runI (units6 N) p.s with
        | none => none
        | some rows => if hasAllB p.o rows.length then some rows else none) := by
      have : p.n.toNat = N := by omega
      unfold valsI
      rw [if_pos (by simp [inB]; omega), this]
    have EV := Lib.hid ev
    have i1 : (p.s.length : Int) ≤ 40 := by omega
    have i2 : (p.o.length : Int) ≤ 6 := by omega
    have HN := Lib.hid hN
    clear ev hg hN
    go_enter Try.func110, Try.ntmps110
    go_wp2
    generalize hw1 : World.alloc w _ = w1
    obtain ⟨x0, x1, x2, xs, xb⟩ := box3 hw1
    clear hw1
    generalize hw2 : World.alloc w1 _ = w2
    have hres : w2.heap[w1.heap.size]? = some (.cells #[.int .i64 0, .slice none 0 0, .slice none 0 0, .slice none 0 0] 125 (0, 0)) := by rw [← hw2]; exact heap_alloc_new w1 _
    have hb12 : Below w1.heap.size w1 w2 := by rw [← hw2]; exact (Below.refl _ _).alloc (Nat.le_refl _) _
    have hs2 : w2.heap.size = w1.heap.size + 1 := by rw [← hw2]; simp
    clear hw2
    rw [xs] at hres hb12 hs2
    have XB := Lib.hid (xb.trans (hb12.mono (by omega)))
    have y0 := (hb12.cell (p := ⟨w.heap.size, 0, none⟩) (by simp)).trans x0
    have y1 := (hb12.cell (p := ⟨w.heap.size, 1, none⟩) (by simp)).trans x1
    have y2 := (hb12.cell (p := ⟨w.heap.size, 2, none⟩) (by simp)).trans x2
    have HRES := Lib.hid hres
    have HS2 := Lib.hid hs2
    clear hres hs2 hb12 xs xb x0 x1 x2
    go_cut [4] (fun v wx => ∃ (g : Nat) (A : Option Addr) (c : Nat), v = .pointer (some ⟨g, 0, none⟩) ∧ w.heap.size + 2 ≤ g ∧ wx.heap[g]? = some (.cells #[.int .i64 p.n, .slice A1 p.s.length c1, .slice A2 p.o.length c2, .slice A N c] 125 (0, 0)) ∧
      wx.ownsRow (w.heap.size + 2) 137 6 (.slice A N c) N (fl6 (units6 N)) ∧ Below (w.heap.size + 2) w2 wx)
    case first =>
      have HS : (fun x : World => x.cell? ⟨w.heap.size, 0, none⟩ = some (.int .i64 p.n) ∧ x.cell? ⟨w.heap.size, 1, none⟩ = some (.slice A1 p.s.length c1) ∧ x.cell? ⟨w.heap.size, 2, none⟩ = some (.slice A2 p.o.length c2)) w2.drew := ⟨y0, y1, y2⟩
      have HSH := Lib.hid HS
      clear HS
      refine wp_region_T (fun x : World => x.cell? ⟨w.heap.size, 0, none⟩ = some (.int .i64 p.n) ∧ x.cell? ⟨w.heap.size, 1, none⟩ = some (.slice A1 p.s.length c1) ∧ x.cell? ⟨w.heap.size, 2, none⟩ = some (.slice A2 p.o.length c2)) [0, 1, 2, 4] [0, 2] (.lp 1 (.ls 0 (.ls 2 (.hv2 3 (.lp 4 (.hv 5 (.hv 6 (.done)))) 5 (.hv 3 (.lp 4 (.hv 6 (.done)))))))) (by kernel_rfl) (by kernel_rfl) ?_
      (repeat (refine T_lp rfl (fun K hK => ?_); go_simp; refine hK _ ?_; clear hK K))
      refine T_ls1 (v := .agg #[.int .i64 p.n, .slice A1 p.s.length c1, .slice A2 p.o.length c2]) rfl rfl HSH.out (fun x hx => (by obtain ⟨h1, h2, h3⟩ := hx; go_simp)) (fun K hK => ?_)
      (go_simp; refine hK _ ?_; clear hK K)
      refine T_ls1 (v := .int .i64 p.n) rfl rfl HSH.out (fun x hx => (by obtain ⟨h1, h2, h3⟩ := hx; go_simp)) (fun K hK => ?_)
      (go_simp; refine hK _ ?_; clear hK K)
      refine T_hv2 ?_ ?_
      · refine T_hvS rfl (fun K hK => ?_)
        go_simp
        go_at_call 113
        have hIV := inputValues_any N w2.drew (by have := HN.out; omega) (by have := HN.out; omega)
        rw [← HN.out] at hIV
        refine hIV.mono ?_
        rintro e w3 ⟨A3, c3, rfl, hown3, hbel3⟩
        clear hIV
        have hlt2 : w.heap.size < w2.drew.heap.size := by have := HS2.out; simp; omega
        have HS3 : (fun x : World => x.cell? ⟨w.heap.size, 0, none⟩ = some (.int .i64 p.n) ∧ x.cell? ⟨w.heap.size, 1, none⟩ = some (.slice A1 p.s.length c1) ∧ x.cell? ⟨w.heap.size, 2, none⟩ = some (.slice A2 p.o.length c2)) w3 :=
          ⟨(hbel3.cell (p := ⟨w.heap.size, 0, none⟩) hlt2).trans HSH.out.1, (hbel3.cell (p := ⟨w.heap.size, 1, none⟩) hlt2).trans HSH.out.2.1, (hbel3.cell (p := ⟨w.heap.size, 2, none⟩) hlt2).trans HSH.out.2.2⟩
        have HS3H := Lib.hid HS3
        clear HS3
        go_simp
        refine hK _ _ HS3H.out ?_
        clear hK K
        (repeat (refine T_lp rfl (fun K hK => ?_); go_simp; refine hK _ ?_; clear hK K))
        refine T_hvS rfl (fun K hK => ?_)
        go_simp
        refine hK _ _ ⟨cell_kept HS3H.out.1 _, cell_kept HS3H.out.2.1 _, cell_kept HS3H.out.2.2 _⟩ ?_
        clear hK K
        (refine T_hv rfl (by kernel_rfl) (fun K hK => ?_); go_simp; refine hK _ _ ?_; clear hK K)
        refine T_done ?_
        go_wp2
        go_meet
        case rel =>
          have hz : w2.drew.heap.size = w.heap.size + 2 := by have := HS2.out; simp; omega
          rw [hz] at hown3 hbel3
          exact ⟨w3.heap.size, A3, c3, rfl, by have := hbel3.size; rw [hz] at this; omega, heap_alloc_new w3 _, hown3.alloc _, ((Below.refl _ _).drew.trans hbel3).alloc (by have := hbel3.size; rw [hz] at this; omega) _⟩
      · refine T_hvS rfl (fun K hK => ?_)
        go_simp
        refine hK _ _ ⟨cell_kept HSH.out.1 _, cell_kept HSH.out.2.1 _, cell_kept HSH.out.2.2 _⟩ ?_
        clear hK K
        refine T_hvS rfl (fun K hK => ?_)
        go_simp
        go_at_call 113
        generalize hw3 : World.drew (World.alloc w2 _) = w3
        have hg3 : w3.heap[w2.heap.size]? = some (.cells #[.int .i64 0, .slice none 0 0, .slice none 0 0, .slice none 0 0] 125 (0, 0)) := by rw [← hw3]; exact heap_alloc_new w2 _
        have hb23 : Below w2.heap.size w2 w3 := by rw [← hw3]; exact ((Below.refl _ _).alloc (Nat.le_refl _) _).drew
        have hs3 : w3.heap.size = w2.heap.size + 1 := by rw [← hw3]; simp
        clear hw3
        have hIV := inputValues_any N w3 (by have := HN.out; omega) (by have := HN.out; omega)
        rw [← HN.out] at hIV
        refine hIV.mono ?_
        rintro e w4 ⟨A3, c3, rfl, hown3, hbel3⟩
        clear hIV
        have hlt2 : w.heap.size < w2.heap.size := by have := HS2.out; omega
        have hb24 : Below w2.heap.size w2 w4 := hb23.trans (hbel3.mono (by omega))
        have HS3 : (fun x : World => x.cell? ⟨w.heap.size, 0, none⟩ = some (.int .i64 p.n) ∧ x.cell? ⟨w.heap.size, 1, none⟩ = some (.slice A1 p.s.length c1) ∧ x.cell? ⟨w.heap.size, 2, none⟩ = some (.slice A2 p.o.length c2)) w4 :=
          ⟨(hb24.cell (p := ⟨w.heap.size, 0, none⟩) hlt2).trans HSH.out.1, (hb24.cell (p := ⟨w.heap.size, 1, none⟩) hlt2).trans HSH.out.2.1, (hb24.cell (p := ⟨w.heap.size, 2, none⟩) hlt2).trans HSH.out.2.2⟩
        have hg4 : w4.heap[w2.heap.size]? = some (.cells #[.int .i64 0, .slice none 0 0, .slice none 0 0, .slice none 0 0] 125 (0, 0)) := (hbel3.block _ (by omega)).trans hg3
        have HS3H := Lib.hid HS3
        have HG4 := Lib.hid hg4
        have HB24 := Lib.hid hb24
        have HS3S := Lib.hid hs3
        have HO3 := Lib.hid hown3
        have e0 : w4.cell? ⟨w2.heap.size, 0, none⟩ = some (.int .i64 0) := by rw [cell_of_row w4 _ 0 _ _ (0, 0) hg4]; rfl
        have e1 : w4.cell? ⟨w2.heap.size, 1, none⟩ = some (.slice none 0 0) := by rw [cell_of_row w4 _ 1 _ _ (0, 0) hg4]; rfl
        have e2 : w4.cell? ⟨w2.heap.size, 2, none⟩ = some (.slice none 0 0) := by rw [cell_of_row w4 _ 2 _ _ (0, 0) hg4]; rfl
        have e3 : w4.cell? ⟨w2.heap.size, 3, none⟩ = some (.slice none 0 0) := by rw [cell_of_row w4 _ 3 _ _ (0, 0) hg4]; rfl
        have z0 : w4.frozen? ⟨w2.heap.size, 0, none⟩ = false := frozen_of_row w4 _ 0 _ _ hg4
        have z1 : w4.frozen? ⟨w2.heap.size, 1, none⟩ = false := frozen_of_row w4 _ 1 _ _ hg4
        have z2 : w4.frozen? ⟨w2.heap.size, 2, none⟩ = false := frozen_of_row w4 _ 2 _ _ hg4
        have z3 : w4.frozen? ⟨w2.heap.size, 3, none⟩ = false := frozen_of_row w4 _ 3 _ _ hg4
        clear HS3 hg4 hb24 hs3 hg3 hb23 hown3 hbel3
        go_simp
        refine hK _ _ HS3H.out ?_
        clear hK K
        (repeat (refine T_lp rfl (fun K hK => ?_); go_simp; refine hK _ ?_; clear hK K))
        (refine T_hv rfl (by kernel_rfl) (fun K hK => ?_); go_simp; refine hK _ _ ?_; clear hK K)
        refine T_done ?_
        go_wp2
        go_meet
        case rel =>
          have hz : w2.heap.size = w.heap.size + 2 := HS2.out
          have ho := own_base HO3.out (show w.heap.size + 2 ≤ w3.heap.size by have := HS3S.out; omega)
          have h4 := set4 (a' := .int .i64 p.n) (b' := .slice A1 p.s.length c1) (c' := .slice A2 p.o.length c2) (d' := .slice A3 N c3) HG4.out ho (by decide) (HB24.out.mono (show w.heap.size + 2 ≤ w2.heap.size by omega)) (by omega)
          exact ⟨w2.heap.size, A3, c3, rfl, by omega, h4.1, h4.2.1, h4.2.2⟩
    case rest =>
      obtain ⟨g, A3, c3, rfl, hg2, hblk, hown, hbel⟩ := hcut
      have Y0 := Lib.hid y0
      have Y1 := Lib.hid y1
      have Y2 := Lib.hid y2
      have hl0 : w.heap.size < w.heap.size + 2 := by omega
      have v1 := (hbel.cell (p := ⟨w.heap.size, 1, none⟩) hl0).trans y1
      have BLK := Lib.hid hblk
      have OWN := Lib.hid hown
      have BEL := Lib.hid hbel
      clear hblk hown hbel y0 y1 y2
      go_wp2
      clear v1
      go_loopw [36] (fun i wr => ∃ (k : Nat) (rows : List (List Int)) (A : Option Addr) (c : Nat), k ≤ p.s.length ∧ i = .int .i64 k ∧ runI (units6 N) (p.s.take k) = some rows ∧ wr.heap[g]? = some (.cells #[.int .i64 p.n, .slice A1 p.s.length c1, .slice A2 p.o.length c2, .slice A rows.length c] 125 (0, 0)) ∧
        wr.ownsRow (w.heap.size + 2) 137 6 (.slice A rows.length c) rows.length (fl6 rows) ∧ Rng6 rows ∧ Below (w.heap.size + 2) w2 wr) (fun i _ => p.s.length - (intOf i).toNat)
      case atStart =>
        have hu : (units6 N).length = N := by simp [units6]
        exact ⟨0, units6 N, A3, c3, by omega, rfl, rfl, by rw [hu]; exact BLK.out, by rw [hu]; exact OWN.out, rng6_units N, BEL.out⟩
      case round =>
        obtain ⟨k, rows, A, c, hk, rfl, hrun, hblk, hown, hrng, hbel⟩ := hrel
        have hrl : rows.length = N + k := by
          have h := runI_len hrun
          simp [units6] at h
          omega
        have RUN := Lib.hid hrun
        have BLK := Lib.hid hblk
        have OWN := Lib.hid hown
        have RNG := Lib.hid hrng
        have BEL := Lib.hid hbel
        have HRL := Lib.hid hrl
        have hsz2 : w.heap.size + 2 ≤ wr.heap.size := by have := HS2.out; have := hbel.size; omega
        have hgl : g < wr.heap.size := (Array.getElem?_eq_some_iff.1 hblk).1
        have r0 : wr.heap[w.heap.size + 1]? = some (.cells #[.int .i64 0, .slice none 0 0, .slice none 0 0, .slice none 0 0] 125 (0, 0)) := (hbel.block _ (by omega)).trans HRES.out
        have RES0 := Lib.hid r0
        clear hrun hblk hown hrng hrl r0
        by_cases hlt : k < p.s.length
        · have hnlen : N ≤ 6 := by have := HN.out; omega
          obtain ⟨sb, off, rfl, hsb, hc1, hc2⟩ := (((H.out.1.below' (XB.out) hB)).below' hbel (by omega)).stp hlt
          clear hbel
          go_wp2_with fail
          go_at_call 114
          have hM := multiply_any (w.heap.size + 2) g 3 125 _ A c rows (p.s[k]).1 (p.s[k]).2 (wr.alloc (Obj.cells #[.int .i64 (p.s[k]).1, .int .i64 (p.s[k]).2] 68)) hg2
            ((Below.heap_alloc wr _ g hgl).trans BLK.out) (by decide) rfl (OWN.out.alloc _) RNG.out.six RNG.out.rng (by have := HRL.out; omega) (by simp; omega)
          refine hM.mono ?_
          rintro e w5 ⟨hb5, hpost⟩
          clear hM
          have hS1 : w.heap.size + 1 < w.heap.size + 2 := by omega
          have r5 : w5.heap[w.heap.size + 1]? = some (.cells #[.int .i64 0, .slice none 0 0, .slice none 0 0, .slice none 0 0] 125 (0, 0)) :=
            (hb5.block _ hS1).trans ((Below.heap_alloc wr _ _ (by omega)).trans RES0.out)
          cases hm : mulI rows (p.s[k]).1 (p.s[k]).2 with
          | none =>
            rw [hm] at hpost
            simp only at hpost
            subst hpost
            have ev : valsI p = none := by rw [EV.out, runI_none hlt RUN.out hm]
            have EV2 := Lib.hid ev
            have e0 : w5.cell? ⟨w.heap.size + 1, 0, none⟩ = some (.int .i64 0) := by rw [cell_of_row w5 _ 0 _ _ (0, 0) r5]; rfl
            have e1 : w5.cell? ⟨w.heap.size + 1, 1, none⟩ = some (.slice none 0 0) := by rw [cell_of_row w5 _ 1 _ _ (0, 0) r5]; rfl
            have e2 : w5.cell? ⟨w.heap.size + 1, 2, none⟩ = some (.slice none 0 0) := by rw [cell_of_row w5 _ 2 _ _ (0, 0) r5]; rfl
            have e3 : w5.cell? ⟨w.heap.size + 1, 3, none⟩ = some (.slice none 0 0) := by rw [cell_of_row w5 _ 3 _ _ (0, 0) r5]; rfl
            have z0 : w5.frozen? ⟨w.heap.size + 1, 0, none⟩ = false := frozen_of_row w5 _ 0 _ _ r5
            have z1 : w5.frozen? ⟨w.heap.size + 1, 1, none⟩ = false := frozen_of_row w5 _ 1 _ _ r5
            have z2 : w5.frozen? ⟨w.heap.size + 1, 2, none⟩ = false := frozen_of_row w5 _ 2 _ _ r5
            have z3 : w5.frozen? ⟨w.heap.size + 1, 3, none⟩ = false := frozen_of_row w5 _ 3 _ _ r5
            have HB5 := Lib.hid hb5
            clear ev hm r5 hb5
            go_wp2
            refine bodyPost_ret (v := .tuple #[.agg #[.int .i64 0, .slice none 0 0, .slice none 0 0, .slice none 0 0], .bool false]) (by simp [results, Try.results110, go_sem, e0, e1, e2, e3]) rfl (wvPost_none EV2.out ?_)
            have hb := XB.out.trans ((BEL.out.mono (show w.heap.size ≤ w.heap.size + 2 by omega)).trans (((Below.refl _ _).alloc (by omega) _).trans (HB5.out.mono (show w.heap.size ≤ w.heap.size + 2 by omega))))
            exact (((hb.setCell (by simp) _).setCell (by simp) _).setCell (by simp) _).setCell (by simp) _
          | some v =>
            rw [hm] at hpost
            simp only at hpost
            obtain ⟨rfl, A5, c5, hblk5, hown5⟩ := hpost
            have hv := mulI_ok hm RNG.out
            have HM := Lib.hid hm
            have HV := Lib.hid hv
            have HB5 := Lib.hid hb5
            have BLK5 := Lib.hid hblk5
            have OWN5 := Lib.hid hown5
            clear hm hv hb5 hblk5 hown5 r5
            go_wp2
            go_roundw
            case rel =>
              refine ⟨k + 1, rows ++ [v], A5, c5, by omega, by go_num, runI_some hlt RUN.out HM.out, ?_, ?_, rng6_app RNG.out HV.out, (BEL.out.alloc hsz2 _).trans HB5.out⟩
              · have := BLK5.out
                rw [this]
                simp
              · have := OWN5.out
                simpa using this
            case measure => simp [intOf]; omega
        · have hk' : k = p.s.length := by omega
          have hrun2 : runI (units6 N) p.s = some rows := by
            have := RUN.out
            rwa [List.take_of_length_le (by omega)] at this
          have RUN2 := Lib.hid hrun2
          have hcell3 : wr.cell? ⟨g, 3, none⟩ = some (.slice A rows.length c) := by rw [cell_of_row wr g 3 _ _ (0, 0) BLK.out]; rfl
          have v2 := (hbel.cell (p := ⟨w.heap.size, 2, none⟩) hl0).trans Y2.out
          have e0 : wr.cell? ⟨w.heap.size + 1, 0, none⟩ = some (.int .i64 0) := by rw [cell_of_row wr _ 0 _ _ (0, 0) RES0.out]; rfl
          have e1 : wr.cell? ⟨w.heap.size + 1, 1, none⟩ = some (.slice none 0 0) := by rw [cell_of_row wr _ 1 _ _ (0, 0) RES0.out]; rfl
          have e2 : wr.cell? ⟨w.heap.size + 1, 2, none⟩ = some (.slice none 0 0) := by rw [cell_of_row wr _ 2 _ _ (0, 0) RES0.out]; rfl
          have e3 : wr.cell? ⟨w.heap.size + 1, 3, none⟩ = some (.slice none 0 0) := by rw [cell_of_row wr _ 3 _ _ (0, 0) RES0.out]; rfl
          have z0 : wr.frozen? ⟨w.heap.size + 1, 0, none⟩ = false := frozen_of_row wr _ 0 _ _ RES0.out
          have z1 : wr.frozen? ⟨w.heap.size + 1, 1, none⟩ = false := frozen_of_row wr _ 1 _ _ RES0.out
          have z2 : wr.frozen? ⟨w.heap.size + 1, 2, none⟩ = false := frozen_of_row wr _ 2 _ _ RES0.out
          have z3 : wr.frozen? ⟨w.heap.size + 1, 3, none⟩ = false := frozen_of_row wr _ 3 _ _ RES0.out
          have hro := ((H.out.2.below' XB.out hB).below' hbel (show B ≤ w.heap.size + 2 by omega))
          have HRO := Lib.hid hro
          have hb := XB.out.trans (BEL.out.mono (show w.heap.size ≤ w.heap.size + 2 by omega))
          have HB := Lib.hid hb
          clear hrun2 hk' hbel hro hb
          obtain ⟨ha, hha⟩ : ∃ x, hasAllB p.o rows.length = x := ⟨_, rfl⟩
          cases ha with
          | false =>
            have ev : valsI p = none := by rw [EV.out, RUN2.out]; simp [hha]
            have EV2 := Lib.hid ev
            clear ev
            go_wp2_with (go_at_call 115; refine (hasAll_any B g 3 rows.length c A A2 c2 p.o _ hcell3 (by omega) HRO.out).mono ?_; rintro e w' ⟨rfl, rfl⟩)
            refine bodyPost_ret (v := .tuple #[.agg #[.int .i64 0, .slice none 0 0, .slice none 0 0, .slice none 0 0], .bool false]) (by simp [results, Try.results110, go_sem, e0, e1, e2, e3]) rfl (wvPost_none EV2.out ?_)
            exact (((HB.out.setCell (by simp) _).setCell (by simp) _).setCell (by simp) _).setCell (by simp) _
          | true =>
            have ev : valsI p = some rows := by rw [EV.out, RUN2.out]; simp [hha]
            have EV2 := Lib.hid ev
            have hg0 : wr.cell? ⟨g, 0, none⟩ = some (.int .i64 p.n) := by rw [cell_of_row wr g 0 _ _ (0, 0) BLK.out]; rfl
            have hg1 : wr.cell? ⟨g, 1, none⟩ = some (.slice A1 p.s.length c1) := by rw [cell_of_row wr g 1 _ _ (0, 0) BLK.out]; rfl
            have hg22 : wr.cell? ⟨g, 2, none⟩ = some (.slice A2 p.o.length c2) := by rw [cell_of_row wr g 2 _ _ (0, 0) BLK.out]; rfl
            clear ev
            go_wp2_with (go_at_call 115; refine (hasAll_any B g 3 rows.length c A A2 c2 p.o _ hcell3 (by omega) HRO.out).mono ?_; rintro e w' ⟨rfl, rfl⟩)
            have h4 := set4 (a' := .int .i64 p.n) (b' := .slice A1 p.s.length c1) (c' := .slice A2 p.o.length c2) (d' := .slice A rows.length c) RES0.out (own_base OWN.out (show w.heap.size ≤ w.heap.size + 2 by omega)) (by decide) HB.out (by omega)
            refine bodyPost_ret (v := .tuple #[.agg #[.int .i64 p.n, .slice A1 p.s.length c1, .slice A2 p.o.length c2, .slice A rows.length c], .bool true]) (by simp [results, Try.results110, go_sem, e0, e1, e2, e3]) rfl ⟨h4.2.2, ?_⟩
            rw [EV2.out]
            exact ⟨A, c, rfl, h4.2.1⟩
end Go.Proofs.Ytodjnafalbbmjaa
/- The program's values of a plan are the model's exponents, and both take the same plans as valid. -/
namespace Go.Proofs.Ytodjnafalbbmjaa
open Go.RowKit

def pad (n : Nat) (r : List Int) : List Int := r ++ List.replicate (6 - n) (0 : Int)

theorem units6_pad {n : Nat} (h : n ≤ 6) : units6 n = (units n).map (pad n) := by
  have hn : n = 0 ∨ n = 1 ∨ n = 2 ∨ n = 3 ∨ n = 4 ∨ n = 5 ∨ n = 6 := by omega
  rcases hn with rfl | rfl | rfl | rfl | rfl | rfl | rfl <;> decide

theorem zip_pad {n : Nat} {a b : List Int} (ha : a.length = n) (hb : b.length = n) : List.zipWith (· + ·) (pad n a) (pad n b) = pad n (List.zipWith (· + ·) a b) := by
  unfold pad
  rw [List.zipWith_append (by omega)]
  simp
theorem allB_pad (n : Nat) (r : List Int) : allB (pad n r) 0 1000000 = allB r 0 1000000 := by
  unfold allB pad
  rw [List.all_append]
  have : (List.replicate (6 - n) (0 : Int)).all (fun n => inB n 0 1000000) = true := by
    rw [List.all_eq_true]
    intro x hx
    have := List.eq_of_mem_replicate hx
    subst this
    rfl
  rw [this, Bool.and_true]
theorem sum_le : ∀ (a b : List Int), (∀ x ∈ a, 0 ≤ x) → (∀ x ∈ b, 0 ≤ x) → allB (List.zipWith (· + ·) a b) 0 1000000 = allB (sumL a b) 0 1000000 ∧ (allB (sumL a b) 0 1000000 = true → List.zipWith (· + ·) a b = sumL a b)
  | [], b, _, _ => by simp [sumL]
  | a :: ar, [], _, _ => by simp [sumL]
  | a :: ar, b :: br, ha, hb => by
    obtain ⟨h1, h2⟩ := sum_le ar br (fun x hx => ha x (by simp [hx])) (fun x hx => hb x (by simp [hx]))
    have h3 := ha a (by simp)
    have h4 := hb b (by simp)
    have e1 : List.zipWith (· + ·) (a :: ar) (b :: br) = (a + b) :: List.zipWith (· + ·) ar br := rfl
    have e2 : sumL (a :: ar) (b :: br) = leastI (a + b) 1000001 :: sumL ar br := rfl
    have e3 : ∀ (x : Int) (l : List Int), allB (x :: l) 0 1000000 = (inB x 0 1000000 && allB l 0 1000000) := fun x l => rfl
    rw [e1, e2, e3, e3, h1]
    have e4 : inB (a + b) 0 1000000 = inB (leastI (a + b) 1000001) 0 1000000 := by
      by_cases hc : a + b < 1000001
      · simp [leastI, hc]
      · have e5 : leastI (a + b) 1000001 = 1000001 := by simp [leastI, hc]
        rw [e5, Bool.eq_iff_iff]
        simp only [inB, Bool.and_eq_true, decide_eq_true_eq]
        omega
    refine ⟨by rw [e4], fun h => ?_⟩
    rw [Bool.and_eq_true] at h
    rw [h2 h.2]
    have : leastI (a + b) 1000001 = a + b := by
      have h5 := h.1
      by_cases hc : a + b < 1000001
      · simp [leastI, hc]
      · have e5 : leastI (a + b) 1000001 = 1000001 := by simp [leastI, hc]
        rw [e5] at h5
        simp [inB] at h5
    rw [this]

theorem mulI_pad {n : Nat} {E : List (List Int)} (hE : OkR n E) (k : Nat) (hl : E.length = n + k) (a b : Int) :
    mulI (E.map (pad n)) a b = if stepOk n k (a, b) && allB (sumL (E.getD a.toNat []) (E.getD b.toNat [])) 0 1000000 then some (pad n (sumL (E.getD a.toNat []) (E.getD b.toNat []))) else none := by
  unfold mulI
  rw [List.length_map, hl]
  by_cases hs : stepOk n k (a, b) = true
  · have hc : (decide (a ≤ b) && (hasB a (n + k) && hasB b (n + k))) = true := by
      simp only [stepOk, inB, hasB, Bool.and_eq_true, decide_eq_true_eq] at hs ⊢
      omega
    have hs2 := hs
    simp only [stepOk, inB, Bool.and_eq_true, decide_eq_true_eq] at hs2
    have la : a.toNat < E.length := by omega
    have lb : b.toNat < E.length := by omega
    have ea : (E.map (pad n)).getD a.toNat [] = pad n (E.getD a.toNat []) := by simp [la]
    have eb : (E.map (pad n)).getD b.toNat [] = pad n (E.getD b.toNat []) := by simp [lb]
    obtain ⟨ra, ra2⟩ := getD_ok hE la
    obtain ⟨rb, rb2⟩ := getD_ok hE lb
    rw [if_pos hc, hs, Bool.true_and, ea, eb]
    simp only [zip_pad ra rb, allB_pad]
    obtain ⟨h1, h2⟩ := sum_le (E.getD a.toNat []) (E.getD b.toNat []) (fun x hx => (ra2 x hx).1) (fun x hx => (rb2 x hx).1)
    rw [h1]
    by_cases h3 : allB (sumL (E.getD a.toNat []) (E.getD b.toNat [])) 0 1000000 = true
    · rw [if_pos h3, if_pos h3, h2 h3]
    · rw [if_neg h3, if_neg h3]
  · have hc : ¬ (decide (a ≤ b) && (hasB a (n + k) && hasB b (n + k))) = true := by
      simp only [stepOk, inB, hasB, Bool.and_eq_true, decide_eq_true_eq] at hs ⊢
      omega
    rw [if_neg hc]
    simp only [Bool.not_eq_true] at hs
    rw [hs]
    simp

theorem units_expsB (n : Nat) : expsB (units n) = true := by
  unfold expsB
  rw [List.all_eq_true]
  intro r hr
  have h := (units_ok n r hr)
  simp only [units, List.mem_map, List.mem_range] at hr
  obtain ⟨i, hi, rfl⟩ := hr
  unfold allB
  rw [List.all_eq_true]
  intro x hx
  rcases List.mem_or_eq_of_mem_set hx with h | h
  · have := List.eq_of_mem_replicate h; subst this; rfl
  · subst h; rfl

theorem okPre_take {n : Nat} {s : List (Int × Int)} {k : Nat} (hk : k ≤ s.length) (h : okPre n s k = true) : OkS n (s.take k) := by
  intro i hi
  have hi' : i < k := by simp at hi; omega
  unfold okPre at h
  rw [List.all_eq_true] at h
  have := h i (by simpa using hi')
  have hil : i < s.length := by omega
  simp [hil, stepOk, inB] at this
  rw [List.getElem_take]
  omega

theorem runI_eq {n : Nat} (hn : n ≤ 6) (s : List (Int × Int)) : ∀ k, k ≤ s.length →
    runI (units6 n) (s.take k) = if okPre n s k && expsB (exps n (s.take k)) then some ((exps n (s.take k)).map (pad n)) else none := by
  intro k
  induction k with
  | zero =>
    intro _
    have h1 : okPre n s 0 = true := rfl
    have h2 : exps n (s.take 0) = units n := rfl
    rw [h1, h2, units_expsB]
    simp [runI, units6_pad hn]
  | succ k ih =>
    intro hk
    have hlt : k < s.length := by omega
    have ih := ih (by omega)
    rw [List.take_succ_eq_append_getElem hlt, runI_append, ih]
    rw [← List.take_succ_eq_append_getElem hlt, exps_take n hlt, okPre_succ _ _ _ hlt]
    have eB : expsB (expStep (exps n (s.take k)) s[k]) = (expsB (exps n (s.take k)) && allB (sumL ((exps n (s.take k)).getD (s[k]).1.toNat []) ((exps n (s.take k)).getD (s[k]).2.toNat [])) 0 1000000) := by
      unfold expsB expStep
      rw [List.all_append]
      simp
    rw [eB]
    by_cases hp : okPre n s k = true
    · by_cases hq : expsB (exps n (s.take k)) = true
      · rw [hp, hq]
        simp only [Bool.and_self, if_true, Option.bind_some, Bool.true_and]
        have hokr : OkR n (exps n (s.take k)) := by
          have h := exps_ok (okPre_take (by omega) hp) (s.take k).length (Nat.le_refl _)
          rwa [List.take_of_length_le (Nat.le_refl _)] at h
        have hl : (exps n (s.take k)).length = n + k := by rw [exps_length]; simp; omega
        simp only [runI]
        rw [mulI_pad hokr k hl]
        have es : stepOk n k (s[k].1, s[k].2) = stepOk n k s[k] := rfl
        rw [es]
        split <;> rename_i hx
        · split at hx
          · cases hx
          · rename_i hc
            rw [if_neg hc]
        · split at hx
          · rename_i hc
            rw [if_pos hc]
            injection hx with hx
            subst hx
            simp [expStep]
          · cases hx
      · simp only [Bool.not_eq_true] at hq
        rw [hq]
        simp
    · simp only [Bool.not_eq_true] at hp
      rw [hp]
      simp

theorem hasAllB_eq (l : List Int) (m : Nat) : hasAllB l m = allB l 0 ((m : Int) - 1) := by
  unfold hasAllB allB
  congr 1
  funext x
  rw [Bool.eq_iff_iff]
  simp only [hasB, inB, Bool.and_eq_true, decide_eq_true_eq]
  omega

theorem valsI_eq (p : Pl) : valsI p = if good p then some ((exps p.n.toNat p.s).map (pad p.n.toNat)) else none := by
  unfold valsI good
  by_cases h1 : inB p.n 1 6 = true
  · by_cases h2 : p.s.length ≤ 40
    · by_cases h3 : p.o.length ≤ 6
      · obtain ⟨n1, n2⟩ : 1 ≤ p.n ∧ p.n ≤ 6 := by simpa [inB] using h1
        obtain ⟨N, hN⟩ : ∃ N : Nat, p.n = N := ⟨p.n.toNat, by omega⟩
        have hn : p.n.toNat = N := by omega
        have hr := runI_eq (n := N) (by omega) p.s p.s.length (Nat.le_refl _)
        rw [List.take_of_length_le (Nat.le_refl _)] at hr
        rw [hn, hr, h1]
        simp only [h2, h3, decide_true, Bool.and_self, Bool.true_and, if_true]
        rw [hN]
        by_cases h4 : (okPre N p.s p.s.length && expsB (exps N p.s)) = true
        · rw [if_pos h4]
          simp only [List.length_map]
          rw [exps_length, hasAllB_eq]
          have e : ((N + p.s.length : Nat) : Int) - 1 = (N : Int) + p.s.length - 1 := by omega
          rw [e]
          rw [Bool.and_eq_true] at h4
          rw [h4.1, h4.2, Bool.true_and, Bool.true_and]
        · rw [if_neg h4]
          simp only
          rw [← Bool.and_assoc]
          simp only [Bool.not_eq_true] at h4
          rw [h4]
          simp
      · simp [h3]
    · simp [h2]
  · simp only [Bool.not_eq_true] at h1
    simp [h1]
end Go.Proofs.Ytodjnafalbbmjaa
/- The laws' own helpers: comparison of plans. -/
namespace Go.Proofs.Ytodjnafalbbmjaa
open Go.RowKit

set_option maxHeartbeats 400000 in
theorem eqStep_any (a b c d : Int) (w : World) :
    Calls Try.prog 65 #[.agg #[.int .i64 a, .int .i64 b], .agg #[.int .i64 c, .int .i64 d]] w fun e w' => e = .returned (.bool (decide ((a, b) = (c, d)))) ∧ Below w.heap.size w w' := by
  have hb : ∀ o o', Below w.heap.size w ((w.alloc o).alloc o') := fun o o' => ((Below.refl _ _).alloc (Nat.le_refl _) _).alloc (by simp) _
  have HB := Lib.hid hb
  clear hb
  by_cases h1 : a = c
  · by_cases h2 : b = d
    · subst h1
      subst h2
      go_enter Try.func65, Try.ntmps65
      go_wp2
      go_ret
      exact ⟨ret_bool (by simp), HB.out _ _⟩
    · have e : decide ((a, b) = (c, d)) = false := by simp [h2]
      have E := Lib.hid e
      have hne : (b != d) = true := by simpa using h2
      subst h1
      clear e h2
      go_enter Try.func65, Try.ntmps65
      go_wp2
      go_ret
      exact ⟨ret_bool E.out.symm, HB.out _ _⟩
  · have e : decide ((a, b) = (c, d)) = false := by simp [h1]
    have E := Lib.hid e
    have hne : (a != c) = true := by simpa using h1
    clear e h1
    go_enter Try.func65, Try.ntmps65
    go_wp2
    go_ret
    exact ⟨ret_bool E.out.symm, HB.out _ _⟩

set_option maxHeartbeats 400000 in
theorem eqIntS_any (B B' : Nat) (A A' : Option Addr) (c c' : Nat) (a b : List Int) (w : World) (hm : a.length ≤ 4000000) (_hm' : b.length ≤ 4000000) (hr : Rd w B 1 A a.length (a.map I)) (hr' : Rd w B' 1 A' b.length (b.map I)) :
    Calls Try.prog 15 #[.slice A a.length c, .slice A' b.length c'] w fun e w' => e = .returned (.bool (eqI a b)) ∧ Dr w w' := by
  have H := Lib.hid hr
  have H' := Lib.hid hr'
  clear hr hr'
  by_cases hl : a.length = b.length
  · have hlb : ((a.length : Int) == (b.length : Int)) = true := by simp [hl]
    have L := Lib.hid hl
    clear hl
    go_enter Try.func15, Try.ntmps15
    go_wp2
    go_loopw [5] (fun i wr => ∃ k n : Nat, k ≤ a.length ∧ i = .int .i64 k ∧ a.take k = b.take k ∧ wr = w.drewN n) (fun i _ => a.length - (intOf i).toNat)
    case atStart => exact ⟨0, 0, by omega, rfl, rfl, rfl⟩
    case round =>
      obtain ⟨k, n, hk, rfl, hq, rfl⟩ := hrel
      have Q := Lib.hid hq
      clear hq
      by_cases hlt : k < a.length
      · have hlt' : k < b.length := by have := L.out; omega
        obtain ⟨b1, off, rfl, hb, hcell⟩ := H.out.int hlt
        obtain ⟨b2, off2, rfl, hb2, hcell2⟩ := H'.out.int hlt'
        have i1 : (k : Int) < (a.length : Int) := by omega
        have i2 : (k : Int) < (b.length : Int) := by omega
        have i0 : (0 : Int) ≤ (k : Int) := by omega
        go_wp2
        go_quiet (fail)
        go_wp2
        · go_ret
          exact ⟨ret_bool (eqI_miss hlt hlt' (by assumption)).symm, Dr.mk2 _ _ _⟩
        · have he : (a[k] != b[k]) = false := by assumption
          go_roundw
          case rel => exact ⟨k + 1, _, by omega, by go_num, same_take hlt hlt' Q.out (by simpa using he), rfl⟩
          case measure => simp [intOf]; omega
      · go_wp2
        go_ret
        exact ⟨ret_bool (eqI_end L.out hlt Q.out).symm, Dr.mk _ _⟩
  · have hlb : ((a.length : Int) != (b.length : Int)) = true := by rw [bne_iff_ne]; omega
    have L := Lib.hid hl
    clear hl
    go_enter Try.func15, Try.ntmps15
    go_wp2
    go_ret
    exact ⟨ret_bool (eqI_len L.out).symm, Dr.refl _⟩

set_option maxRecDepth 100000 in
set_option maxHeartbeats 1000000 in
theorem eqStepS_any (B B' : Nat) (A A' : Option Addr) (c c' : Nat) (a b : List (Int × Int)) (w : World) (hm : a.length ≤ 4000000) (_hm' : b.length ≤ 4000000) (hB : B ≤ w.heap.size) (hB' : B' ≤ w.heap.size) (hr : Rd w B 2 A a.length (fl a)) (hr' : Rd w B' 2 A' b.length (fl b)) :
    Calls Try.prog 48 #[.slice A a.length c, .slice A' b.length c'] w fun e w' => e = .returned (.bool (decide (a = b))) ∧ Below w.heap.size w w' := by
  have H := Lib.hid hr
  have H' := Lib.hid hr'
  clear hr hr'
  by_cases hl : a.length = b.length
  · have hlb : ((a.length : Int) != (b.length : Int)) = false := by simp [hl]
    have L := Lib.hid hl
    clear hl
    go_enter Try.func48, Try.ntmps48
    go_wp2
    go_loopw [5] (fun i wr => ∃ k : Nat, k ≤ a.length ∧ i = .int .i64 k ∧ a.take k = b.take k ∧ Below w.heap.size w wr) (fun i _ => a.length - (intOf i).toNat)
    case atStart => exact ⟨0, by omega, rfl, rfl, Below.refl _ _⟩
    case round =>
      obtain ⟨k, hk, rfl, hq, hbel⟩ := hrel
      have Q := Lib.hid hq
      clear hq
      by_cases hlt : k < a.length
      · have hlt' : k < b.length := by have := L.out; omega
        obtain ⟨b1, off, rfl, hb, hc1, hc2⟩ := (H.out.below' hbel hB).stp hlt
        obtain ⟨b2, off2, rfl, hb2, hd1, hd2⟩ := (H'.out.below' hbel hB').stp hlt'
        have i1 : (k : Int) < (a.length : Int) := by omega
        have i2 : (k : Int) < (b.length : Int) := by omega
        have i0 : (0 : Int) ≤ (k : Int) := by omega
        have BEL := Lib.hid hbel
        clear hbel
        obtain ⟨q, hq⟩ : ∃ q, decide (((a[k]).1, (a[k]).2) = ((b[k]).1, (b[k]).2)) = q := ⟨_, rfl⟩
        cases q with
        | true =>
          have QQ := Lib.hid hq
          clear hq
          go_wp2
          refine wp_region_Tw [0, 1, 2, 3, 4, 5, 6, 7, 9] [3, 7] (.lp 0 (.lp 1 (.lp 2 (.lp 4 (.lp 5 (.lp 6 (.ls 3 (.ls 7 (.hv 8 (.lp 9 (.done))))))))))) (by kernel_rfl) (by kernel_rfl) ?_
          (repeat (first | (refine T_lp rfl (fun K hK => ?_); go_simp; refine hK _ ?_; clear hK K) | (refine T_ls rfl rfl (fun K hK => ?_); go_simp; refine hK _ ?_; clear hK K)))
          (refine T_hv rfl (by kernel_rfl) (fun K hK => ?_); go_simp)
          go_at_call 65
          have hE := eqStep_any (a[k]).1 (a[k]).2 (b[k]).1 (b[k]).2 wr.drew
          rw [QQ.out] at hE
          refine hE.mono ?_
          rintro e w5 ⟨rfl, hb5⟩
          clear hE
          (go_simp; refine hK _ _ ?_; clear hK K)
          (repeat (first | (refine T_lp rfl (fun K hK => ?_); go_simp; refine hK _ ?_; clear hK K) | (refine T_ls rfl rfl (fun K hK => ?_); go_simp; refine hK _ ?_; clear hK K)))
          refine T_done ?_
          go_wp2
          go_roundw
          case rel =>
            refine ⟨k + 1, by omega, by go_num, ?_, BEL.out.drew.trans (hb5.mono (by have := BEL.out.size; simpa using this))⟩
            rw [List.take_succ_eq_append_getElem hlt, List.take_succ_eq_append_getElem hlt', Q.out]
            have := QQ.out
            simp only [decide_eq_true_eq] at this
            rw [show a[k] = b[k] from this]
          case measure => simp [intOf]; omega
        | false =>
          have QQ := Lib.hid hq
          clear hq
          go_wp2
          refine wp_region_Tw [0, 1, 2, 3, 4, 5, 6, 7, 9] [3, 7] (.lp 0 (.lp 1 (.lp 2 (.lp 4 (.lp 5 (.lp 6 (.ls 3 (.ls 7 (.hv 8 (.lp 9 (.done))))))))))) (by kernel_rfl) (by kernel_rfl) ?_
          (repeat (first | (refine T_lp rfl (fun K hK => ?_); go_simp; refine hK _ ?_; clear hK K) | (refine T_ls rfl rfl (fun K hK => ?_); go_simp; refine hK _ ?_; clear hK K)))
          (refine T_hv rfl (by kernel_rfl) (fun K hK => ?_); go_simp)
          go_at_call 65
          have hE := eqStep_any (a[k]).1 (a[k]).2 (b[k]).1 (b[k]).2 wr.drew
          rw [QQ.out] at hE
          refine hE.mono ?_
          rintro e w5 ⟨rfl, hb5⟩
          clear hE
          (go_simp; refine hK _ _ ?_; clear hK K)
          (repeat (first | (refine T_lp rfl (fun K hK => ?_); go_simp; refine hK _ ?_; clear hK K) | (refine T_ls rfl rfl (fun K hK => ?_); go_simp; refine hK _ ?_; clear hK K)))
          refine T_done ?_
          go_wp2
          go_ret
          refine ⟨ret_bool ?_, BEL.out.drew.trans (hb5.mono (by have := BEL.out.size; simpa using this))⟩
          symm
          rw [decide_eq_false_iff_not]
          intro e
          subst e
          have := QQ.out
          simp at this
      · go_wp2
        go_ret
        refine ⟨ret_bool ?_, hbel⟩
        have h := Q.out
        have h2 := L.out
        rw [List.take_of_length_le (by omega), List.take_of_length_le (by omega)] at h
        simp [h]
  · have hlb : ((a.length : Int) != (b.length : Int)) = true := by rw [bne_iff_ne]; omega
    have L := Lib.hid hl
    clear hl
    go_enter Try.func48, Try.ntmps48
    go_wp2
    go_ret
    refine ⟨ret_bool ?_, Below.refl _ _⟩
    symm
    rw [decide_eq_false_iff_not]
    intro e
    exact L.out (by rw [e])

def eqP (p q : Pl) : Bool := decide (p.n = q.n) && (decide (p.s = q.s) && decide (p.o = q.o))

set_option maxRecDepth 100000 in
set_option maxHeartbeats 1000000 in
theorem eqPlan_any (B B' : Nat) (A1 A2 A3 A4 : Option Addr) (c1 c2 c3 c4 : Nat) (p q : Pl) (w : World) (h1 : p.s.length ≤ 4000000) (h2 : p.o.length ≤ 4000000) (h3 : q.s.length ≤ 4000000) (h4 : q.o.length ≤ 4000000)
    (hB : B ≤ w.heap.size) (hB' : B' ≤ w.heap.size) (hr : RdP w B A1 A2 p) (hr' : RdP w B' A3 A4 q) :
    Calls Try.prog 22 #[.agg #[.int .i64 p.n, .slice A1 p.s.length c1, .slice A2 p.o.length c2], .agg #[.int .i64 q.n, .slice A3 q.s.length c3, .slice A4 q.o.length c4]] w fun e w' =>
      e = .returned (.bool (eqP p q)) ∧ Below w.heap.size w w' := by
  have H := Lib.hid hr
  have H' := Lib.hid hr'
  clear hr hr'
  by_cases hn : p.n = q.n
  case neg =>
    have e : eqP p q = false := by simp [eqP, hn]
    have E := Lib.hid e
    have hne : (p.n != q.n) = true := by simpa using hn
    clear e hn
    go_enter Try.func22, Try.ntmps22
    go_wp2
    go_ret
    exact ⟨ret_bool E.out.symm, ((Below.refl _ _).alloc (Nat.le_refl _) _).alloc (by simp) _⟩
  case pos =>
  have hne : (p.n != q.n) = false := by simpa using hn
  obtain ⟨x, hx⟩ : ∃ x, decide (p.s = q.s) = x := ⟨_, rfl⟩
  obtain ⟨y, hy⟩ : ∃ y, eqI p.o q.o = y := ⟨_, rfl⟩
  have e : eqP p q = (x && y) := by
    have hy' : decide (p.o = q.o) = y := hy
    simp [eqP, hn, hx, hy']
  have E := Lib.hid e
  have HX := Lib.hid hx
  have HY := Lib.hid hy
  clear e hx hy hn
  go_enter Try.func22, Try.ntmps22
  go_wp2_with fail
  go_at_call 48
  generalize hw3 : World.alloc (World.alloc w _) _ = w3
  have f0 : w3.cell? ⟨w.heap.size, 2, none⟩ = some (.slice A2 p.o.length c2) := by
    rw [← hw3, World.cell?_alloc_lt _ _ _ (by simp), World.cell?_alloc_at _ _ _ _ rfl]; rfl
  have f1 : w3.cell? ⟨w.heap.size + 1, 2, none⟩ = some (.slice A4 q.o.length c4) := by
    rw [← hw3, World.cell?_alloc_at _ _ _ _ (by simp)]; rfl
  have hb3 : Below w.heap.size w w3 := by rw [← hw3]; exact ((Below.refl _ _).alloc (Nat.le_refl _) _).alloc (by simp) _
  have hs3 : w3.heap.size = w.heap.size + 2 := by rw [← hw3]; simp
  clear hw3
  have hE := eqStepS_any B B' A1 A3 c1 c3 p.s q.s w3 h1 h3 (by omega) (by omega) (H.out.below' hb3 hB).1 (H'.out.below' hb3 hB').1
  rw [HX.out] at hE
  refine hE.mono ?_
  rintro e w4 ⟨rfl, hb4⟩
  clear hE
  have g0 := (hb4.cell (p := ⟨w.heap.size, 2, none⟩) (by simp only []; omega)).trans f0
  have g1 := (hb4.cell (p := ⟨w.heap.size + 1, 2, none⟩) (by simp only []; omega)).trans f1
  have hb := hb3.trans (hb4.mono (show w.heap.size ≤ w3.heap.size by omega))
  have HB := Lib.hid hb
  clear f0 f1 hb3 hs3 hb4 hb
  cases x with
  | false =>
    go_wp2
    go_ret
    exact ⟨ret_bool E.out.symm, HB.out⟩
  | true =>
    go_wp2_with fail
    go_at_call 15
    have hE := eqIntS_any B B' A2 A4 c2 c4 p.o q.o w4 h2 h4 (H.out.below' HB.out hB).2 (H'.out.below' HB.out hB').2
    rw [HY.out] at hE
    refine hE.mono ?_
    rintro e w5 ⟨rfl, hd⟩
    clear hE
    have HB5 := Lib.hid (HB.out.trans (hd.below _))
    clear hd
    cases y with
    | false =>
      go_wp2
      go_ret
      exact ⟨ret_bool E.out.symm, HB5.out⟩
    | true =>
      go_wp2
      go_ret
      exact ⟨ret_bool E.out.symm, HB5.out⟩
end Go.Proofs.Ytodjnafalbbmjaa
/- What both sides answer to IsPlan. -/
namespace Go.Proofs.Ytodjnafalbbmjaa
open Go.RowKit

set_option maxHeartbeats 400000 in
theorem implIsPlan_any (B : Nat) (A1 A2 : Option Addr) (c1 c2 : Nat) (p : Pl) (w : World) (hB : B ≤ w.heap.size) (hls : p.s.length ≤ 2000000) (hlo : p.o.length ≤ 2000000) (hr : RdP w B A1 A2 p) :
    Calls Try.prog 135 #[.agg #[.int .i64 p.n, .slice A1 p.s.length c1, .slice A2 p.o.length c2]] w fun e w' => e = .returned (.bool (good p)) ∧ Below w.heap.size w w' := by
  have H := Lib.hid hr
  clear hr
  go_enter Try.func135, Try.ntmps135
  go_wp2_with fail
  go_at_call 110
  refine (withValues_any B A1 A2 c1 c2 p _ (by simp; omega) hls hlo (H.out.alloc hB _)).mono ?_
  rintro e w2 ⟨hb2, hpost⟩
  have hb := ((Below.refl w.heap.size w).alloc (Nat.le_refl _) (Obj.cells #[.int .i64 p.n, .slice A1 p.s.length c1, .slice A2 p.o.length c2] 33)).trans (hb2.mono (by simp))
  have HB := Lib.hid hb
  clear hb hb2
  rw [valsI_eq] at hpost
  by_cases hg : good p = true
  · rw [if_pos hg] at hpost
    simp only at hpost
    obtain ⟨A, c, rfl, _⟩ := hpost
    have HG := Lib.hid hg
    clear hg
    go_wp2
    go_ret
    exact ⟨ret_bool HG.out.symm, HB.out.alloc (by have := HB.out.size; omega) _⟩
  · rw [if_neg hg] at hpost
    simp only at hpost
    subst hpost
    have hg' : good p = false := by simpa using hg
    have HG := Lib.hid hg'
    clear hg hg'
    go_wp2
    go_ret
    exact ⟨ret_bool HG.out.symm, HB.out.alloc (by have := HB.out.size; omega) _⟩

theorem eqP_refl (p : Pl) : eqP p p = true := by simp [eqP]

end Go.Proofs.Ytodjnafalbbmjaa
/- What is known of a valid plan. -/
namespace Go.Proofs.Ytodjnafalbbmjaa
open Go.RowKit

theorem good_facts {p : Pl} (h : good p = true) : ∃ N : Nat, p.n = N ∧ 1 ≤ N ∧ N ≤ 6 ∧ p.s.length ≤ 40 ∧ p.o.length ≤ 6 ∧ OkS N p.s ∧ (∀ x ∈ p.o, 0 ≤ x ∧ x < (N : Int) + p.s.length) ∧ expsB (exps N p.s) = true := by
  unfold good at h
  simp only [Bool.and_eq_true, decide_eq_true_eq] at h
  obtain ⟨h1, h2, h3, h4, h5, h6⟩ := h
  obtain ⟨n1, n2⟩ : 1 ≤ p.n ∧ p.n ≤ 6 := by simpa [inB] using h1
  obtain ⟨N, hN⟩ : ∃ N : Nat, p.n = N := ⟨p.n.toNat, by omega⟩
  have e : p.n.toNat = N := by omega
  rw [e] at h5
  rw [hN] at h4
  refine ⟨N, hN, by omega, by omega, h2, h3, okS_of_pre h4, ?_, h5⟩
  intro x hx
  unfold allB at h6
  rw [List.all_eq_true] at h6
  have := h6 x hx
  simp only [inB, Bool.and_eq_true, decide_eq_true_eq] at this
  omega
end Go.Proofs.Ytodjnafalbbmjaa
/- append of a whole slice, which may have no elements, onto an own slice; copies of lists. -/
namespace Go.Proofs.Ytodjnafalbbmjaa
open Go.RowKit

section
variable {ops : Array Oper} {o : Oper} {a : Act} {Q : Exit → Act → World → Prop} {w : World} {T e : TypeId} {z : Value} {bts : Nat}

/-- append(v, xs...): m elements of sz cells, out of a slice that reads. -/
theorem step_appM {K : Act → World → Prop} {E : Prop} {sz : Nat} (ht : Try.prog.underlying T = some (.slice e)) (hinf : (Try.prog.info? e).map (fun i => (i.zero, i.size, i.bytes)) = some (some z, sz, bts)) (hz : z.cells.size = sz) (hs0 : 0 < sz) (hb : bts ≤ 64)
    (hgd : o.guard = none) (s x : Operand) (ho : o.op = .call { callee := .builtin .append, args := #[s, x], argTypes := #[T, T] })
    (B n : Nat) (v : Value) (xs : List Value) (hs : a.eval s = v) (hown : w.ownsRow B e sz v n xs) (A : Option Addr) (m c : Nat) (news : List Value) (hx : a.eval x = .slice A m c)
    {C : Nat} (hr : Rd w C sz A m news) (h1 : ∀ u ∈ news, u.oneCell' = true) (hn : n + m ≤ 4000000) (hB : B ≤ w.heap.size)
    (h : ∀ A' c' w', w'.ownsRow B e sz (.slice A' (n + m) c') (n + m) (xs ++ news) → w.grownBy w' v.ownBlock → Below B w w' → K (a.put o.dst (.slice A' (n + m) c')) w') :
    if Region.wanted o (yielded ops a.tmps) = true then Oper.wp Try.prog o a w K Q else E := by
  obtain ⟨i0, hi, hz0, hz1, hz2⟩ := info_parts hinf
  by_cases hm : 0 < m
  · obtain ⟨b, off, rfl, hbl, hc⟩ := hr.2 hm
    refine step_append_lies _ hgd s x _ ho B e i0 z sz bts ht hi hz0 hz1 hz2 hz hs0 v n xs hs hown ⟨b, off, none⟩ m c news hx hr.1 ?_ h1 hm (by unfold maxLen; omega) (by
      have : (n + m) * bts ≤ 4000000 * 64 := Nat.mul_le_mul (by omega) hb
      omega) hB w.heap.size rfl ?_
    · intro j y hj
      have hlt : j < m * sz := by rw [← hr.1]; exact (List.getElem?_eq_some_iff.1 hj).1
      have e0 : (⟨b, off, none⟩ : Addr).add j = ⟨b, off + j, none⟩ := by unfold Addr.add; split <;> simp_all
      rw [e0, hc j hlt, hj]
    · intro g cap w' hown' hg _ _
      exact h _ cap w' hown' hg (below_of_own hown hB hg)
  · have hm0 : m = 0 := by omega
    subst hm0
    have hnil : news = [] := by have := hr.1; simpa using this
    subst hnil
    have hw : Region.wanted o (yielded ops a.tmps) = true := by simp [Region.wanted, hgd]
    rw [if_pos hw]
    have key : ∃ v' w', (Builtin.append_ #[T, T] o.type #[v, .slice A 0 c]).run Try.prog w = .ok v' w' ∧ w'.ownsRow B e sz v' (n + 0) (xs ++ []) ∧ w.grownBy w' v.ownBlock := by
      cases A with
      | some ad =>
        obtain ⟨v', w', hr', h2, h3, _⟩ := run_append_own_at (P := Try.prog) w B T o.type e i0 z sz bts ht hi hz0 hz1 hz2 hz hs0 v n xs hown ad 0 c [] (by simp) (fun j u hu => by simp at hu) (by simp) (by unfold maxLen; omega) (by
          have : (n + 0) * bts ≤ 4000000 * 64 := Nat.mul_le_mul (by omega) hb
          omega) hB
        exact ⟨v', w', hr', h2, h3⟩
      | none =>
        obtain ⟨A0, c0, rfl, hle⟩ := own_form hown
        refine ⟨.slice A0 n c0, w, ?_, by simpa using hown, World.grownBy.refl _ _⟩
        cases A0 <;> simp [Builtin.append_, run_underlying ht, sizeOf, typeInfo, hi, hle, storeCells, Builtin.lenOf, Builtin.firstCells, Value.cells]
    obtain ⟨v', w', hr', h2, h3⟩ := key
    obtain ⟨A', c', rfl, _⟩ := own_form h2
    unfold Oper.wp execOp
    simp only [ho, resolve, invoke, builtin, Sem.run_bind, Sem.run_pure, Result.andThen_ok, List.map_toArray, List.map_cons, List.map_nil, hs, hx, hr']
    exact h A' c' w' h2 h3 (below_of_own hown hB h3)
end

theorem ints_one (l : List Int) : ∀ u ∈ l.map I, u.oneCell' = true := by
  intro u hu
  obtain ⟨_, _, rfl⟩ := List.mem_map.1 hu
  rfl
theorem fl_one (s : List (Int × Int)) : ∀ u ∈ fl s, u.oneCell' = true := by
  intro u hu
  simp only [fl, List.mem_flatMap, List.mem_cons, List.not_mem_nil, or_false] at hu
  obtain ⟨p, _, h⟩ := hu
  rcases h with rfl | rfl <;> rfl
/-- A new block without cells. -/
theorem own_empty {w : World} {B : Nat} {e : TypeId} (sz : Nat) (hB : B ≤ w.heap.size) : (w.alloc (.cells #[] e)).ownsRow B e sz (.slice (some ⟨w.heap.size, 0, none⟩) 0 0) 0 [] := by
  have h := World.ownsRow_lit (base := B) (e := e) (size := sz) w #[] 0 hB (by unfold maxLen; omega) (by simp)
  simpa using h

set_option maxHeartbeats 400000 in
theorem l1Own_any (B : Nat) (A : Option Addr) (c : Nat) (l : List Int) (w : World) (hm : l.length ≤ 1000000) (hB : B ≤ w.heap.size) (hr : Rd w B 1 A l.length (l.map I)) :
    Calls Try.prog 78 #[.slice A l.length c] w fun e w' => ∃ A' c', e = .returned (.slice A' l.length c') ∧ OwI w' w.heap.size (.slice A' l.length c') l ∧ Below w.heap.size w w' := by
  have H := Lib.hid hr
  clear hr
  go_enter Try.func78, Try.ntmps78
  go_wp2_with (first
    | (at_builtin; refine list_step (fun K hK => ?_); refine step_appM Try.underlying22 info_int rfl (by omega) (by omega) rfl (.tmp 3) (.tmp 4) rfl w.heap.size 0 _ [] rfl (own_empty 1 (Nat.le_refl _)) A l.length c (l.map I) rfl (H.out.alloc hB _) (ints_one l) (by omega) (by simp) ?_; intro A2 c2 w2 hown2 hg2 hbel2; go_simp; refine hK _ _ ?_; clear hK K))
  go_ret
  simp only [Nat.zero_add, List.nil_append] at hown2
  exact ⟨A2, c2, by simp, hown2, ((Below.refl _ _).alloc (Nat.le_refl _) _).trans hbel2⟩
end Go.Proofs.Ytodjnafalbbmjaa
/- Two rows of steps behind each other: the library's slices.Concat. -/
namespace Go.Proofs.Ytodjnafalbbmjaa
open Go.RowKit

def catN (a b k : Nat) : Nat := match k with | 0 => 0 | 1 => a | _ => a + b
def catL (a b : List (Int × Int)) (k : Nat) : List (Int × Int) := match k with | 0 => [] | 1 => a | _ => a ++ b
theorem fl_append (a b : List (Int × Int)) : fl (a ++ b) = fl a ++ fl b := by simp [fl]

set_option maxRecDepth 100000 in
set_option maxHeartbeats 2000000 in
theorem concatS_any (B g : Nat) (A1 A2 : Option Addr) (k1 k2 c : Nat) (s1 s2 : List (Int × Int)) (w : World) (hm1 : s1.length ≤ 10000) (hm2 : s2.length ≤ 10000) (hB : B ≤ w.heap.size)
    (hc1 : w.cell? ⟨g, 0, none⟩ = some (.slice A1 s1.length k1)) (hc2 : w.cell? ⟨g, 1, none⟩ = some (.slice A2 s2.length k2)) (hg : g < w.heap.size) (hr1 : Rd w B 2 A1 s1.length (fl s1)) (hr2 : Rd w B 2 A2 s2.length (fl s2)) :
    Calls Try.prog 140 #[.slice (some ⟨g, 0, none⟩) 2 c] w fun e w' => ∃ A' c', e = .returned (.slice A' (s1.length + s2.length) c') ∧ OwS w' w.heap.size (.slice A' (s1.length + s2.length) c') (s1 ++ s2) ∧ Below w.heap.size w w' := by
  have H1 := Lib.hid hr1
  have H2 := Lib.hid hr2
  clear hr1 hr2
  obtain ⟨a, ha⟩ : ∃ a, s1.length = a := ⟨_, rfl⟩
  obtain ⟨b, hb⟩ : ∃ b, s2.length = b := ⟨_, rfl⟩
  rw [ha] at hc1 hm1
  rw [hb] at hc2 hm2
  have HA := Lib.hid ha
  have HBL := Lib.hid hb
  rw [ha, hb]
  clear ha hb
  go_enter Try.func140, Try.ntmps140
  go_wp2
  go_loopw [3, 11] (fun s i wr => ∃ k : Nat, k ≤ 2 ∧ i = .int .i64 k ∧ s = .int .i64 ((catN a b k : Nat) : Int) ∧ w = wr) (fun _ i _ => 2 - (intOf i).toNat)
  case atStart => exact ⟨0, by omega, rfl, rfl, rfl⟩
  case round =>
    obtain ⟨k, hk, rfl, rfl, rfl⟩ := hrel
    obtain rfl | rfl | rfl : k = 0 ∨ k = 1 ∨ k = 2 := by omega
    · simp only [catN]
      go_wp2
      go_roundw
      case rel => exact ⟨1, by omega, by go_num, by first | rfl | (simp only [catN]; go_num), trivial⟩
      case measure => simp [intOf]
    · simp only [catN]
      go_wp2
      go_roundw
      case rel => exact ⟨2, by omega, by go_num, by first | rfl | (simp only [catN]; go_num), trivial⟩
      case measure => simp [intOf]
    · simp only [catN]
      go_wp2_with fail
      go_at_call 142
      refine (growS_any (a + b) w (by omega)).mono ?_
      rintro e w2 ⟨A0, c0, rfl, hown0, hb0⟩
      have OWN0 := Lib.hid hown0
      have HB0 := Lib.hid hb0
      clear hown0 hb0
      go_wp2
      go_loopw [6, 27] (fun v i wr => ∃ (k : Nat) (A : Option Addr) (q : Nat), k ≤ 2 ∧ i = .int .i64 k ∧ v = .slice A (catN a b k) q ∧ wr.ownsRow w.heap.size 68 2 (.slice A (catN a b k) q) (catN a b k) (fl (catL s1 s2 k)) ∧ Below w.heap.size w wr) (fun _ i _ => 2 - (intOf i).toNat)
      case atStart => exact ⟨0, A0, c0, by omega, rfl, rfl, OWN0.out, HB0.out⟩
      case round =>
        obtain ⟨k, A, q, hk, rfl, rfl, hown, hbel⟩ := hrel
        have e1 := (hbel.cell (p := ⟨g, 0, none⟩) hg).trans hc1
        have e2 := (hbel.cell (p := ⟨g, 1, none⟩) hg).trans hc2
        have OWN := Lib.hid hown
        have BEL := Lib.hid hbel
        clear hown hbel
        obtain rfl | rfl | rfl : k = 0 ∨ k = 1 ∨ k = 2 := by omega
        · simp only [catN]
          go_wp2_with (first
            | (at_builtin; refine list_step (fun K hK => ?_); refine step_appM Try.underlying31 info_step rfl (by omega) (by omega) rfl (.tmp 31) (.tmp 32) rfl w.heap.size 0 _ _ rfl OWN.out _ a k1 (fl s1) rfl (by have := H1.out.below (BEL.out.mono hB); rw [HA.out] at this; exact this) (fl_one s1) (by omega) BEL.out.size ?_; intro A2' c2' w2' hown2 hg2 hbel2; go_simp; refine hK _ _ ?_; clear hK K))
          go_roundw
          case rel =>
            have hown3 : w2'.ownsRow w.heap.size 68 2 (.slice A2' a c2') a (fl s1) := by
              have h := hown2
              rw [Nat.zero_add] at h
              exact h
            exact ⟨1, A2', c2', by omega, by go_num, by first | rfl | simp [catN], hown3, BEL.out.trans hbel2⟩
          case measure => simp [intOf]
        · simp only [catN]
          go_wp2_with (first
            | (at_builtin; refine list_step (fun K hK => ?_); refine step_appM Try.underlying31 info_step rfl (by omega) (by omega) rfl (.tmp 31) (.tmp 32) rfl w.heap.size a _ _ rfl OWN.out _ b k2 (fl s2) rfl (by have := H2.out.below (BEL.out.mono hB); rw [HBL.out] at this; exact this) (fl_one s2) (by omega) BEL.out.size ?_; intro A2' c2' w2' hown2 hg2 hbel2; go_simp; refine hK _ _ ?_; clear hK K))
          go_roundw
          case rel =>
            have hown3 : w2'.ownsRow w.heap.size 68 2 (.slice A2' (a + b) c2') (a + b) (fl (s1 ++ s2)) := by
              rw [fl_append]
              exact hown2
            exact ⟨2, A2', c2', by omega, by go_num, by first | rfl | simp [catN], hown3, BEL.out.trans hbel2⟩
          case measure => simp [intOf]
        · simp only [catN]
          go_wp2
          go_ret
          refine ⟨A, q, rfl, ?_, BEL.out⟩
          have h := OWN.out
          show World.ownsRow _ _ _ _ _ _ _
          rw [List.length_append, HA.out, HBL.out]
          exact h
end Go.Proofs.Ytodjnafalbbmjaa
/- New numbers of values: what they are; the model's small functions. -/
namespace Go.Proofs.Ytodjnafalbbmjaa
open Go.RowKit

def plc : List Int → Int → Nat → Int
  | [], _, _ => -1
  | x :: l, n, k => if x == n then (k : Int) else plc l n (k + 1)
theorem plc_app (l r : List Int) (n : Int) (k : Nat) : plc (l ++ r) n k = if hasI l n then plc l n k else plc r n (k + l.length) := by
  induction l generalizing k with
  | nil => simp [hasI]
  | cons x l ih =>
    by_cases h : x = n
    · subst h
      simp [plc, hasI]
    · have h1 : (x == n) = false := by simpa using h
      have h2 : hasI (x :: l) n = hasI l n := by
        unfold hasI
        rw [Bool.eq_iff_iff]
        simp
        intro e
        exact absurd e.symm h
      simp only [List.cons_append, plc, h1, h2, Bool.false_eq_true, if_false]
      rw [ih]
      simp only [List.length_cons]
      rw [show k + 1 + l.length = k + (l.length + 1) by omega]
theorem plc_none {l : List Int} {n : Int} (h : hasI l n = false) (k : Nat) : plc l n k = -1 := by
  have h1 := plc_app l [] n k
  rw [List.append_nil, h] at h1
  rw [h1]
  rfl
theorem plc_bd (l : List Int) (n : Int) (k : Nat) : -1 ≤ plc l n k ∧ plc l n k < k + l.length + 1 := by
  induction l generalizing k with
  | nil => simp [plc]; omega
  | cons x l ih =>
    unfold plc
    split
    · simp only [List.length_cons]; omega
    · have := ih (k + 1)
      simp only [List.length_cons]
      omega
theorem plc_nonneg {l : List Int} {n : Int} (h : hasI l n = true) (k : Nat) : (k : Int) ≤ plc l n k := by
  induction l generalizing k with
  | nil => simp [hasI] at h
  | cons x l ih =>
    unfold plc
    split
    · omega
    · rename_i hx
      have h2 : hasI l n = true := by
        unfold hasI at h ⊢
        simp at h hx ⊢
        rcases h with h | h
        · exact absurd h.symm hx
        · exact h
      have := ih h2 (k + 1)
      omega
theorem plc_hit {l : List Int} {n : Int} {k : Nat} (hk : k < l.length) (hq : hasI (l.take k) n = false) (h : (l[k] == n) = true) : plc l n 0 = k := by
  have e : l = l.take k ++ l[k] :: l.drop (k + 1) := by simp
  have h1 := plc_app (l.take k) (l[k] :: l.drop (k + 1)) n 0
  rw [← e, hq] at h1
  rw [h1]
  simp only [Bool.false_eq_true, if_false, plc, h, if_true]
  simp
  omega

def numI (N : Nat) (l : List Int) (v : Int) : Int := if v < N then v else N + plc l (v - N) 0
def stI (a b : Int) : Int × Int := (leastI a b, mostI a b)
def keepS (p : Pl) (N : Nat) (l : List Int) (k : Nat) : List (Int × Int) := (l.take k).map fun i => stI (numI N l (p.s.getD i.toNat (0, 0)).1) (numI N l (p.s.getD i.toNat (0, 0)).2)
def keepO (p : Pl) (N : Nat) (l : List Int) (k : Nat) : List Int := (p.o.take k).map (numI N l)
theorem keepS_len (p : Pl) (N : Nat) (l : List Int) {k : Nat} (hk : k ≤ l.length) : (keepS p N l k).length = k := by simp [keepS]; omega
theorem keepO_len (p : Pl) (N : Nat) (l : List Int) {k : Nat} (hk : k ≤ p.o.length) : (keepO p N l k).length = k := by simp [keepO]; omega
theorem keepS_succ {p : Pl} {N : Nat} {l : List Int} {k n : Nat} (hk : k < l.length) (hn : l[k] = (n : Int)) (hns : n < p.s.length) : keepS p N l (k + 1) = keepS p N l k ++ [stI (numI N l (p.s[n]).1) (numI N l (p.s[n]).2)] := by
  unfold keepS
  rw [List.take_succ_eq_append_getElem hk, List.map_append, hn]
  simp [hns]
theorem keepO_succ {p : Pl} {N : Nat} {l : List Int} {k : Nat} (hk : k < p.o.length) : keepO p N l (k + 1) = keepO p N l k ++ [numI N l p.o[k]] := by
  unfold keepO
  rw [List.take_succ_eq_append_getElem hk, List.map_append]
  rfl
theorem numI_bd {N : Nat} {l : List Int} {v : Int} (h6 : N ≤ 6) (h0 : 0 ≤ v) : -1 ≤ numI N l v ∧ numI N l v ≤ N + l.length := by
  unfold numI
  split
  · omega
  · have := plc_bd l (v - N) 0
    omega

set_option maxHeartbeats 400000 in
theorem plPlace_any (B : Nat) (A : Option Addr) (c : Nat) (l : List Int) (n : Int) (w : World) (hm : l.length ≤ 4000000) (hr : Rd w B 1 A l.length (l.map I)) :
    Calls Try.prog 84 #[.slice A l.length c, .int .i64 n] w fun e w' => e = .returned (.int .i64 (plc l n 0)) ∧ w = w' := by
  have H := Lib.hid hr
  clear hr
  go_enter Try.func84, Try.ntmps84
  go_wp2
  go_loop [9] (fun i => ∃ k : Nat, k ≤ l.length ∧ i = .int .i64 k ∧ hasI (l.take k) n = false) (fun i => l.length - (intOf i).toNat)
  case atStart => exact ⟨0, by omega, rfl, rfl⟩
  case round =>
    obtain ⟨k, hk, rfl, hq⟩ := hrel
    have Q := Lib.hid hq
    clear hq
    by_cases hlt : k < l.length
    · obtain ⟨b, off, rfl, hb, hcell⟩ := H.out.int hlt
      go_wp2
      · go_ret
        exact ⟨ret_int (plc_hit hlt Q.out (by assumption)).symm, rfl⟩
      · have hne : (l[k] == n) = false := by assumption
        go_round
        case rel => exact ⟨k + 1, by omega, by go_num, by rw [hasI_take hlt Q.out]; exact hne⟩
        case measure => simp [intOf]; omega
    · have hk' : k = l.length := by omega
      have hq := Q.out
      rw [hk', List.take_of_length_le (Nat.le_refl _)] at hq
      have e := plc_none hq 0
      have E := Lib.hid e
      clear hq e hk'
      go_wp2
      go_ret
      exact ⟨ret_int E.out.symm, rfl⟩

set_option maxRecDepth 100000 in
set_option maxHeartbeats 400000 in
theorem plNumber_any (B N : Nat) (z1 z2 : Value) (A : Option Addr) (c : Nat) (l : List Int) (v : Int) (w : World) (h6 : N ≤ 6) (hm : l.length ≤ 1000) (h0 : 0 ≤ v) (h1 : v ≤ 1000000) (hB : B ≤ w.heap.size) (hr : Rd w B 1 A l.length (l.map I)) :
    Calls Try.prog 81 #[.agg #[.int .i64 (N : Int), z1, z2], .slice A l.length c, .int .i64 v] w fun e w' => e = .returned (.int .i64 (numI N l v)) ∧ Below w.heap.size w w' := by
  have H := Lib.hid hr
  clear hr
  by_cases hv : v < N
  · have e : numI N l v = v := by simp [numI, hv]
    have E := Lib.hid e
    clear e
    go_enter Try.func81, Try.ntmps81
    go_wp2
    go_ret
    exact ⟨by rw [E.out]; rfl, (Below.refl _ _).alloc (Nat.le_refl _) _⟩
  · have bd := plc_bd l (v - N) 0
    obtain ⟨q, hq⟩ : ∃ q, plc l (v - N) 0 = q := ⟨_, rfl⟩
    rw [hq] at bd
    have e : numI N l v = N + q := by simp [numI, hv, hq]
    have E := Lib.hid e
    have hC := fun W hB => plPlace_any B A c l (v - N) W (by omega) hB
    rw [hq] at hC
    have HC := Lib.hid hC
    have hsub : IntKind.i64.wrap (v - (N : Int)) = v - N := IntWalk.i64_in _ (by omega)
    have hadd : IntKind.i64.wrap ((N : Int) + q) = N + q := IntWalk.i64_in _ (by omega)
    clear e hC hq
    go_enter Try.func81, Try.ntmps81
    go_wp2
    refine wp_region_Tw [0, 1, 2, 3, 4, 5, 6, 8, 9] [1, 5] (.lp 0 (.lp 2 (.lp 3 (.lp 4 (.ls 1 (.ls 5 (.lp 6 (.hv 7 (.lp 8 (.lp 9 (.done))))))))))) (by kernel_rfl) (by kernel_rfl) ?_
    (repeat (first | (refine T_lp rfl (fun K hK => ?_); go_simp; refine hK _ ?_; clear hK K) | (refine T_ls rfl rfl (fun K hK => ?_); go_simp; refine hK _ ?_; clear hK K)))
    refine T_hvS rfl (fun K hK => ?_)
    go_simp
    go_at_call 84
    generalize hw1 : World.drew (World.alloc w _) = w1
    have hb1 : Below w.heap.size w w1 := by rw [← hw1]; exact ((Below.refl _ _).alloc (Nat.le_refl _) _).drew
    refine (HC.out w1 (H.out.below' hb1 hB)).mono ?_
    rintro e w' ⟨rfl, rfl⟩
    go_simp
    refine hK _ _ (by first | rfl | exact hw1.symm) ?_
    clear hK K
    (repeat (first | (refine T_lp rfl (fun K hK => ?_); go_simp; refine hK _ ?_; clear hK K) | (refine T_ls rfl rfl (fun K hK => ?_); go_simp; refine hK _ ?_; clear hK K)))
    refine T_done ?_
    go_wp2
    go_ret
    exact ⟨by rw [E.out]; rfl, hb1⟩

set_option maxHeartbeats 400000 in
theorem plStep_any (a b : Int) (w : World) :
    Calls Try.prog 74 #[.int .i64 a, .int .i64 b] w fun e w' => e = .returned (.agg #[.int .i64 (leastI a b), .int .i64 (mostI a b)]) ∧ Below w.heap.size w w' := by
  go_enter Try.func74, Try.ntmps74
  go_wp2_with (first | (go_at_call 80; refine (l1Least_any _ _ _).mono ?_; rintro e w' ⟨rfl, rfl⟩) | (go_at_call 75; refine (l1Most_any _ _ _).mono ?_; rintro e w' ⟨rfl, rfl⟩))
  refine bodyPost_ret (v := .agg #[.int .i64 (leastI a b), .int .i64 (mostI a b)]) (by simp [results, Try.results74, go_sem]) rfl ⟨rfl, ?_⟩
  exact (Below.refl _ _).alloc (Nat.le_refl _) _
end Go.Proofs.Ytodjnafalbbmjaa
/- New numbers of values: the program's small functions. -/
namespace Go.Proofs.Ytodjnafalbbmjaa
open Go.RowKit

def ups (n : Nat) : List Int := (List.range n).map fun i : Nat => (i : Int)
theorem ups_length (n : Nat) : (ups n).length = n := by simp [ups]
theorem ups_succ (n : Nat) : ups (n + 1) = ups n ++ [(n : Int)] := by
  unfold ups
  rw [List.range_succ, List.map_append]
  rfl
/-- One more cell of a row that is being filled. -/
theorem fill_next (l : List Int) (x : Int) {n k : Nat} (hl : l.length = k) (hk : k < n) :
    (l.map I ++ List.replicate (n - k) (I 0)).set k (I x) = (l ++ [x]).map I ++ List.replicate (n - (k + 1)) (I 0) := by
  rw [List.set_append_right _ _ (by simp; omega), List.length_map, hl, Nat.sub_self, show n - k = (n - (k + 1)) + 1 from by omega, List.replicate_succ, List.set_cons_zero]
  simp
theorem zeros_row {w : World} {B : Nat} (n : Nat) (hn : n ≤ 1000) (hB : B ≤ w.heap.size) :
    (w.alloc (.cells (madeCells #[Value.int .i64 0] n) 3)).ownsRow B 3 1 (.slice (some ⟨w.heap.size, 0, none⟩) n n) n (List.replicate n (I 0)) := by
  have h := World.ownsRow_lit (base := B) (e := 3) (size := 1) w (madeCells #[Value.int .i64 0] n) n hB (by unfold maxLen; omega) (by simp [size_madeCells])
  rw [toList_madeCells_one] at h
  exact h

set_option maxRecDepth 100000 in
set_option maxHeartbeats 1000000 in
theorem firstNumbers_any (N : Nat) (w : World) (h6 : N ≤ 1000) :
    Calls Try.prog 116 #[.int .i64 (N : Int)] w fun e w' => ∃ A c, e = .returned (.slice A N c) ∧ OwI w' w.heap.size (.slice A N c) (ups N) ∧ Below w.heap.size w w' := by
  have hmk := run_make_row' (P := Try.prog) 22 3 (.int .i64 0) 8 Try.underlying22 info_int rfl .i64 .i64 N (by omega) (by omega)
  go_enter Try.func116, Try.ntmps116
  go_wp2
  clear hmk
  generalize hw2 : World.alloc w _ = w2
  have hmade : w2.ownsRow w.heap.size 3 1 (.slice (some ⟨w.heap.size, 0, none⟩) N N) N (List.replicate N (I 0)) := by rw [← hw2]; exact zeros_row N h6 (Nat.le_refl _)
  have hb2 : Below w.heap.size w w2 := by rw [← hw2]; exact (Below.refl _ _).alloc (Nat.le_refl _) _
  clear hw2
  have HM := Lib.hid hmade
  have HB2 := Lib.hid hb2
  clear hmade hb2
  go_loopw [9] (fun i wr => ∃ k : Nat, k ≤ N ∧ i = .int .i64 k ∧ wr.ownsRow w.heap.size 3 1 (.slice (some ⟨w.heap.size, 0, none⟩) N N) N ((ups k).map I ++ List.replicate (N - k) (I 0)) ∧ Below w.heap.size w wr) (fun i _ => N - (intOf i).toNat)
  case atStart => exact ⟨0, by omega, rfl, by simpa [ups] using HM.out, HB2.out⟩
  case round =>
    obtain ⟨k, hk, rfl, hown, hbel⟩ := hrel
    have OWN := Lib.hid hown
    have BEL := Lib.hid hbel
    by_cases hlt : k < N
    · have hc : wr.cell? ⟨w.heap.size, k, none⟩ = some (I 0) := by
        rw [hown.cellAt _ (by omega)]
        exact rep_at (by simp [ups_length]) (by simp [ups_length]; omega)
      have hf : wr.frozen? ⟨w.heap.size, k, none⟩ = false := hown.frozenAt _
      clear hown hbel
      go_wp2
      go_roundw
      case rel =>
        refine ⟨k + 1, by omega, by go_num, ?_, BEL.out.setCell (Nat.le_refl _) _⟩
        have h := (OWN.out.stored k (I (k : Int))).1
        rw [fill_next (ups k) k (ups_length k) hlt, ← ups_succ] at h
        exact h
      case measure => simp [intOf]; omega
    · have hk' : k = N := by omega
      subst hk'
      clear hown hbel
      go_wp2
      go_ret
      have h := OWN.out
      refine ⟨_, _, rfl, ?_, BEL.out⟩
      show World.ownsRow _ _ _ _ _ _ _
      rw [ups_length]
      simpa using h

set_option maxRecDepth 100000 in
set_option maxHeartbeats 1000000 in
theorem renamed_any (B : Nat) (A A' : Option Addr) (c c' : Nat) (o nm : List Int) (w : World) (hm : o.length ≤ 1000) (hB : B ≤ w.heap.size) (hin : ∀ x ∈ o, 0 ≤ x ∧ x < nm.length) (hr : Rd w B 1 A o.length (o.map I)) (hr' : Rd w B 1 A' nm.length (nm.map I)) :
    Calls Try.prog 118 #[.slice A o.length c, .slice A' nm.length c'] w fun e w' => ∃ A2 c2, e = .returned (.slice A2 o.length c2) ∧ OwI w' w.heap.size (.slice A2 o.length c2) (o.map fun x => nm.getD x.toNat 0) ∧ Below w.heap.size w w' := by
  have H := Lib.hid hr
  have H' := Lib.hid hr'
  have HIN := Lib.hid hin
  clear hr hr' hin
  have hmk := run_make_row' (P := Try.prog) 22 3 (.int .i64 0) 8 Try.underlying22 info_int rfl .i64 .i64 o.length (by omega) (by omega)
  go_enter Try.func118, Try.ntmps118
  go_wp2
  clear hmk
  generalize hw2 : World.alloc w _ = w2
  have hmade : w2.ownsRow w.heap.size 3 1 (.slice (some ⟨w.heap.size, 0, none⟩) o.length o.length) o.length (List.replicate o.length (I 0)) := by rw [← hw2]; exact zeros_row o.length hm (Nat.le_refl _)
  have hb2 : Below w.heap.size w w2 := by rw [← hw2]; exact (Below.refl _ _).alloc (Nat.le_refl _) _
  clear hw2
  have HM := Lib.hid hmade
  have HB2 := Lib.hid hb2
  clear hmade hb2
  go_loopw [13] (fun i wr => ∃ k : Nat, k ≤ o.length ∧ i = .int .i64 k ∧ wr.ownsRow w.heap.size 3 1 (.slice (some ⟨w.heap.size, 0, none⟩) o.length o.length) o.length (((o.take k).map fun x => nm.getD x.toNat 0).map I ++ List.replicate (o.length - k) (I 0)) ∧ Below w.heap.size w wr) (fun i _ => o.length - (intOf i).toNat)
  case atStart => exact ⟨0, by omega, rfl, by simpa using HM.out, HB2.out⟩
  case round =>
    obtain ⟨k, hk, rfl, hown, hbel⟩ := hrel
    have OWN := Lib.hid hown
    have BEL := Lib.hid hbel
    by_cases hlt : k < o.length
    · obtain ⟨ob, oo, rfl, hob, hoc⟩ := (H.out.below' hbel hB).int hlt
      obtain ⟨q1, q2⟩ := HIN.out _ (List.getElem_mem hlt)
      obtain ⟨v, hv⟩ : ∃ v : Nat, o[k] = v := ⟨(o[k]).toNat, by omega⟩
      rw [hv] at hoc q2
      have hvl : v < nm.length := by omega
      obtain ⟨nb, no, rfl, hnb, hnc⟩ := (H'.out.below' hbel hB).int hvl
      have hkl : (List.map I (List.map (fun x => nm.getD x.toNat 0) (List.take k o))).length = k := by simp; omega
      have hc : wr.cell? ⟨w.heap.size, k, none⟩ = some (I 0) := by
        rw [hown.cellAt _ (by omega)]
        exact rep_at (by omega) (by omega)
      have hf : wr.frozen? ⟨w.heap.size, k, none⟩ = false := hown.frozenAt _
      have HV := Lib.hid hv
      clear hown hbel hkl hv q1
      go_wp2
      go_roundw
      case rel =>
        refine ⟨k + 1, by omega, by go_num, ?_, BEL.out.setCell (Nat.le_refl _) _⟩
        have h := (OWN.out.stored k (I nm[v])).1
        rw [fill_next _ nm[v] (by simp; omega) hlt] at h
        have e : (List.take (k + 1) o).map (fun x => nm.getD x.toNat 0) = (List.take k o).map (fun x => nm.getD x.toNat 0) ++ [nm[v]] := by
          rw [List.take_succ_eq_append_getElem hlt, List.map_append, HV.out]
          simp [hvl]
        rw [e]
        exact h
      case measure => simp [intOf]; omega
    · have hk' : k = o.length := by omega
      subst hk'
      clear hown hbel
      go_wp2
      go_ret
      have h := OWN.out
      rw [List.take_of_length_le (Nat.le_refl _)] at h
      refine ⟨_, _, rfl, ?_, BEL.out⟩
      show World.ownsRow _ _ _ _ _ _ _
      rw [List.length_map]
      simpa using h


set_option maxRecDepth 100000 in
set_option maxHeartbeats 1000000 in
theorem renamedStep_any (B a b : Nat) (A : Option Addr) (c : Nat) (nm : List Int) (w : World) (hB : B ≤ w.heap.size) (ha : a < nm.length) (hb : b < nm.length) (hr : Rd w B 1 A nm.length (nm.map I)) :
    Calls Try.prog 117 #[.agg #[.int .i64 (a : Int), .int .i64 (b : Int)], .slice A nm.length c] w fun e w' => e = .returned (.agg #[.int .i64 (leastI nm[a] nm[b]), .int .i64 (mostI nm[a] nm[b])]) ∧ Below w.heap.size w w' := by
  obtain ⟨nb, no, rfl, hnb, hca⟩ := hr.int ha
  obtain ⟨nb', no', h2, _, hcb⟩ := hr.int hb
  obtain ⟨rfl, rfl⟩ : nb = nb' ∧ no = no' := by
    injection h2 with h2
    injection h2 with e1 e2
    exact ⟨e1, e2⟩
  have ia : (a : Int) < (nm.length : Int) := by omega
  have ib : (b : Int) < (nm.length : Int) := by omega
  clear hr h2
  obtain ⟨x, hx⟩ : ∃ x, nm[a] = x := ⟨_, rfl⟩
  obtain ⟨y, hy⟩ : ∃ y, nm[b] = y := ⟨_, rfl⟩
  rw [hx] at hca
  rw [hy] at hcb
  rw [hx, hy]
  clear hx hy
  have hcases : (x < y ∧ leastI x y = x ∧ mostI x y = y) ∨ (x = y ∧ leastI x y = x ∧ mostI x y = x) ∨ (y < x ∧ leastI x y = y ∧ mostI x y = x) := by
    unfold leastI mostI
    split <;> split <;> omega
  rcases hcases with ⟨hlt, e1, e2⟩ | ⟨hlt, e1, e2⟩ | ⟨hlt, e1, e2⟩
  · rw [e1, e2]
    clear e1 e2
    go_enter Try.func117, Try.ntmps117
    go_wp2
    generalize hw1 : World.alloc (World.alloc w _) _ = w1
    have q0 : w1.heap[w.heap.size]? = some (.cells #[.int .i64 (a : Int), .int .i64 (b : Int)] 68 (0, 0)) := by
      rw [← hw1, Below.heap_alloc _ _ _ (by simp)]; exact heap_alloc_new w _
    have q1 : w1.heap[w.heap.size + 1]? = some (.cells #[.int .i64 0, .int .i64 0] 68 (0, 0)) := by
      rw [← hw1]
      have := heap_alloc_new (w.alloc (.cells #[.int .i64 (a : Int), .int .i64 (b : Int)] 68)) (.cells #[.int .i64 0, .int .i64 0] 68)
      simpa using this
    have hb1 : Below w.heap.size w w1 := by rw [← hw1]; exact ((Below.refl _ _).alloc (Nat.le_refl _) _).alloc (by simp) _
    clear hw1
    have x0 : w1.cell? ⟨w.heap.size, 0, none⟩ = some (.int .i64 (a : Int)) := by rw [cell_of_row w1 _ 0 _ _ (0, 0) q0]; rfl
    have x1 : w1.cell? ⟨w.heap.size, 1, none⟩ = some (.int .i64 (b : Int)) := by rw [cell_of_row w1 _ 1 _ _ (0, 0) q0]; rfl
    have y0 : w1.cell? ⟨w.heap.size + 1, 0, none⟩ = some (.int .i64 0) := by rw [cell_of_row w1 _ 0 _ _ (0, 0) q1]; rfl
    have y1 : w1.cell? ⟨w.heap.size + 1, 1, none⟩ = some (.int .i64 0) := by rw [cell_of_row w1 _ 1 _ _ (0, 0) q1]; rfl
    have g0 : w1.frozen? ⟨w.heap.size + 1, 0, none⟩ = false := frozen_of_row w1 _ 0 _ _ q1
    have g1 : w1.frozen? ⟨w.heap.size + 1, 1, none⟩ = false := frozen_of_row w1 _ 1 _ _ q1
    have za : w1.cell? ⟨nb, no + a, none⟩ = _ := (hb1.cell (p := ⟨nb, no + a, none⟩) (by simp only []; omega)).trans hca
    have zb : w1.cell? ⟨nb, no + b, none⟩ = _ := (hb1.cell (p := ⟨nb, no + b, none⟩) (by simp only []; omega)).trans hcb
    have HB1 := Lib.hid hb1
    clear q0 q1 hca hcb hb1
    refine wp_region_Tw [0, 1, 2, 3, 4, 5, 6, 7, 8, 9, 10, 11] [2, 4, 7, 9] (.lp 0 (.lp 1 (.lp 5 (.lp 6 (.ls 2 (.lp 3 (.ls 4 (.lp 10 (.ls 7 (.lp 8 (.ls 9 (.lp 11 (.done))))))))))))) (by kernel_rfl) (by kernel_rfl) ?_
    (repeat (first | (refine T_lp rfl (fun K hK => ?_); go_simp; refine hK _ ?_; clear hK K) | (refine T_ls rfl rfl (fun K hK => ?_); go_simp; refine hK _ ?_; clear hK K)))
    refine T_done ?_
    go_wp2
    refine bodyPost_ret (v := .agg #[.int .i64 x, .int .i64 y]) (by simp [results, Try.results117, go_sem, y0, y1]) rfl ⟨rfl, ?_⟩
    exact ((HB1.out.setCell (by simp) _).setCell (by simp) _).drew
  · rw [e1, e2]
    clear e1 e2
    subst hlt
    go_enter Try.func117, Try.ntmps117
    go_wp2
    generalize hw1 : World.alloc (World.alloc w _) _ = w1
    have q0 : w1.heap[w.heap.size]? = some (.cells #[.int .i64 (a : Int), .int .i64 (b : Int)] 68 (0, 0)) := by
      rw [← hw1, Below.heap_alloc _ _ _ (by simp)]; exact heap_alloc_new w _
    have q1 : w1.heap[w.heap.size + 1]? = some (.cells #[.int .i64 0, .int .i64 0] 68 (0, 0)) := by
      rw [← hw1]
      have := heap_alloc_new (w.alloc (.cells #[.int .i64 (a : Int), .int .i64 (b : Int)] 68)) (.cells #[.int .i64 0, .int .i64 0] 68)
      simpa using this
    have hb1 : Below w.heap.size w w1 := by rw [← hw1]; exact ((Below.refl _ _).alloc (Nat.le_refl _) _).alloc (by simp) _
    clear hw1
    have x0 : w1.cell? ⟨w.heap.size, 0, none⟩ = some (.int .i64 (a : Int)) := by rw [cell_of_row w1 _ 0 _ _ (0, 0) q0]; rfl
    have x1 : w1.cell? ⟨w.heap.size, 1, none⟩ = some (.int .i64 (b : Int)) := by rw [cell_of_row w1 _ 1 _ _ (0, 0) q0]; rfl
    have y0 : w1.cell? ⟨w.heap.size + 1, 0, none⟩ = some (.int .i64 0) := by rw [cell_of_row w1 _ 0 _ _ (0, 0) q1]; rfl
    have y1 : w1.cell? ⟨w.heap.size + 1, 1, none⟩ = some (.int .i64 0) := by rw [cell_of_row w1 _ 1 _ _ (0, 0) q1]; rfl
    have g0 : w1.frozen? ⟨w.heap.size + 1, 0, none⟩ = false := frozen_of_row w1 _ 0 _ _ q1
    have g1 : w1.frozen? ⟨w.heap.size + 1, 1, none⟩ = false := frozen_of_row w1 _ 1 _ _ q1
    have za : w1.cell? ⟨nb, no + a, none⟩ = _ := (hb1.cell (p := ⟨nb, no + a, none⟩) (by simp only []; omega)).trans hca
    have zb : w1.cell? ⟨nb, no + b, none⟩ = _ := (hb1.cell (p := ⟨nb, no + b, none⟩) (by simp only []; omega)).trans hcb
    have HB1 := Lib.hid hb1
    clear q0 q1 hca hcb hb1
    refine wp_region_Tw [0, 1, 2, 3, 4, 5, 6, 7, 8, 9, 10, 11] [2, 4, 7, 9] (.lp 0 (.lp 1 (.lp 5 (.lp 6 (.ls 2 (.lp 3 (.ls 4 (.lp 10 (.ls 7 (.lp 8 (.ls 9 (.lp 11 (.done))))))))))))) (by kernel_rfl) (by kernel_rfl) ?_
    (repeat (first | (refine T_lp rfl (fun K hK => ?_); go_simp; refine hK _ ?_; clear hK K) | (refine T_ls rfl rfl (fun K hK => ?_); go_simp; refine hK _ ?_; clear hK K)))
    refine T_done ?_
    go_wp2
    refine bodyPost_ret (v := .agg #[.int .i64 x, .int .i64 x]) (by simp [results, Try.results117, go_sem, y0, y1]) rfl ⟨rfl, ?_⟩
    exact ((HB1.out.setCell (by simp) _).setCell (by simp) _).drew
  · rw [e1, e2]
    clear e1 e2
    go_enter Try.func117, Try.ntmps117
    go_wp2
    generalize hw1 : World.alloc (World.alloc w _) _ = w1
    have q0 : w1.heap[w.heap.size]? = some (.cells #[.int .i64 (a : Int), .int .i64 (b : Int)] 68 (0, 0)) := by
      rw [← hw1, Below.heap_alloc _ _ _ (by simp)]; exact heap_alloc_new w _
    have q1 : w1.heap[w.heap.size + 1]? = some (.cells #[.int .i64 0, .int .i64 0] 68 (0, 0)) := by
      rw [← hw1]
      have := heap_alloc_new (w.alloc (.cells #[.int .i64 (a : Int), .int .i64 (b : Int)] 68)) (.cells #[.int .i64 0, .int .i64 0] 68)
      simpa using this
    have hb1 : Below w.heap.size w w1 := by rw [← hw1]; exact ((Below.refl _ _).alloc (Nat.le_refl _) _).alloc (by simp) _
    clear hw1
    have x0 : w1.cell? ⟨w.heap.size, 0, none⟩ = some (.int .i64 (a : Int)) := by rw [cell_of_row w1 _ 0 _ _ (0, 0) q0]; rfl
    have x1 : w1.cell? ⟨w.heap.size, 1, none⟩ = some (.int .i64 (b : Int)) := by rw [cell_of_row w1 _ 1 _ _ (0, 0) q0]; rfl
    have y0 : w1.cell? ⟨w.heap.size + 1, 0, none⟩ = some (.int .i64 0) := by rw [cell_of_row w1 _ 0 _ _ (0, 0) q1]; rfl
    have y1 : w1.cell? ⟨w.heap.size + 1, 1, none⟩ = some (.int .i64 0) := by rw [cell_of_row w1 _ 1 _ _ (0, 0) q1]; rfl
    have g0 : w1.frozen? ⟨w.heap.size + 1, 0, none⟩ = false := frozen_of_row w1 _ 0 _ _ q1
    have g1 : w1.frozen? ⟨w.heap.size + 1, 1, none⟩ = false := frozen_of_row w1 _ 1 _ _ q1
    have za : w1.cell? ⟨nb, no + a, none⟩ = _ := (hb1.cell (p := ⟨nb, no + a, none⟩) (by simp only []; omega)).trans hca
    have zb : w1.cell? ⟨nb, no + b, none⟩ = _ := (hb1.cell (p := ⟨nb, no + b, none⟩) (by simp only []; omega)).trans hcb
    have HB1 := Lib.hid hb1
    clear q0 q1 hca hcb hb1
    refine wp_region_Tw [0, 1, 2, 3, 4, 5, 6, 7, 8, 9, 10, 11] [2, 4, 7, 9] (.lp 0 (.lp 1 (.lp 5 (.lp 6 (.ls 2 (.lp 3 (.ls 4 (.lp 10 (.ls 7 (.lp 8 (.ls 9 (.lp 11 (.done))))))))))))) (by kernel_rfl) (by kernel_rfl) ?_
    (repeat (first | (refine T_lp rfl (fun K hK => ?_); go_simp; refine hK _ ?_; clear hK K) | (refine T_ls rfl rfl (fun K hK => ?_); go_simp; refine hK _ ?_; clear hK K)))
    refine T_done ?_
    go_wp2
    refine bodyPost_ret (v := .agg #[.int .i64 y, .int .i64 x]) (by simp [results, Try.results117, go_sem, y0, y1]) rfl ⟨rfl, ?_⟩
    exact ((HB1.out.setCell (by simp) _).setCell (by simp) _).drew
end Go.Proofs.Ytodjnafalbbmjaa
/- The program's new operands of steps, by any list of names. -/
namespace Go.Proofs.Ytodjnafalbbmjaa
open Go.RowKit

/-- A step with the names of its operands, the smaller one first. -/
def stN (nm : List Int) (st : Int × Int) : Int × Int := stI (nm.getD st.1.toNat 0) (nm.getD st.2.toNat 0)

set_option maxRecDepth 100000 in
set_option maxHeartbeats 2000000 in
theorem renamedStepsN_any (B : Nat) (A A2 : Option Addr) (c c2 : Nat) (s : List (Int × Int)) (nm : List Int) (w : World) (hm : s.length ≤ 1000) (hB : B ≤ w.heap.size) (hin : ∀ st ∈ s, 0 ≤ st.1 ∧ st.1 ≤ st.2 ∧ st.2 < (nm.length : Int)) (hr : Rd w B 2 A s.length (fl s)) (hrn : Rd w B 1 A2 nm.length (nm.map I)) :
    Calls Try.prog 141 #[.slice A s.length c, .slice A2 nm.length c2] w fun e w' => ∃ A' c', e = .returned (.slice A' s.length c') ∧ OwS w' w.heap.size (.slice A' s.length c') (s.map (stN nm)) ∧ Below w.heap.size w w' := by
  have H := Lib.hid hr
  have HN := Lib.hid hrn
  have HIN := Lib.hid hin
  clear hr hrn hin
  obtain ⟨T, hT⟩ : ∃ T, s.map (stN nm) = T := ⟨_, rfl⟩
  have hTl : T.length = s.length := by rw [← hT]; simp
  have hTat : ∀ k (h : k < s.length) (h' : k < T.length), T[k] = stN nm s[k] := fun k h h' => by subst hT; simp
  rw [hT]
  have HTL := Lib.hid hTl
  have HTA := Lib.hid hTat
  clear hT hTl hTat
  obtain ⟨i0, hi, hz0, hz1, hz2⟩ := info_parts info_step
  have hmk : ∀ W : World, (Instr.makeSlice 31 (.int .i64 (s.length : Int)) (.int .i64 (s.length : Int))).run Try.prog W = .ok (.slice (some ⟨W.heap.size, 0, none⟩) s.length s.length) (W.alloc (.cells (madeCells #[.int .i64 0, .int .i64 0] (s.length * 2)) 68)) := fun W => by
    have hr := run_make (P := Try.prog) W 31 68 i0 _ Try.underlying31 hi hz0 .i64 .i64 s.length s.length (by omega) (Int.le_refl _) (by rw [hz2]; omega) (by omega)
    simp only [Int.toNat_natCast] at hr
    rw [hz1] at hr
    exact hr
  have hmade : (w.alloc (.cells (madeCells #[.int .i64 0, .int .i64 0] (s.length * 2)) 68)).ownsRow w.heap.size 68 2 (.slice (some ⟨w.heap.size, 0, none⟩) s.length s.length) s.length (fl (T.take 0) ++ List.replicate ((s.length - 0) * 2) (I 0)) := by
    have h := World.ownsRow_lit (base := w.heap.size) (e := 68) (size := 2) w (madeCells #[Value.int .i64 0, .int .i64 0] (s.length * 2)) s.length (Nat.le_refl _) (by unfold maxLen; omega) (by simp [size_madeCells])
    rw [made2] at h
    simpa [fl] using h
  have HM := Lib.hid hmade
  clear hmade hi hz0 hz1 hz2
  go_enter Try.func141, Try.ntmps141
  go_wp2
  clear hmk
  go_loopw [13] (fun i wr => ∃ k : Nat, k ≤ s.length ∧ i = .int .i64 k ∧ wr.ownsRow w.heap.size 68 2 (.slice (some ⟨w.heap.size, 0, none⟩) s.length s.length) s.length (fl (T.take k) ++ List.replicate ((s.length - k) * 2) (I 0)) ∧ Below w.heap.size w wr) (fun i _ => s.length - (intOf i).toNat)
  case atStart => exact ⟨0, by omega, rfl, HM.out, (Below.refl _ _).alloc (Nat.le_refl _) _⟩
  case round =>
    obtain ⟨k, hk, rfl, hown, hbel⟩ := hrel
    have hsz : w.heap.size ≤ wr.heap.size := hbel.size
    by_cases hlt : k < s.length
    · obtain ⟨i1, i2, i3⟩ := HIN.out _ (List.getElem_mem hlt)
      obtain ⟨b, off, rfl, hb, hc1, hc2⟩ := (H.out.below' hbel (by omega)).stp hlt
      obtain ⟨x, hx⟩ : ∃ x : Nat, (s[k]).1 = x := ⟨(s[k]).1.toNat, by omega⟩
      obtain ⟨y, hy⟩ : ∃ y : Nat, (s[k]).2 = y := ⟨(s[k]).2.toNat, by omega⟩
      rw [hx] at hc1
      rw [hy] at hc2
      have hxl : x < nm.length := by omega
      have hyl : y < nm.length := by omega
      have hE := fun W hBW hrW => renamedStep_any B x y A2 c2 nm W hBW (by exact hxl) (by exact hyl) hrW
      have hta : T[k]'(by have := HTL.out; omega) = (leastI nm[x] nm[y], mostI nm[x] nm[y]) := by
        rw [HTA.out k hlt (by have := HTL.out; omega)]
        unfold stN stI
        rw [hx, hy]
        simp [hxl, hyl]
      have HE := Lib.hid hE
      have HTAK := Lib.hid hta
      have BEL := Lib.hid hbel
      have OWN := Lib.hid hown
      clear hown hbel hE hta hx hy i1 i2 i3
      go_wp2_with fail
      go_at_call 117
      generalize hw4 : World.alloc wr _ = w4
      obtain ⟨e0, e1, es, eb⟩ := box2 hw4
      clear hw4
      have hbw4 : Below w.heap.size w w4 := BEL.out.trans (eb.mono hsz)
      refine (HE.out w4 (by have := hbw4.size; omega) (HN.out.below' hbw4 hB)).mono ?_
      rintro e w5 ⟨rfl, hb5⟩
      have hb45 : Below wr.heap.size wr w5 := eb.trans (hb5.mono eb.size)
      have hown5 := own_below OWN.out hb45
      have hl : (fl (T.take k)).length = k * 2 := by rw [fl_length]; have := HTL.out; simp; omega
      have d0 : w5.cell? ⟨w.heap.size, k * 2, none⟩ = some (I 0) := by
        rw [hown5.cellAt _ (by omega)]
        exact rep_at (by omega) (by omega)
      have d1 : w5.cell? ⟨w.heap.size, k * 2 + 1, none⟩ = some (I 0) := by
        rw [hown5.cellAt _ (by omega)]
        exact rep_at (by omega) (by omega)
      have f0 : w5.frozen? ⟨w.heap.size, k * 2, none⟩ = false := hown5.frozenAt _
      have f1 : w5.frozen? ⟨w.heap.size, k * 2 + 1, none⟩ = false := hown5.frozenAt _
      have HB5 := Lib.hid (BEL.out.trans (hb45.mono hsz))
      have OWN5 := Lib.hid hown5
      clear hb5 hown5 hl hb45 hbw4 eb e0 e1
      go_wp2
      go_roundw
      case rel =>
        refine ⟨k + 1, by omega, by go_num, ?_, ((HB5.out.setCell (Nat.le_refl _) _).setCell (Nat.le_refl _) _)⟩
        have h := ((OWN5.out.stored (k * 2) (I (leastI nm[x] nm[y]))).1.stored (k * 2 + 1) (I (mostI nm[x] nm[y]))).1
        have hf := fill_step T k (by have := HTL.out; omega)
        rw [HTAK.out, HTL.out] at hf
        rw [hf] at h
        exact h
      case measure => simp [intOf]; omega
    · have hk' : k = s.length := by omega
      have BEL := Lib.hid hbel
      have OWN := Lib.hid hown
      subst hk'
      clear hown hbel
      go_wp2
      go_ret
      refine ⟨_, _, rfl, ?_, BEL.out⟩
      have h := OWN.out
      rw [List.take_of_length_le (by have := HTL.out; omega)] at h
      show World.ownsRow _ _ _ _ _ _ _
      rw [HTL.out]
      simpa using h
end Go.Proofs.Ytodjnafalbbmjaa
