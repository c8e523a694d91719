/- One product of the program. -/
import Derived.Test.YtpopomcaknbhnaaIb
namespace Go.Proofs.Ytpopomcaknbhnaa
open Go.RowKit

theorem six_form {l : List Int} (h : l.length = 6) : ∃ a0 a1 a2 a3 a4 a5, l = [a0, a1, a2, a3, a4, a5] := by
  match l, h with
  | [a0, a1, a2, a3, a4, a5], _ => exact ⟨a0, a1, a2, a3, a4, a5, rfl⟩

/-- What a product leaves. -/
def MulPost (B g o : Nat) (t : TypeId) (cs : Array Value) (rows : List (List Int)) (m : Option (List Int)) (w : World) (e : Ending) (w' : World) : Prop :=
  Below B w w' ∧ (match m with
    | none => e = .returned (.bool false)
    | some r => e = .returned (.bool true) ∧ ∃ A c, w'.heap[g]? = some (.cells (cs.setIfInBounds o (.slice A (rows.length + 1) c)) t (0, 0)) ∧
        w'.ownsRow B 170 6 (.slice A (rows.length + 1) c) (rows.length + 1) (fl6 (rows ++ [r])))

theorem mulPost_none {B g o : Nat} {t : TypeId} {cs : Array Value} {rows : List (List Int)} {m : Option (List Int)} {w w' : World} (hm : m = none) (hb : Below B w w') : MulPost B g o t cs rows m w (.returned (.bool false)) w' := by
  subst hm
  exact ⟨hb, rfl⟩

def pr (al bl : List Int) (k : Nat) : List Int := List.zipWith (· + ·) (al.take k) (bl.take k) ++ al.drop k

set_option maxRecDepth 100000 in
set_option maxHeartbeats 2000000 in
theorem multiply_any (B g o : Nat) (t : TypeId) (cs : Array Value) (A : Option Addr) (c : Nat) (rows : List (List Int)) (a b : Int) (w : World)
    (hB : B ≤ g) (hblk : w.heap[g]? = some (.cells cs t (0, 0))) (ht : t ≠ 170) (hcs : cs[o]? = some (.slice A rows.length c))
    (hown : w.ownsRow B 170 6 (.slice A rows.length c) rows.length (fl6 rows)) (hsix : Six rows) (hrng : ∀ r ∈ rows, ∀ x ∈ r, 0 ≤ x ∧ x ≤ 1000000) (hlen : rows.length ≤ 1000) (hBs : B ≤ w.heap.size) :
    Calls Try.prog 152 #[.pointer (some ⟨g, o, none⟩), .agg #[.int .i64 a, .int .i64 b]] w (MulPost B g o t cs rows (mulI rows a b) w) := by
  have hgl : g < w.heap.size := (Array.getElem?_eq_some_iff.1 hblk).1
  have hc0 : w.cell? ⟨g, o, none⟩ = some (.slice A rows.length c) := by rw [cell_of_row w g o cs t (0, 0) hblk]; exact hcs
  have hf0 : w.frozen? ⟨g, o, none⟩ = false := frozen_of_row w g o cs t hblk
  have HBLK := Lib.hid hblk
  have HCS := Lib.hid hcs
  have HOWN := Lib.hid hown
  have HSIX := Lib.hid hsix
  have HRNG := Lib.hid hrng
  have HT := Lib.hid ht
  have hc1 := cell_kept hc0
  clear hblk hcs hown hsix hrng ht
  by_cases h1 : a ≤ b
  case neg =>
    have e : mulI rows a b = none := by simp [mulI, h1]
    have E := Lib.hid e
    have h1' : b < a := by omega
    clear e h1
    go_enter Try.func152, Try.ntmps152
    go_wp2
    go_ret
    exact mulPost_none E.out ((Below.refl _ _).alloc hBs _)
  case pos =>
  obtain ⟨b2, hb2⟩ : ∃ x, hasB a rows.length = x := ⟨_, rfl⟩
  cases b2 with
  | false =>
    have e : mulI rows a b = none := by simp [mulI, hb2]
    have E := Lib.hid e
    clear e
    go_enter Try.func152, Try.ntmps152
    go_wp2_with (go_at_call 156; refine (has_any _ _ _ _ _ _ _ (hc1 _)).mono ?_; rintro e w' ⟨rfl, rfl⟩)
    go_ret
    exact mulPost_none E.out ((Below.refl _ _).alloc hBs _)
  | true =>
  obtain ⟨b3, hb3⟩ : ∃ x, hasB b rows.length = x := ⟨_, rfl⟩
  cases b3 with
  | false =>
    have e : mulI rows a b = none := by simp [mulI, hb3]
    have E := Lib.hid e
    clear e
    go_enter Try.func152, Try.ntmps152
    go_wp2_with (go_at_call 156; refine (has_any _ _ _ _ _ _ _ (hc1 _)).mono ?_; rintro e w' ⟨rfl, rfl⟩)
    go_ret
    exact mulPost_none E.out ((Below.refl _ _).alloc hBs _)
  | true =>
  have ha' : 0 ≤ a ∧ a < rows.length := by simpa [hasB] using hb2
  have hb' : 0 ≤ b ∧ b < rows.length := by simpa [hasB] using hb3
  obtain ⟨i, hi⟩ : ∃ i : Nat, a = i := ⟨a.toNat, by omega⟩
  obtain ⟨j, hj⟩ : ∃ j : Nat, b = j := ⟨b.toNat, by omega⟩
  subst hi
  subst hj
  have hil : i < rows.length := by omega
  have hjl : j < rows.length := by omega
  obtain ⟨a0, a1, a2, a3, a4, a5, hal⟩ := six_form (HSIX.out _ (List.getElem_mem hil))
  obtain ⟨d0, d1, d2, d3, d4, d5, hbl⟩ := six_form (HSIX.out _ (List.getElem_mem hjl))
  obtain ⟨gr, rfl, hgr, hgrl, hcell, _⟩ := own_at HOWN.out (by omega)
  have ca : ∀ q, q < 6 → w.cell? ⟨gr, i * 6 + q, none⟩ = some (I ([a0, a1, a2, a3, a4, a5].getD q 0)) := fun q hq => by rw [hcell _ (by omega), fl6_at HSIX.out hil hq, hal]
  have cb : ∀ q, q < 6 → w.cell? ⟨gr, j * 6 + q, none⟩ = some (I ([d0, d1, d2, d3, d4, d5].getD q 0)) := fun q hq => by rw [hcell _ (by omega), fl6_at HSIX.out hjl hq, hbl]
  have em : mulI rows i j = (if allB (List.zipWith (· + ·) [a0, a1, a2, a3, a4, a5] [d0, d1, d2, d3, d4, d5]) 0 1000000 then some (List.zipWith (· + ·) [a0, a1, a2, a3, a4, a5] [d0, d1, d2, d3, d4, d5]) else none) := by
    unfold mulI
    rw [hb2, hb3]
    simp [hal, hbl, hil, hjl, h1]
  have ra : ∀ q, q < 6 → 0 ≤ [a0, a1, a2, a3, a4, a5].getD q 0 ∧ [a0, a1, a2, a3, a4, a5].getD q 0 ≤ 1000000 := fun q hq => by
    have := HRNG.out _ (List.getElem_mem hil)
    rw [hal] at this
    have h := this ([a0, a1, a2, a3, a4, a5].getD q 0) (by simp [hq])
    exact h
  have rb : ∀ q, q < 6 → 0 ≤ [d0, d1, d2, d3, d4, d5].getD q 0 ∧ [d0, d1, d2, d3, d4, d5].getD q 0 ≤ 1000000 := fun q hq => by
    have := HRNG.out _ (List.getElem_mem hjl)
    rw [hbl] at this
    have h := this ([d0, d1, d2, d3, d4, d5].getD q 0) (by simp [hq])
    exact h
  have CA := Lib.hid ca
  have CB := Lib.hid cb
  have RA := Lib.hid ra
  have RB := Lib.hid rb
  have EM := Lib.hid em
  have C0 := Lib.hid hc0
  have HAL := Lib.hid hal
  have HBL := Lib.hid hbl
  clear ca cb ra rb em hal hbl hcell hc0
  go_enter Try.func152, Try.ntmps152
  go_wp2_with (go_at_call 156; refine (has_any _ _ _ _ _ _ _ (hc1 _)).mono ?_; rintro e w' ⟨rfl, rfl⟩)
  generalize hw1 : World.alloc w _ = w1
  obtain ⟨x0, x1, xs, xb⟩ := box2 hw1
  clear hc1 hf0 hw1
  have XB := Lib.hid xb
  have XS := Lib.hid xs
  clear xb xs
  have f0 := (XB.out.cell (p := ⟨g, o, none⟩) hgl).trans C0.out
  have fa : ∀ q, q < 6 → w1.cell? ⟨gr, i * 6 + q, none⟩ = some (I ([a0, a1, a2, a3, a4, a5].getD q 0)) := fun q hq => (XB.out.cell (p := ⟨gr, i * 6 + q, none⟩) hgrl).trans (CA.out q hq)
  have fb : ∀ q, q < 6 → w1.cell? ⟨gr, j * 6 + q, none⟩ = some (I ([d0, d1, d2, d3, d4, d5].getD q 0)) := fun q hq => (XB.out.cell (p := ⟨gr, j * 6 + q, none⟩) hgrl).trans (CB.out q hq)
  have FA := Lib.hid fa
  have FB := Lib.hid fb
  have ii : (i : Int) < (rows.length : Int) := by omega
  have ij : (j : Int) < (rows.length : Int) := by omega
  clear fa fb
  have HS : (fun x : World => x.cell? ⟨g, o, none⟩ = some (.slice (some ⟨gr, 0, none⟩) rows.length c) ∧ x.cell? ⟨w.heap.size, 0, none⟩ = some (.int .i64 i) ∧ x.cell? ⟨gr, i * 6, none⟩ = some (.int .i64 a0) ∧ x.cell? ⟨gr, i * 6 + 1, none⟩ = some (.int .i64 a1) ∧
      x.cell? ⟨gr, i * 6 + 2, none⟩ = some (.int .i64 a2) ∧ x.cell? ⟨gr, i * 6 + 3, none⟩ = some (.int .i64 a3) ∧ x.cell? ⟨gr, i * 6 + 4, none⟩ = some (.int .i64 a4) ∧ x.cell? ⟨gr, i * 6 + 5, none⟩ = some (.int .i64 a5)) w1.drew :=
    ⟨f0, x0, FA.out 0 (by omega), FA.out 1 (by omega), FA.out 2 (by omega), FA.out 3 (by omega), FA.out 4 (by omega), FA.out 5 (by omega)⟩
  refine wp_region_T (fun x : World => x.cell? ⟨g, o, none⟩ = some (.slice (some ⟨gr, 0, none⟩) rows.length c) ∧ x.cell? ⟨w.heap.size, 0, none⟩ = some (.int .i64 i) ∧ x.cell? ⟨gr, i * 6, none⟩ = some (.int .i64 a0) ∧ x.cell? ⟨gr, i * 6 + 1, none⟩ = some (.int .i64 a1) ∧
      x.cell? ⟨gr, i * 6 + 2, none⟩ = some (.int .i64 a2) ∧ x.cell? ⟨gr, i * 6 + 3, none⟩ = some (.int .i64 a3) ∧ x.cell? ⟨gr, i * 6 + 4, none⟩ = some (.int .i64 a4) ∧ x.cell? ⟨gr, i * 6 + 5, none⟩ = some (.int .i64 a5)) [0, 1, 2, 3, 4, 5, 6, 7] [3, 5, 7] (.lp 0 (.lp 1 (.lp 2 (.lp 4 (.ls 3 (.ls 5 (.lp 6 (.ls 7 (.hv 8 (.hv 9 (.done))))))))))) (by kernel_rfl) (by kernel_rfl) ?_
  have HS2 := Lib.hid HS
  clear f0 x0 HS
  (repeat (refine T_lp rfl (fun K hK => ?_); go_simp; refine hK _ ?_; clear hK K))
  refine T_ls1 (v := .slice (some ⟨gr, 0, none⟩) rows.length c) rfl rfl HS2.out (fun x hx => (by obtain ⟨h1, h2, _⟩ := hx; go_simp)) (fun K hK => ?_)
  (go_simp; refine hK _ ?_; clear hK K)
  refine T_ls1 (v := .int .i64 i) rfl rfl HS2.out (fun x hx => (by obtain ⟨h1, h2, _⟩ := hx; go_simp)) (fun K hK => ?_)
  (go_simp; refine hK _ ?_; clear hK K)
  (repeat (refine T_lp rfl (fun K hK => ?_); go_simp; refine hK _ ?_; clear hK K))
  refine T_ls1 (v := .agg #[.int .i64 a0, .int .i64 a1, .int .i64 a2, .int .i64 a3, .int .i64 a4, .int .i64 a5]) rfl rfl HS2.out (fun x hx => (by obtain ⟨h1, h2, h3, h4, h5, h6, h7, h8⟩ := hx; go_simp)) (fun K hK => ?_)
  (go_simp; refine hK _ ?_; clear hK K)
  refine T_hvS rfl (fun K hK => ?_)
  go_simp
  refine hK _ _ ⟨?_, ?_, ?_, ?_, ?_, ?_, ?_, ?_⟩ ?_
  · exact cell_kept HS2.out.1 _
  · exact cell_kept HS2.out.2.1 _
  · exact cell_kept HS2.out.2.2.1 _
  · exact cell_kept HS2.out.2.2.2.1 _
  · exact cell_kept HS2.out.2.2.2.2.1 _
  · exact cell_kept HS2.out.2.2.2.2.2.1 _
  · exact cell_kept HS2.out.2.2.2.2.2.2.1 _
  · exact cell_kept HS2.out.2.2.2.2.2.2.2 _
  clear hK K
  (refine T_hv rfl (by kernel_rfl) (fun K hK => ?_); go_simp; refine hK _ _ ?_; clear hK K)
  refine T_done ?_
  go_wp2
  generalize hw2 : World.drew (World.alloc w1 _) = w2
  have hgp : w2.heap[w1.heap.size]? = some (.cells #[.int .i64 a0, .int .i64 a1, .int .i64 a2, .int .i64 a3, .int .i64 a4, .int .i64 a5] 170 (0, 0)) := by rw [← hw2]; exact heap_alloc_new w1 _
  have hb12 : Below w1.heap.size w1 w2 := by rw [← hw2]; exact ((Below.refl _ _).alloc (Nat.le_refl _) _).drew
  have hs2 : w2.heap.size = w1.heap.size + 1 := by rw [← hw2]; simp
  clear hw2
  have hsz1 : w1.heap.size = w.heap.size + 1 := XS.out
  have f0 : w2.cell? ⟨g, o, none⟩ = some (.slice (some ⟨gr, 0, none⟩) rows.length c) := (hb12.cell (p := ⟨g, o, none⟩) (by simp only []; omega)).trans HS2.out.1
  have f1 : w2.cell? ⟨w.heap.size, 1, none⟩ = some (.int .i64 j) := (hb12.cell (p := ⟨w.heap.size, 1, none⟩) (by simp only []; omega)).trans x1
  have hgr1 : gr < w1.heap.size := by omega
  have g0 : w2.cell? ⟨gr, j * 6, none⟩ = some (.int .i64 d0) := (hb12.cell (p := ⟨gr, j * 6, none⟩) hgr1).trans (FB.out 0 (by omega))
  have g1 : w2.cell? ⟨gr, j * 6 + 1, none⟩ = some (.int .i64 d1) := (hb12.cell (p := ⟨gr, j * 6 + 1, none⟩) hgr1).trans (FB.out 1 (by omega))
  have g2 : w2.cell? ⟨gr, j * 6 + 2, none⟩ = some (.int .i64 d2) := (hb12.cell (p := ⟨gr, j * 6 + 2, none⟩) hgr1).trans (FB.out 2 (by omega))
  have g3 : w2.cell? ⟨gr, j * 6 + 3, none⟩ = some (.int .i64 d3) := (hb12.cell (p := ⟨gr, j * 6 + 3, none⟩) hgr1).trans (FB.out 3 (by omega))
  have g4 : w2.cell? ⟨gr, j * 6 + 4, none⟩ = some (.int .i64 d4) := (hb12.cell (p := ⟨gr, j * 6 + 4, none⟩) hgr1).trans (FB.out 4 (by omega))
  have g5 : w2.cell? ⟨gr, j * 6 + 5, none⟩ = some (.int .i64 d5) := (hb12.cell (p := ⟨gr, j * 6 + 5, none⟩) hgr1).trans (FB.out 5 (by omega))
  have HGP := Lib.hid hgp
  have HB12 := Lib.hid hb12
  have HS3 := Lib.hid hs2
  have HSZ1 := Lib.hid hsz1
  clear hgp hb12 hs2 hsz1
  refine wp_region_Tw [0, 1, 2, 3, 4, 5, 6, 7, 8] [3, 5, 7] (.lp 0 (.lp 1 (.lp 2 (.lp 4 (.lp 8 (.ls 3 (.ls 5 (.lp 6 (.ls 7 (.done)))))))))) (by kernel_rfl) (by kernel_rfl) ?_
  (repeat (first | (refine T_lp rfl (fun K hK => ?_); go_simp; refine hK _ ?_; clear hK K) | (refine T_ls rfl rfl (fun K hK => ?_); go_simp; refine hK _ ?_; clear hK K)))
  refine T_done ?_
  go_wp2
  clear g0 g1 g2 g3 g4 g5 f1 x1
  obtain ⟨al, hal⟩ : ∃ al, al = [a0, a1, a2, a3, a4, a5] := ⟨_, rfl⟩
  obtain ⟨bl, hbl⟩ : ∃ bl, bl = [d0, d1, d2, d3, d4, d5] := ⟨_, rfl⟩
  have HAL2 := Lib.hid hal
  have HBL2 := Lib.hid hbl
  clear hal hbl
  go_loopw [43] (fun q wr => ∃ k : Nat, k ≤ 6 ∧ q = .int .i64 k ∧ (∀ m, m < k → al.getD m 0 + bl.getD m 0 ≤ 1000000) ∧ w2.drew.grownBy wr (some w1.heap.size) ∧ wr.heap[w1.heap.size]? = some (.cells ((pr al bl k).map I).toArray 170 (0, 0))) (fun q _ => 6 - (intOf q).toNat)
  case atStart =>
    refine ⟨0, by omega, rfl, fun m hm => absurd hm (by omega), World.grownBy.refl _ _, ?_⟩
    rw [HAL2.out, HBL2.out]
    exact HGP.out
  case round =>
    obtain ⟨k, hk, rfl, hle, hgr2, hblk⟩ := hrel
    have HLE := Lib.hid hle
    have HG := Lib.hid hgr2
    have HBK := Lib.hid hblk
    clear hle hgr2 hblk
    by_cases hlt : k < 6
    · obtain ⟨x, hx⟩ : ∃ x, al.getD k 0 = x := ⟨_, rfl⟩
      obtain ⟨y, hy⟩ : ∃ y, bl.getD k 0 = y := ⟨_, rfl⟩
      have hx0 : 0 ≤ x ∧ x ≤ 1000000 := by have := RA.out k hlt; rw [← HAL2.out, hx] at this; exact this
      have hy0 : 0 ≤ y ∧ y ≤ 1000000 := by have := RB.out k hlt; rw [← HBL2.out, hy] at this; exact this
      have hidx : ∀ W, (Instr.index 170 (.agg #[.int .i64 d0, .int .i64 d1, .int .i64 d2, .int .i64 d3, .int .i64 d4, .int .i64 d5]) (.int .i64 (k : Int))).run Try.prog W = .ok (.int .i64 y) W := by
        have hk6 : k = 0 ∨ k = 1 ∨ k = 2 ∨ k = 3 ∨ k = 4 ∨ k = 5 := by omega
        rw [HBL2.out] at hy
        rcases hk6 with rfl | rfl | rfl | rfl | rfl | rfl <;> (subst hy; intro W; kernel_rfl)
      have hpk : (pr al bl k)[k]? = some x := by
        have hk6 : k = 0 ∨ k = 1 ∨ k = 2 ∨ k = 3 ∨ k = 4 ∨ k = 5 := by omega
        rw [HAL2.out] at hx
        rw [HAL2.out, HBL2.out]
        rcases hk6 with rfl | rfl | rfl | rfl | rfl | rfl <;> (subst hx; rfl)
      have hset : (pr al bl k).set k (x + y) = pr al bl (k + 1) := by
        have hk6 : k = 0 ∨ k = 1 ∨ k = 2 ∨ k = 3 ∨ k = 4 ∨ k = 5 := by omega
        rw [HAL2.out] at hx
        rw [HBL2.out] at hy
        rw [HAL2.out, HBL2.out]
        rcases hk6 with rfl | rfl | rfl | rfl | rfl | rfl <;> (subst hx; subst hy; rfl)
      have hc : wr.cell? ⟨w1.heap.size, k, none⟩ = some (.int .i64 x) := by rw [cell_of_row wr w1.heap.size k _ _ (0, 0) HBK.out]; simp [hpk, I]
      have hf : wr.frozen? ⟨w1.heap.size, k, none⟩ = false := frozen_of_row wr w1.heap.size k _ _ HBK.out
      have HX := Lib.hid hx
      have HY := Lib.hid hy
      have HSET := Lib.hid hset
      clear hx hy hset hpk
      by_cases hs : x + y ≤ 1000000
      · go_wp2
        go_roundw
        case rel =>
          refine ⟨k + 1, by omega, by go_num, ?_, grown_set HG.out _, ?_⟩
          · intro m hm
            by_cases hmk : m = k
            · rw [hmk, HX.out, HY.out]; exact hs
            · exact HLE.out m (by omega)
          · rw [heap_setCell_same wr w1.heap.size k _ _ _ HBK.out]
            simp only [List.setIfInBounds_toArray]
            rw [show (Value.int .i64 (x + y)) = I (x + y) from rfl, ← List.map_set, HSET.out]
        case measure => simp [intOf]; omega
      · go_wp2
        go_ret
        have e : mulI rows i j = none := by
          rw [EM.out, if_neg]
          rw [Bool.not_eq_true]
          unfold allB
          rw [List.all_eq_false]
          refine ⟨x + y, ?_, by simp [inB]; omega⟩
          rw [← HX.out, ← HY.out, HAL2.out, HBL2.out]
          have hk6 : k = 0 ∨ k = 1 ∨ k = 2 ∨ k = 3 ∨ k = 4 ∨ k = 5 := by omega
          rcases hk6 with rfl | rfl | rfl | rfl | rfl | rfl <;> simp
        refine mulPost_none e (((XB.out.mono hBs).trans (HB12.out.mono (by have := HSZ1.out; omega))).trans ?_)
        have hB1 : B ≤ w1.heap.size := by have := HSZ1.out; omega
        exact (((Below.refl B w2).drew).grown HG.out (by have := HS3.out; simp; omega) (fun q hq => by injection hq with hq; omega)).setCell hB1 _
    · have hk' : k = 6 := by omega
      subst hk'
      clear hlt hk
      have hpr : (pr al bl 6).map I = [I (a0 + d0), I (a1 + d1), I (a2 + d2), I (a3 + d3), I (a4 + d4), I (a5 + d5)] := by rw [HAL2.out, HBL2.out]; rfl
      have hb6 : wr.heap[w1.heap.size]? = some (.cells #[I (a0 + d0), I (a1 + d1), I (a2 + d2), I (a3 + d3), I (a4 + d4), I (a5 + d5)] 170 (0, 0)) := by rw [HBK.out, hpr]
      have p0 : wr.cell? ⟨w1.heap.size, 0, none⟩ = some (.int .i64 (a0 + d0)) := by rw [cell_of_row wr w1.heap.size 0 _ _ (0, 0) hb6]; rfl
      have p1 : wr.cell? ⟨w1.heap.size, 1, none⟩ = some (.int .i64 (a1 + d1)) := by rw [cell_of_row wr w1.heap.size 1 _ _ (0, 0) hb6]; rfl
      have p2 : wr.cell? ⟨w1.heap.size, 2, none⟩ = some (.int .i64 (a2 + d2)) := by rw [cell_of_row wr w1.heap.size 2 _ _ (0, 0) hb6]; rfl
      have p3 : wr.cell? ⟨w1.heap.size, 3, none⟩ = some (.int .i64 (a3 + d3)) := by rw [cell_of_row wr w1.heap.size 3 _ _ (0, 0) hb6]; rfl
      have p4 : wr.cell? ⟨w1.heap.size, 4, none⟩ = some (.int .i64 (a4 + d4)) := by rw [cell_of_row wr w1.heap.size 4 _ _ (0, 0) hb6]; rfl
      have p5 : wr.cell? ⟨w1.heap.size, 5, none⟩ = some (.int .i64 (a5 + d5)) := by rw [cell_of_row wr w1.heap.size 5 _ _ (0, 0) hb6]; rfl
      have hsz1 : w1.heap.size = w.heap.size + 1 := HSZ1.out
      have hg1 : g < w1.heap.size := by omega
      have hgw2 : w2.drew.heap[g]? = some (.cells cs t (0, 0)) := (HB12.out.block g hg1).trans ((XB.out.block g hgl).trans HBLK.out)
      have hgwr : wr.heap[g]? = some (.cells cs t (0, 0)) := (HG.out.block g (by have := HS3.out; simp; omega) (by intro h; injection h with h; omega)).trans hgw2
      have q0 : wr.cell? ⟨g, o, none⟩ = some (.slice (some ⟨gr, 0, none⟩) rows.length c) := by rw [cell_of_row wr g o cs t (0, 0) hgwr]; exact HCS.out
      have hown2 : wr.ownsRow B 170 6 (.slice (some ⟨gr, 0, none⟩) rows.length c) rows.length (fl6 rows) := by
        refine World.ownsRow.kept (w := w2.drew) (own_below' (own_below HOWN.out XB.out) HB12.out.drew (Nat.le_refl _)) HG.out (.inr ?_)
        simp only [Value.ownBlock, ne_eq, Option.some.injEq]
        omega
      have HOWN2 := Lib.hid hown2
      have HGWR := Lib.hid hgwr
      have HSW := (show w1.heap.size < wr.heap.size from (Array.getElem?_eq_some_iff.1 hb6).1)
      clear hpr hb6 hgw2 hgwr hown2 hsz1
      go_wp2
      have HS4 : (fun x : World => x.cell? ⟨g, o, none⟩ = some (.slice (some ⟨gr, 0, none⟩) rows.length c) ∧ x.cell? ⟨w1.heap.size, 0, none⟩ = some (.int .i64 (a0 + d0)) ∧ x.cell? ⟨w1.heap.size, 1, none⟩ = some (.int .i64 (a1 + d1)) ∧
          x.cell? ⟨w1.heap.size, 2, none⟩ = some (.int .i64 (a2 + d2)) ∧ x.cell? ⟨w1.heap.size, 3, none⟩ = some (.int .i64 (a3 + d3)) ∧ x.cell? ⟨w1.heap.size, 4, none⟩ = some (.int .i64 (a4 + d4)) ∧ x.cell? ⟨w1.heap.size, 5, none⟩ = some (.int .i64 (a5 + d5))) wr.drew := ⟨q0, p0, p1, p2, p3, p4, p5⟩
      have HS5 := Lib.hid HS4
      clear q0 p0 p1 p2 p3 p4 p5 HS4
      refine wp_region_T (fun x : World => x.cell? ⟨g, o, none⟩ = some (.slice (some ⟨gr, 0, none⟩) rows.length c) ∧ x.cell? ⟨w1.heap.size, 0, none⟩ = some (.int .i64 (a0 + d0)) ∧ x.cell? ⟨w1.heap.size, 1, none⟩ = some (.int .i64 (a1 + d1)) ∧
          x.cell? ⟨w1.heap.size, 2, none⟩ = some (.int .i64 (a2 + d2)) ∧ x.cell? ⟨w1.heap.size, 3, none⟩ = some (.int .i64 (a3 + d3)) ∧ x.cell? ⟨w1.heap.size, 4, none⟩ = some (.int .i64 (a4 + d4)) ∧ x.cell? ⟨w1.heap.size, 5, none⟩ = some (.int .i64 (a5 + d5))) [0, 1, 2, 3, 4, 5, 8, 9] [4, 5] (.lp 0 (.lp 1 (.lp 2 (.lp 3 (.ls 4 (.ls 5 (.hv 6 (.hv 7 (.lp 8 (.lp 9 (.hv 10 (.done)))))))))))) (by kernel_rfl) (by kernel_rfl) ?_
      (repeat (refine T_lp rfl (fun K hK => ?_); go_simp; refine hK _ ?_; clear hK K))
      refine T_ls1 (v := .slice (some ⟨gr, 0, none⟩) rows.length c) rfl rfl HS5.out (fun x hx => (by obtain ⟨h1, h2, _⟩ := hx; go_simp)) (fun K hK => ?_)
      (go_simp; refine hK _ ?_; clear hK K)
      refine T_ls1 (v := .agg #[.int .i64 (a0 + d0), .int .i64 (a1 + d1), .int .i64 (a2 + d2), .int .i64 (a3 + d3), .int .i64 (a4 + d4), .int .i64 (a5 + d5)]) rfl rfl HS5.out (fun x hx => (by obtain ⟨h1, h2, h3, h4, h5, h6, h7⟩ := hx; go_simp)) (fun K hK => ?_)
      (go_simp; refine hK _ ?_; clear hK K)
      refine T_hvS rfl (fun K hK => ?_)
      go_simp
      refine hK _ _ ⟨cell_kept HS5.out.1 _, cell_kept HS5.out.2.1 _, cell_kept HS5.out.2.2.1 _, cell_kept HS5.out.2.2.2.1 _, cell_kept HS5.out.2.2.2.2.1 _, cell_kept HS5.out.2.2.2.2.2.1 _, cell_kept HS5.out.2.2.2.2.2.2 _⟩ ?_
      clear hK K
      refine T_hv rfl (by kernel_rfl) (fun K hK => ?_)
      refine step_appN Try.underlying139 info_exp rfl (by omega) (by omega) rfl (.tmp 62) (.tmp 64) rfl B rows.length _ (fl6 rows) rfl (HOWN2.out.alloc _) wr.heap.size 1 [I (a0 + d0), I (a1 + d1), I (a2 + d2), I (a3 + d3), I (a4 + d4), I (a5 + d5)] rfl rfl ?_ ?_ (by omega) (by simp; omega) ?_
      · intro q hq
        have hk6 : q = 0 ∨ q = 1 ∨ q = 2 ∨ q = 3 ∨ q = 4 ∨ q = 5 := by omega
        rcases hk6 with rfl | rfl | rfl | rfl | rfl | rfl <;> (rw [World.cell?_drew, World.cell?_alloc_at _ _ _ _ rfl]; rfl)
      · intro u hu
        simp only [List.mem_cons, List.not_mem_nil, or_false] at hu
        rcases hu with rfl | rfl | rfl | rfl | rfl | rfl <;> rfl
      intro A4 c4 w4 hown4 hg4 hbel4
      have hg5 : w4.heap[g]? = some (.cells cs t (0, 0)) := by
        refine (hg4.block g ?_ ?_).trans ?_
        · have := (Array.getElem?_eq_some_iff.1 HGWR.out).1
          simp; omega
        · exact own_ne_blk HOWN2.out HGWR.out HT.out
        · exact (Below.heap_alloc wr _ g (Array.getElem?_eq_some_iff.1 HGWR.out).1).trans HGWR.out
      have k0 : w4.cell? ⟨g, o, none⟩ = some (.slice (some ⟨gr, 0, none⟩) rows.length c) := by rw [cell_of_row w4 g o cs t (0, 0) hg5]; exact HCS.out
      have k1 : w4.frozen? ⟨g, o, none⟩ = false := frozen_of_row w4 g o cs t hg5
      have K5 := Lib.hid hg5
      clear hg5
      (go_simp; refine hK _ _ ?_; clear hK K)
      (repeat (first | (refine T_lp rfl (fun K hK => ?_); go_simp; refine hK _ ?_; clear hK K) | (refine T_ls rfl rfl (fun K hK => ?_); go_simp; refine hK _ ?_; clear hK K)))
      (refine T_hv rfl (by kernel_rfl) (fun K hK => ?_); go_simp; refine hK _ _ ?_; clear hK K)
      refine T_done ?_
      go_wp2
      go_ret
      have hB1 : B ≤ w1.heap.size := by have := HSZ1.out; omega
      refine ⟨((XB.out.mono hBs).trans (HB12.out.mono hB1)).trans ((((((Below.refl B w2).drew).grown HG.out (by have := HS3.out; simp; omega) (fun q hq => by injection hq with hq; omega)).alloc (by omega) _).drew).trans (hbel4.setCell hB _) |> id), ?_⟩
      rw [EM.out, if_pos]
      · refine ⟨rfl, A4, c4, ?_, ?_⟩
        · rw [heap_setCell_same w4 g o cs t _ K5.out]
        · have h := own_set (o := o) hown4 K5.out HT.out (.slice A4 (rows.length + 1) c4)
          have e : fl6 (rows ++ [List.zipWith (· + ·) [a0, a1, a2, a3, a4, a5] [d0, d1, d2, d3, d4, d5]]) = fl6 rows ++ [I (a0 + d0), I (a1 + d1), I (a2 + d2), I (a3 + d3), I (a4 + d4), I (a5 + d5)] := by
            simp [fl6]
          rw [e]
          exact h
      · unfold allB
        rw [List.all_eq_true]
        intro x hx
        rw [List.mem_iff_getElem] at hx
        obtain ⟨q, hq, rfl⟩ := hx
        have hq6 : q < 6 := by simpa using hq
        have l1 := HLE.out q hq6
        have l2 := RA.out q hq6
        have l3 := RB.out q hq6
        rw [HAL2.out, HBL2.out] at l1
        have hk6 : q = 0 ∨ q = 1 ∨ q = 2 ∨ q = 3 ∨ q = 4 ∨ q = 5 := by omega
        rcases hk6 with rfl | rfl | rfl | rfl | rfl | rfl <;> (simp at l1 l2 l3; simp [inB]; omega)
end Go.Proofs.Ytpopomcaknbhnaa
