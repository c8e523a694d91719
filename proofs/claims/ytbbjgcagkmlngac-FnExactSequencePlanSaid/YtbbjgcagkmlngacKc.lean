/- New numbers of values: the program's small functions. -/
import Derived.Test.YtbbjgcagkmlngacKa
import Derived.Test.YtbbjgcagkmlngacFa
namespace Go.Proofs.Ytbbjgcagkmlngac
open Go.RowKit

def ups (n : Nat) : List Int := (List.range n).map fun i : Nat => (i : Int)
theorem ups_length (n : Nat) : (ups n).length = n := by simp [ups]
theorem ups_succ (n : Nat) : ups (n + 1) = ups n ++ [(n : Int)] := by
  unfold ups
  rw [List.range_succ, List.map_append]
  rfl
/-- One more cell of a row that is being filled. -/
theorem fill_next (l : List Int) (x : Int) {n k : Nat} (hl : l.length = k) (hk : k < n) :
    (l.map I ++ List.replicate (n - k) (I 0)).set k (I x) = (l ++ [x]).map I ++ List.replicate (n - (k + 1)) (I 0) := by
  rw [List.set_append_right _ _ (by simp; omega), List.length_map, hl, Nat.sub_self, show n - k = (n - (k + 1)) + 1 from by omega, List.replicate_succ, List.set_cons_zero]
  simp
theorem zeros_row {w : World} {B : Nat} (n : Nat) (hn : n ≤ 1000) (hB : B ≤ w.heap.size) :
    (w.alloc (.cells (madeCells #[Value.int .i64 0] n) 3)).ownsRow B 3 1 (.slice (some ⟨w.heap.size, 0, none⟩) n n) n (List.replicate n (I 0)) := by
  have h := World.ownsRow_lit (base := B) (e := 3) (size := 1) w (madeCells #[Value.int .i64 0] n) n hB (by unfold maxLen; omega) (by simp [size_madeCells])
  rw [toList_madeCells_one] at h
  exact h

set_option maxRecDepth 100000 in
set_option maxHeartbeats 1000000 in
theorem firstNumbers_any (N : Nat) (w : World) (h6 : N ≤ 1000) :
    Calls Try.prog 94 #[.int .i64 (N : Int)] w fun e w' => ∃ A c, e = .returned (.slice A N c) ∧ OwI w' w.heap.size (.slice A N c) (ups N) ∧ Below w.heap.size w w' := by
  have hmk := run_make_row' (P := Try.prog) 22 3 (.int .i64 0) 8 Try.underlying22 info_int rfl .i64 .i64 N (by omega) (by omega)
  go_enter Try.func94, Try.ntmps94
  go_wp2
  clear hmk
  generalize hw2 : World.alloc w _ = w2
  have hmade : w2.ownsRow w.heap.size 3 1 (.slice (some ⟨w.heap.size, 0, none⟩) N N) N (List.replicate N (I 0)) := by rw [← hw2]; exact zeros_row N h6 (Nat.le_refl _)
  have hb2 : Below w.heap.size w w2 := by rw [← hw2]; exact (Below.refl _ _).alloc (Nat.le_refl _) _
  clear hw2
  have HM := Lib.hid hmade
  have HB2 := Lib.hid hb2
  clear hmade hb2
  go_loopw [9] (fun i wr => ∃ k : Nat, k ≤ N ∧ i = .int .i64 k ∧ wr.ownsRow w.heap.size 3 1 (.slice (some ⟨w.heap.size, 0, none⟩) N N) N ((ups k).map I ++ List.replicate (N - k) (I 0)) ∧ Below w.heap.size w wr) (fun i _ => N - (intOf i).toNat)
  case atStart => exact ⟨0, by omega, rfl, by simpa [ups] using HM.out, HB2.out⟩
  case round =>
    obtain ⟨k, hk, rfl, hown, hbel⟩ := hrel
    have OWN := Lib.hid hown
    have BEL := Lib.hid hbel
    by_cases hlt : k < N
    · have hc : wr.cell? ⟨w.heap.size, k, none⟩ = some (I 0) := by
        rw [hown.cellAt _ (by omega)]
        exact rep_at (by simp [ups_length]) (by simp [ups_length]; omega)
      have hf : wr.frozen? ⟨w.heap.size, k, none⟩ = false := hown.frozenAt _
      clear hown hbel
      go_wp2
      go_roundw
      case rel =>
        refine ⟨k + 1, by omega, by go_num, ?_, BEL.out.setCell (Nat.le_refl _) _⟩
        have h := (OWN.out.stored k (I (k : Int))).1
        rw [fill_next (ups k) k (ups_length k) hlt, ← ups_succ] at h
        exact h
      case measure => simp [intOf]; omega
    · have hk' : k = N := by omega
      subst hk'
      clear hown hbel
      go_wp2
      go_ret
      have h := OWN.out
      refine ⟨_, _, rfl, ?_, BEL.out⟩
      show World.ownsRow _ _ _ _ _ _ _
      rw [ups_length]
      simpa using h

set_option maxRecDepth 100000 in
set_option maxHeartbeats 1000000 in
theorem renamed_any (B : Nat) (A A' : Option Addr) (c c' : Nat) (o nm : List Int) (w : World) (hm : o.length ≤ 1000) (hB : B ≤ w.heap.size) (hin : ∀ x ∈ o, 0 ≤ x ∧ x < nm.length) (hr : Rd w B 1 A o.length (o.map I)) (hr' : Rd w B 1 A' nm.length (nm.map I)) :
    Calls Try.prog 96 #[.slice A o.length c, .slice A' nm.length c'] w fun e w' => ∃ A2 c2, e = .returned (.slice A2 o.length c2) ∧ OwI w' w.heap.size (.slice A2 o.length c2) (o.map fun x => nm.getD x.toNat 0) ∧ Below w.heap.size w w' := by
  have H := Lib.hid hr
  have H' := Lib.hid hr'
  have HIN := Lib.hid hin
  clear hr hr' hin
  have hmk := run_make_row' (P := Try.prog) 22 3 (.int .i64 0) 8 Try.underlying22 info_int rfl .i64 .i64 o.length (by omega) (by omega)
  go_enter Try.func96, Try.ntmps96
  go_wp2
  clear hmk
  generalize hw2 : World.alloc w _ = w2
  have hmade : w2.ownsRow w.heap.size 3 1 (.slice (some ⟨w.heap.size, 0, none⟩) o.length o.length) o.length (List.replicate o.length (I 0)) := by rw [← hw2]; exact zeros_row o.length hm (Nat.le_refl _)
  have hb2 : Below w.heap.size w w2 := by rw [← hw2]; exact (Below.refl _ _).alloc (Nat.le_refl _) _
  clear hw2
  have HM := Lib.hid hmade
  have HB2 := Lib.hid hb2
  clear hmade hb2
  go_loopw [13] (fun i wr => ∃ k : Nat, k ≤ o.length ∧ i = .int .i64 k ∧ wr.ownsRow w.heap.size 3 1 (.slice (some ⟨w.heap.size, 0, none⟩) o.length o.length) o.length (((o.take k).map fun x => nm.getD x.toNat 0).map I ++ List.replicate (o.length - k) (I 0)) ∧ Below w.heap.size w wr) (fun i _ => o.length - (intOf i).toNat)
  case atStart => exact ⟨0, by omega, rfl, by simpa using HM.out, HB2.out⟩
  case round =>
    obtain ⟨k, hk, rfl, hown, hbel⟩ := hrel
    have OWN := Lib.hid hown
    have BEL := Lib.hid hbel
    by_cases hlt : k < o.length
    · obtain ⟨ob, oo, rfl, hob, hoc⟩ := (H.out.below' hbel hB).int hlt
      obtain ⟨q1, q2⟩ := HIN.out _ (List.getElem_mem hlt)
      obtain ⟨v, hv⟩ : ∃ v : Nat, o[k] = v := ⟨(o[k]).toNat, by omega⟩
      rw [hv] at hoc q2
      have hvl : v < nm.length := by omega
      obtain ⟨nb, no, rfl, hnb, hnc⟩ := (H'.out.below' hbel hB).int hvl
      have hkl : (List.map I (List.map (fun x => nm.getD x.toNat 0) (List.take k o))).length = k := by simp; omega
      have hc : wr.cell? ⟨w.heap.size, k, none⟩ = some (I 0) := by
        rw [hown.cellAt _ (by omega)]
        exact rep_at (by omega) (by omega)
      have hf : wr.frozen? ⟨w.heap.size, k, none⟩ = false := hown.frozenAt _
      have HV := Lib.hid hv
      clear hown hbel hkl hv q1
      go_wp2
      go_roundw
      case rel =>
        refine ⟨k + 1, by omega, by go_num, ?_, BEL.out.setCell (Nat.le_refl _) _⟩
        have h := (OWN.out.stored k (I nm[v])).1
        rw [fill_next _ nm[v] (by simp; omega) hlt] at h
        have e : (List.take (k + 1) o).map (fun x => nm.getD x.toNat 0) = (List.take k o).map (fun x => nm.getD x.toNat 0) ++ [nm[v]] := by
          rw [List.take_succ_eq_append_getElem hlt, List.map_append, HV.out]
          simp [hvl]
        rw [e]
        exact h
      case measure => simp [intOf]; omega
    · have hk' : k = o.length := by omega
      subst hk'
      clear hown hbel
      go_wp2
      go_ret
      have h := OWN.out
      rw [List.take_of_length_le (Nat.le_refl _)] at h
      refine ⟨_, _, rfl, ?_, BEL.out⟩
      show World.ownsRow _ _ _ _ _ _ _
      rw [List.length_map]
      simpa using h


set_option maxRecDepth 100000 in
set_option maxHeartbeats 1000000 in
theorem renamedStep_any (B a b : Nat) (A : Option Addr) (c : Nat) (nm : List Int) (w : World) (hB : B ≤ w.heap.size) (ha : a < nm.length) (hb : b < nm.length) (hr : Rd w B 1 A nm.length (nm.map I)) :
    Calls Try.prog 95 #[.agg #[.int .i64 (a : Int), .int .i64 (b : Int)], .slice A nm.length c] w fun e w' => e = .returned (.agg #[.int .i64 (leastI nm[a] nm[b]), .int .i64 (mostI nm[a] nm[b])]) ∧ Below w.heap.size w w' := by
  obtain ⟨nb, no, rfl, hnb, hca⟩ := hr.int ha
  obtain ⟨nb', no', h2, _, hcb⟩ := hr.int hb
  obtain ⟨rfl, rfl⟩ : nb = nb' ∧ no = no' := by
    injection h2 with h2
    injection h2 with e1 e2
    exact ⟨e1, e2⟩
  have ia : (a : Int) < (nm.length : Int) := by omega
  have ib : (b : Int) < (nm.length : Int) := by omega
  clear hr h2
  obtain ⟨x, hx⟩ : ∃ x, nm[a] = x := ⟨_, rfl⟩
  obtain ⟨y, hy⟩ : ∃ y, nm[b] = y := ⟨_, rfl⟩
  rw [hx] at hca
  rw [hy] at hcb
  rw [hx, hy]
  clear hx hy
  have hcases : (x < y ∧ leastI x y = x ∧ mostI x y = y) ∨ (x = y ∧ leastI x y = x ∧ mostI x y = x) ∨ (y < x ∧ leastI x y = y ∧ mostI x y = x) := by
    unfold leastI mostI
    split <;> split <;> omega
  rcases hcases with ⟨hlt, e1, e2⟩ | ⟨hlt, e1, e2⟩ | ⟨hlt, e1, e2⟩
  · rw [e1, e2]
    clear e1 e2
    go_enter Try.func95, Try.ntmps95
    go_wp2
    generalize hw1 : World.alloc (World.alloc w _) _ = w1
    have q0 : w1.heap[w.heap.size]? = some (.cells #[.int .i64 (a : Int), .int .i64 (b : Int)] 51 (0, 0)) := by
      rw [← hw1, Below.heap_alloc _ _ _ (by simp)]; exact heap_alloc_new w _
    have q1 : w1.heap[w.heap.size + 1]? = some (.cells #[.int .i64 0, .int .i64 0] 51 (0, 0)) := by
      rw [← hw1]
      have := heap_alloc_new (w.alloc (.cells #[.int .i64 (a : Int), .int .i64 (b : Int)] 51)) (.cells #[.int .i64 0, .int .i64 0] 51)
      simpa using this
    have hb1 : Below w.heap.size w w1 := by rw [← hw1]; exact ((Below.refl _ _).alloc (Nat.le_refl _) _).alloc (by simp) _
    clear hw1
    have x0 : w1.cell? ⟨w.heap.size, 0, none⟩ = some (.int .i64 (a : Int)) := by rw [cell_of_row w1 _ 0 _ _ (0, 0) q0]; rfl
    have x1 : w1.cell? ⟨w.heap.size, 1, none⟩ = some (.int .i64 (b : Int)) := by rw [cell_of_row w1 _ 1 _ _ (0, 0) q0]; rfl
    have y0 : w1.cell? ⟨w.heap.size + 1, 0, none⟩ = some (.int .i64 0) := by rw [cell_of_row w1 _ 0 _ _ (0, 0) q1]; rfl
    have y1 : w1.cell? ⟨w.heap.size + 1, 1, none⟩ = some (.int .i64 0) := by rw [cell_of_row w1 _ 1 _ _ (0, 0) q1]; rfl
    have g0 : w1.frozen? ⟨w.heap.size + 1, 0, none⟩ = false := frozen_of_row w1 _ 0 _ _ q1
    have g1 : w1.frozen? ⟨w.heap.size + 1, 1, none⟩ = false := frozen_of_row w1 _ 1 _ _ q1
    have za : w1.cell? ⟨nb, no + a, none⟩ = _ := (hb1.cell (p := ⟨nb, no + a, none⟩) (by simp only []; omega)).trans hca
    have zb : w1.cell? ⟨nb, no + b, none⟩ = _ := (hb1.cell (p := ⟨nb, no + b, none⟩) (by simp only []; omega)).trans hcb
    have HB1 := Lib.hid hb1
    clear q0 q1 hca hcb hb1
    refine wp_region_Tw [0, 1, 2, 3, 4, 5, 6, 7, 8, 9, 10, 11] [2, 4, 7, 9] (.lp 0 (.lp 1 (.lp 5 (.lp 6 (.ls 2 (.lp 3 (.ls 4 (.lp 10 (.ls 7 (.lp 8 (.ls 9 (.lp 11 (.done))))))))))))) (by kernel_rfl) (by kernel_rfl) ?_
    (repeat (first | (refine T_lp rfl (fun K hK => ?_); go_simp; refine hK _ ?_; clear hK K) | (refine T_ls rfl rfl (fun K hK => ?_); go_simp; refine hK _ ?_; clear hK K)))
    refine T_done ?_
    go_wp2
    refine bodyPost_ret (v := .agg #[.int .i64 x, .int .i64 y]) (by simp [results, Try.results95, go_sem, y0, y1]) rfl ⟨rfl, ?_⟩
    exact ((HB1.out.setCell (by simp) _).setCell (by simp) _).drew
  · rw [e1, e2]
    clear e1 e2
    subst hlt
    go_enter Try.func95, Try.ntmps95
    go_wp2
    generalize hw1 : World.alloc (World.alloc w _) _ = w1
    have q0 : w1.heap[w.heap.size]? = some (.cells #[.int .i64 (a : Int), .int .i64 (b : Int)] 51 (0, 0)) := by
      rw [← hw1, Below.heap_alloc _ _ _ (by simp)]; exact heap_alloc_new w _
    have q1 : w1.heap[w.heap.size + 1]? = some (.cells #[.int .i64 0, .int .i64 0] 51 (0, 0)) := by
      rw [← hw1]
      have := heap_alloc_new (w.alloc (.cells #[.int .i64 (a : Int), .int .i64 (b : Int)] 51)) (.cells #[.int .i64 0, .int .i64 0] 51)
      simpa using this
    have hb1 : Below w.heap.size w w1 := by rw [← hw1]; exact ((Below.refl _ _).alloc (Nat.le_refl _) _).alloc (by simp) _
    clear hw1
    have x0 : w1.cell? ⟨w.heap.size, 0, none⟩ = some (.int .i64 (a : Int)) := by rw [cell_of_row w1 _ 0 _ _ (0, 0) q0]; rfl
    have x1 : w1.cell? ⟨w.heap.size, 1, none⟩ = some (.int .i64 (b : Int)) := by rw [cell_of_row w1 _ 1 _ _ (0, 0) q0]; rfl
    have y0 : w1.cell? ⟨w.heap.size + 1, 0, none⟩ = some (.int .i64 0) := by rw [cell_of_row w1 _ 0 _ _ (0, 0) q1]; rfl
    have y1 : w1.cell? ⟨w.heap.size + 1, 1, none⟩ = some (.int .i64 0) := by rw [cell_of_row w1 _ 1 _ _ (0, 0) q1]; rfl
    have g0 : w1.frozen? ⟨w.heap.size + 1, 0, none⟩ = false := frozen_of_row w1 _ 0 _ _ q1
    have g1 : w1.frozen? ⟨w.heap.size + 1, 1, none⟩ = false := frozen_of_row w1 _ 1 _ _ q1
    have za : w1.cell? ⟨nb, no + a, none⟩ = _ := (hb1.cell (p := ⟨nb, no + a, none⟩) (by simp only []; omega)).trans hca
    have zb : w1.cell? ⟨nb, no + b, none⟩ = _ := (hb1.cell (p := ⟨nb, no + b, none⟩) (by simp only []; omega)).trans hcb
    have HB1 := Lib.hid hb1
    clear q0 q1 hca hcb hb1
    refine wp_region_Tw [0, 1, 2, 3, 4, 5, 6, 7, 8, 9, 10, 11] [2, 4, 7, 9] (.lp 0 (.lp 1 (.lp 5 (.lp 6 (.ls 2 (.lp 3 (.ls 4 (.lp 10 (.ls 7 (.lp 8 (.ls 9 (.lp 11 (.done))))))))))))) (by kernel_rfl) (by kernel_rfl) ?_
    (repeat (first | (refine T_lp rfl (fun K hK => ?_); go_simp; refine hK _ ?_; clear hK K) | (refine T_ls rfl rfl (fun K hK => ?_); go_simp; refine hK _ ?_; clear hK K)))
    refine T_done ?_
    go_wp2
    refine bodyPost_ret (v := .agg #[.int .i64 x, .int .i64 x]) (by simp [results, Try.results95, go_sem, y0, y1]) rfl ⟨rfl, ?_⟩
    exact ((HB1.out.setCell (by simp) _).setCell (by simp) _).drew
  · rw [e1, e2]
    clear e1 e2
    go_enter Try.func95, Try.ntmps95
    go_wp2
    generalize hw1 : World.alloc (World.alloc w _) _ = w1
    have q0 : w1.heap[w.heap.size]? = some (.cells #[.int .i64 (a : Int), .int .i64 (b : Int)] 51 (0, 0)) := by
      rw [← hw1, Below.heap_alloc _ _ _ (by simp)]; exact heap_alloc_new w _
    have q1 : w1.heap[w.heap.size + 1]? = some (.cells #[.int .i64 0, .int .i64 0] 51 (0, 0)) := by
      rw [← hw1]
      have := heap_alloc_new (w.alloc (.cells #[.int .i64 (a : Int), .int .i64 (b : Int)] 51)) (.cells #[.int .i64 0, .int .i64 0] 51)
      simpa using this
    have hb1 : Below w.heap.size w w1 := by rw [← hw1]; exact ((Below.refl _ _).alloc (Nat.le_refl _) _).alloc (by simp) _
    clear hw1
    have x0 : w1.cell? ⟨w.heap.size, 0, none⟩ = some (.int .i64 (a : Int)) := by rw [cell_of_row w1 _ 0 _ _ (0, 0) q0]; rfl
    have x1 : w1.cell? ⟨w.heap.size, 1, none⟩ = some (.int .i64 (b : Int)) := by rw [cell_of_row w1 _ 1 _ _ (0, 0) q0]; rfl
    have y0 : w1.cell? ⟨w.heap.size + 1, 0, none⟩ = some (.int .i64 0) := by rw [cell_of_row w1 _ 0 _ _ (0, 0) q1]; rfl
    have y1 : w1.cell? ⟨w.heap.size + 1, 1, none⟩ = some (.int .i64 0) := by rw [cell_of_row w1 _ 1 _ _ (0, 0) q1]; rfl
    have g0 : w1.frozen? ⟨w.heap.size + 1, 0, none⟩ = false := frozen_of_row w1 _ 0 _ _ q1
    have g1 : w1.frozen? ⟨w.heap.size + 1, 1, none⟩ = false := frozen_of_row w1 _ 1 _ _ q1
    have za : w1.cell? ⟨nb, no + a, none⟩ = _ := (hb1.cell (p := ⟨nb, no + a, none⟩) (by simp only []; omega)).trans hca
    have zb : w1.cell? ⟨nb, no + b, none⟩ = _ := (hb1.cell (p := ⟨nb, no + b, none⟩) (by simp only []; omega)).trans hcb
    have HB1 := Lib.hid hb1
    clear q0 q1 hca hcb hb1
    refine wp_region_Tw [0, 1, 2, 3, 4, 5, 6, 7, 8, 9, 10, 11] [2, 4, 7, 9] (.lp 0 (.lp 1 (.lp 5 (.lp 6 (.ls 2 (.lp 3 (.ls 4 (.lp 10 (.ls 7 (.lp 8 (.ls 9 (.lp 11 (.done))))))))))))) (by kernel_rfl) (by kernel_rfl) ?_
    (repeat (first | (refine T_lp rfl (fun K hK => ?_); go_simp; refine hK _ ?_; clear hK K) | (refine T_ls rfl rfl (fun K hK => ?_); go_simp; refine hK _ ?_; clear hK K)))
    refine T_done ?_
    go_wp2
    refine bodyPost_ret (v := .agg #[.int .i64 y, .int .i64 x]) (by simp [results, Try.results95, go_sem, y0, y1]) rfl ⟨rfl, ?_⟩
    exact ((HB1.out.setCell (by simp) _).setCell (by simp) _).drew
end Go.Proofs.Ytbbjgcagkmlngac
