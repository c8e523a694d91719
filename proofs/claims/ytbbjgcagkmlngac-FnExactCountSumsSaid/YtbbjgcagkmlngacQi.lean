/- How many sums each number of a chain has. -/
import Derived.Test.YtbbjgcagkmlngacQg
namespace Go.Proofs.Ytbbjgcagkmlngac
open Go.RowKit

def cntK (l : List Int) (k : Nat) : List Int := (List.range k).map fun i => ((prs l i i).length : Int)
def cntS (l : List Int) : List Int := if chG l then cntK l l.length else []
theorem cntK_succ (l : List Int) (k : Nat) : cntK l (k + 1) = cntK l k ++ [((prs l k k).length : Int)] := by
  unfold cntK
  rw [List.range_succ, List.map_append]
  rfl
theorem cntK_length (l : List Int) (k : Nat) : (cntK l k).length = k := by simp [cntK]
theorem cntS_true {l : List Int} (h : chG l = true) : cntS l = cntK l l.length := by unfold cntS; rw [if_pos h]
theorem cntS_false {l : List Int} (h : chG l = false) : cntS l = [] := by unfold cntS; rw [h]; rfl
theorem cntS_le (l : List Int) : (cntS l).length ≤ 1000 := by
  unfold cntS
  split
  · rename_i h
    rw [cntK_length]
    have := (chG_chn h).most
    omega
  · simp
theorem zeros_rowQ {w : World} {B : Nat} (n : Nat) (hn : n ≤ 1000) (hB : B ≤ w.heap.size) :
    (w.alloc (.cells (madeCells #[Value.int .i64 0] n) 3)).ownsRow B 3 1 (.slice (some ⟨w.heap.size, 0, none⟩) n n) n (List.replicate n (I 0)) := by
  have h := World.ownsRow_lit (base := B) (e := 3) (size := 1) w (madeCells #[Value.int .i64 0] n) n hB (by unfold maxLen; omega) (by simp [size_madeCells])
  rw [toList_madeCells_one] at h
  exact h
theorem fill_nextQ {N k : Nat} (xs : List Int) (x : Int) (hx : xs.length = k) (hk : k < N) :
    (xs.map I ++ List.replicate (N - k) (I 0)).set k (I x) = (xs ++ [x]).map I ++ List.replicate (N - (k + 1)) (I 0) := by
  subst hx
  rw [List.set_append_right _ _ (by simp), List.map_append, List.append_assoc]
  congr 1
  rw [show N - xs.length = (N - (xs.length + 1)) + 1 by omega, List.replicate_succ]
  simp

set_option maxRecDepth 100000 in
set_option maxHeartbeats 2000000 in
theorem specCountSums_any (B : Nat) (A : Option Addr) (c : Nat) (l : List Int) (w : World) (hB : B ≤ w.heap.size) (hl : l.length ≤ 1048576) (_hcap : l.length ≤ c) (hr : Rd w B 1 A l.length (l.map I)) :
    Calls Try.prog 27 #[.slice A l.length c] w fun e w' =>
      ∃ A' c', e = .returned (.tuple #[.slice A' (cntS l).length c', .bool (chG l)]) ∧ OwI w' w.heap.size (.slice A' (cntS l).length c') (cntS l) ∧ Below w.heap.size w w' := by
  have hS := chGood_any B A c l w hl hB hr
  cases hg : chG l with
  | false =>
    rw [hg] at hS
    have HS := Lib.hid hS
    have GG := Lib.hid hg
    clear hS hr hg
    go_enter Try.func27, Try.ntmps27
    go_wp2_with (go_at_call 49; refine HS.out.mono ?_; rintro e w2 ⟨rfl, hb2⟩)
    go_ret2
    exact ⟨none, 0, by rw [cntS_false GG.out]; rfl, by rw [cntS_false GG.out]; exact OwI.nil _ _, hb2⟩
  | true =>
    rw [hg] at hS
    have HS := Lib.hid hS
    have H := Lib.hid hr
    have GG := Lib.hid hg
    have CH := Lib.hid (chG_chn hg)
    have hl2 := CH.out.most
    clear hS hr hg
    go_enter Try.func27, Try.ntmps27
    go_wp2_with (go_at_call 49; refine HS.out.mono ?_; rintro e w2 ⟨rfl, hb2⟩)
    have HB2 := Lib.hid hb2
    have hs2 : w.heap.size ≤ w2.heap.size := hb2.size
    clear hb2
    go_loopw [4, 11] (fun ov iv wr => ∃ (k : Nat) (A1 : Option Addr) (c1 : Nat), k ≤ l.length ∧ iv = .int .i64 k ∧ ov = .slice A1 k c1 ∧ wr.ownsRow w.heap.size 3 1 (.slice A1 k c1) k ((cntK l k).map I) ∧ Below w.heap.size w wr) (fun _ i _ => l.length - (intOf i).toNat)
    case atStart => exact ⟨0, none, 0, by omega, rfl, rfl, World.ownsRow_nil _ _ _ _, HB2.out⟩
    case round =>
      obtain ⟨k, A1, c1, hk, rfl, rfl, hown, hbel⟩ := hrel
      have OWN := Lib.hid hown
      have BEL := Lib.hid hbel
      have hs : w.heap.size ≤ wr.heap.size := hbel.size
      clear hown hbel
      by_cases hlt : k < l.length
      · have ik : (k : Int) < (l.length : Int) := by omega
        have hP := chPairs_any B A c k l wr hl2 hlt CH.out.rng CH.out.asc (by omega) (H.out.below' BEL.out hB)
        have SUC := Lib.hid (cntK_succ l k)
        obtain ⟨q, hq⟩ : ∃ q, (prs l k k).length = q := ⟨_, rfl⟩
        have hqb : q ≤ 41 := by rw [← hq]; exact Nat.le_trans (prs_le CH.out.asc k k (by omega)) (by omega)
        rw [hq] at hP
        have HP := Lib.hid hP
        have HQ := Lib.hid hq
        clear hP hq
        go_wp2_with (first
          | (go_at_call 55; refine HP.out.mono ?_; rintro e w3 ⟨A', c', rfl, _, hb3⟩; have OW3 := Lib.hid (own_below OWN.out hb3); have BE3 := Lib.hid (BEL.out.trans (hb3.mono hs)); have hs3 : wr.heap.size ≤ w3.heap.size := hb3.size; clear hb3)
          | (at_builtin; refine list_step (fun K hK => ?_); refine step_app1 Try.underlying22 info_int rfl (by omega) rfl (.tmp 14) (.tmp 19) rfl w.heap.size k _ ((cntK l k).map I) rfl (World.ownsRow.alloc OW3.out _) w3.heap.size 1 (I (q : Int)) rfl (by rw [World.cell?_alloc_at _ _ _ _ rfl]; rfl) rfl (by omega) (by simp; omega) ?_; intro A5 c5 w6 hown6 hg6 hbel6; go_simp; refine hK _ _ ?_; clear hK K))
        go_roundw
        case rel =>
          refine ⟨k + 1, A5, c5, by omega, by go_num, rfl, ?_, (BE3.out.alloc (by omega) _).trans hbel6⟩
          rw [SUC.out, HQ.out, List.map_append]
          exact hown6
        case measure => simp [intOf]; omega
      · have e : k = l.length := by omega
        subst e
        go_wp2
        go_ret2
        refine ⟨A1, c1, by rw [cntS_true GG.out, cntK_length]; rfl, ?_, BEL.out⟩
        rw [cntS_true GG.out]
        unfold OwI
        rw [cntK_length]
        exact OWN.out

set_option maxRecDepth 100000 in
set_option maxHeartbeats 2000000 in
theorem implCountSums_any (B : Nat) (A : Option Addr) (c : Nat) (l : List Int) (w : World) (hB : B ≤ w.heap.size) (hl : l.length ≤ 1048576) (hcap : l.length ≤ c) (hr : Rd w B 1 A l.length (l.map I)) :
    Calls Try.prog 28 #[.slice A l.length c] w fun e w' =>
      ∃ A' c', e = .returned (.tuple #[.slice A' (cntS l).length c', .bool (chG l)]) ∧ OwI w' w.heap.size (.slice A' (cntS l).length c') (cntS l) ∧ Below w.heap.size w w' := by
  have hS := implIsChain_any B A c l w hB hl hcap hr
  cases hg : chG l with
  | false =>
    rw [hg] at hS
    have HS := Lib.hid hS
    have GG := Lib.hid hg
    clear hS hr hg
    go_enter Try.func28, Try.ntmps28
    go_wp2_with (go_at_call 17; refine HS.out.mono ?_; rintro e w2 ⟨rfl, hb2⟩)
    go_ret2
    exact ⟨none, 0, by rw [cntS_false GG.out]; rfl, by rw [cntS_false GG.out]; exact OwI.nil _ _, hb2⟩
  | true =>
    rw [hg] at hS
    have HS := Lib.hid hS
    have H := Lib.hid hr
    have GG := Lib.hid hg
    have CH := Lib.hid (chG_chn hg)
    have hl2 := CH.out.most
    clear hS hr hg
    have hmk := run_make_row' (P := Try.prog) 22 3 (.int .i64 0) 8 Try.underlying22 info_int rfl .i64 .i64 l.length (by omega) (by omega)
    go_enter Try.func28, Try.ntmps28
    go_wp2_with fail
    go_at_call 17
    refine HS.out.mono ?_
    rintro e w2 ⟨rfl, hb2⟩
    have HB2 := Lib.hid hb2
    have hs2 : w.heap.size ≤ w2.heap.size := hb2.size
    clear hb2
    go_wp2
    clear hmk
    generalize hw3 : World.alloc w2 _ = w3
    have hmade : w3.ownsRow w.heap.size 3 1 (.slice (some ⟨w2.heap.size, 0, none⟩) l.length l.length) l.length (List.replicate l.length (I 0)) := by rw [← hw3]; exact zeros_rowQ l.length (by omega) hs2
    have hb3 : Below w2.heap.size w2 w3 := by rw [← hw3]; exact (Below.refl _ _).alloc (by omega) _
    clear hw3
    have hs3 : w2.heap.size ≤ w3.heap.size := hb3.size
    have HM := Lib.hid hmade
    have HB3 := Lib.hid (HB2.out.trans (hb3.mono hs2))
    clear hmade hb3
    go_loopw [14] (fun i wr => ∃ k : Nat, k ≤ l.length ∧ i = .int .i64 k ∧ wr.ownsRow w.heap.size 3 1 (.slice (some ⟨w2.heap.size, 0, none⟩) l.length l.length) l.length ((cntK l k).map I ++ List.replicate (l.length - k) (I 0)) ∧ Below w.heap.size w wr) (fun i _ => l.length - (intOf i).toNat)
    case atStart => exact ⟨0, by omega, rfl, by simpa [cntK] using HM.out, HB3.out⟩
    case round =>
      obtain ⟨k, hk, rfl, hown, hbel⟩ := hrel
      have OWN := Lib.hid hown
      have BEL := Lib.hid hbel
      have hs : w.heap.size ≤ wr.heap.size := hbel.size
      clear hown hbel
      by_cases hlt : k < l.length
      · have ik : (k : Int) < (l.length : Int) := by omega
        have hP := sumsOf_any B A c k l wr CH.out hlt hcap (by omega) (H.out.below' BEL.out hB)
        have SUC := Lib.hid (cntK_succ l k)
        obtain ⟨q, hq⟩ : ∃ q, (prs l k k).length = q := ⟨_, rfl⟩
        have hqb : q ≤ 41 := by rw [← hq]; exact Nat.le_trans (prs_le CH.out.asc k k (by omega)) (by omega)
        rw [hq] at hP
        have HP := Lib.hid hP
        have HQ := Lib.hid hq
        clear hP hq
        go_wp2_with fail
        go_at_call 52
        refine HP.out.mono ?_
        rintro e w5 ⟨A', c', rfl, _, hb5⟩
        have hown5 := own_below OWN.out hb5
        have hc : w5.cell? ⟨w2.heap.size, k, none⟩ = some (I 0) := by
          rw [hown5.cellAt _ (by omega)]
          exact rep_at (by simp [cntK_length]) (by simp [cntK_length]; omega)
        have hf : w5.frozen? ⟨w2.heap.size, k, none⟩ = false := hown5.frozenAt _
        have OWN5 := Lib.hid hown5
        have HB5 := Lib.hid (BEL.out.trans (hb5.mono hs))
        clear hown5 hb5
        go_wp2
        go_roundw
        case rel =>
          refine ⟨k + 1, by omega, by go_num, ?_, HB5.out.setCell hs2 _⟩
          have h := (OWN5.out.stored k (I (q : Int))).1
          rw [fill_nextQ (cntK l k) _ (cntK_length l k) hlt] at h
          rw [SUC.out, HQ.out]
          exact h
        case measure => simp [intOf]; omega
      · have e : k = l.length := by omega
        subst e
        go_wp2
        go_ret2
        refine ⟨_, _, by rw [cntS_true GG.out, cntK_length]; rfl, ?_, BEL.out⟩
        rw [cntS_true GG.out]
        unfold OwI
        rw [cntK_length]
        have h := OWN.out
        simpa using h
end Go.Proofs.Ytbbjgcagkmlngac
