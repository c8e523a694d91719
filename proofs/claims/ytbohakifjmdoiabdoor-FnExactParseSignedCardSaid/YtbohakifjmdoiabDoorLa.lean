/- The laws' own helpers: sizes, copies, comparison of plans. -/
import Derived.Test.YtbohakifjmdoiabDoorBase2
import Derived.Test.YtbohakifjmdoiabDoorSa
namespace Go.Proofs.YtbohakifjmdoiabDoor
open Go.RowKit

def szR (left : Int) (n : Nat) : Int := if left - n < 0 then -1 else left - n

def szPl (p : Pl) (left : Int) : Int := if szR left p.s.length < 0 then -1 else szR (szR left p.s.length) p.o.length
theorem szR_bd {left : Int} {n : Nat} (h0 : -1 ≤ left) (h1 : left ≤ 1048576) : -1 ≤ szR left n ∧ szR left n ≤ 1048576 := by
  unfold szR; split <;> omega

theorem szPl_ok {p : Pl} (h : ¬ szPl p 1048576 < 0) : p.s.length ≤ 1048576 ∧ p.o.length ≤ 1048576 := by
  unfold szPl szR at h
  by_cases h1 : (1048576 : Int) - p.s.length < 0
  · simp [h1] at h
  · simp only [h1, if_false] at h
    by_cases h2 : (1048576 : Int) - p.s.length - p.o.length < 0
    · simp [h2] at h
    · omega

theorem fill_int (l : List Int) (k : Nat) (hk : k < l.length) : ((l.take k).map I ++ List.replicate (l.length - k) (I 0)).set k (I l[k]) = (l.take (k + 1)).map I ++ List.replicate (l.length - (k + 1)) (I 0) := by
  have hl : ((l.take k).map I).length = k := by simp; omega
  rw [List.set_append_right _ _ (by omega), hl, Nat.sub_self, show l.length - k = (l.length - (k + 1)) + 1 from by omega, List.replicate_succ, List.set_cons_zero, List.take_succ_eq_append_getElem hk, List.map_append]
  simp
theorem fill_step (s : List (Int × Int)) (k : Nat) (hk : k < s.length) : ((fl (s.take k) ++ List.replicate ((s.length - k) * 2) (I 0)).set (k * 2) (I s[k].1)).set (k * 2 + 1) (I s[k].2) = fl (s.take (k + 1)) ++ List.replicate ((s.length - (k + 1)) * 2) (I 0) := by
  have hl : (fl (s.take k)).length = k * 2 := by rw [fl_length]; simp; omega
  rw [List.set_append_right _ _ (by omega), show (s.length - k) * 2 = (s.length - (k + 1)) * 2 + 1 + 1 from by omega, List.replicate_succ, List.replicate_succ, hl, Nat.sub_self, List.set_cons_zero,
    List.set_append_right _ _ (by omega), hl, show k * 2 + 1 - k * 2 = 1 from by omega, List.set_cons_succ, List.set_cons_zero, List.take_succ_eq_append_getElem hk, fl_snoc]
  simp
theorem rep_at {l : List Value} {z : Value} {m j : Nat} (h1 : l.length ≤ j) (h2 : j < l.length + m) : (l ++ List.replicate m z)[j]? = some z := by
  rw [List.getElem?_append_right h1, List.getElem?_replicate, if_pos (by omega)]
theorem made1 (z : Value) (n : Nat) : (madeCells #[z] n).toList = List.replicate n z := toList_madeCells_one z n
theorem made2 (v : Value) (n : Nat) : (madeCells #[v, v] (n * 2)).toList = List.replicate (n * 2) v := by
  apply List.ext_getElem?
  intro j
  by_cases hj : j < n * 2
  · have h6 : j % 2 = 0 ∨ j % 2 = 1 := by omega
    rcases h6 with h | h <;> simp [madeCells, hj, h]
  · simp [madeCells, hj]

set_option maxRecDepth 100000 in
set_option maxHeartbeats 1000000 in
theorem toIntS_any (B : Nat) (A : Option Addr) (c : Nat) (l : List Int) (w : World) (hm : l.length ≤ 1048576) (hB : B ≤ w.heap.size) (hr : Rd w B 1 A l.length (l.map I)) :
    Calls Tryd.prog 6 #[.slice A l.length c] w fun e w' => ∃ A' c', e = .returned (.slice A' l.length c') ∧ OwI w' w.heap.size (.slice A' l.length c') l ∧ Below w.heap.size w w' := by
  have H := Lib.hid hr
  clear hr
  have hmk := run_make_row' (P := Tryd.prog) 22 3 (.int .i64 0) 8 Tryd.underlying22 info_int rfl .i64 .i64 l.length (by omega) (by omega)
  have hmade : (w.alloc (.cells (madeCells #[.int .i64 0] l.length) 3)).ownsRow w.heap.size 3 1 (.slice (some ⟨w.heap.size, 0, none⟩) l.length l.length) l.length ((l.take 0).map I ++ List.replicate (l.length - 0) (I 0)) := by
    have h := World.ownsRow_lit (base := w.heap.size) (e := 3) (size := 1) w (madeCells #[Value.int .i64 0] l.length) l.length (Nat.le_refl _) (by unfold maxLen; omega) (by simp [size_madeCells])
    rw [made1] at h
    simpa using h
  have HM := Lib.hid hmade
  clear hmade
  go_enter Tryd.func6, Tryd.ntmps6
  go_wp2
  clear hmk
  go_loopw [4] (fun i wr => ∃ k : Nat, k ≤ l.length ∧ i = .int .i64 k ∧ wr.ownsRow w.heap.size 3 1 (.slice (some ⟨w.heap.size, 0, none⟩) l.length l.length) l.length ((l.take k).map I ++ List.replicate (l.length - k) (I 0)) ∧ Below w.heap.size w wr) (fun i _ => l.length - (intOf i).toNat)
  case atStart => exact ⟨0, by omega, rfl, HM.out, (Below.refl _ _).alloc (Nat.le_refl _) _⟩
  case round =>
    obtain ⟨k, hk, rfl, hown, hbel⟩ := hrel
    have OWN := Lib.hid hown
    have BEL := Lib.hid hbel
    by_cases hlt : k < l.length
    · obtain ⟨b, off, rfl, hb, hcell⟩ := (H.out.below' hbel (by omega)).int hlt
      have hc : wr.cell? ⟨w.heap.size, k, none⟩ = some (I 0) := by
        rw [hown.cellAt _ (by omega)]
        exact rep_at (by simp; omega) (by simp; omega)
      have hf : wr.frozen? ⟨w.heap.size, k, none⟩ = false := hown.frozenAt _
      clear hown hbel
      go_wp2
      go_roundw
      case rel =>
        refine ⟨k + 1, by omega, by go_num, ?_, BEL.out.setCell (Nat.le_refl _) _⟩
        have h := (OWN.out.stored k (I l[k])).1
        rw [fill_int l k hlt] at h
        exact h
      case measure => simp [intOf]; omega
    · have hk' : k = l.length := by omega
      subst hk'
      clear hown hbel
      go_wp2
      go_ret
      refine ⟨_, _, rfl, ?_, BEL.out⟩
      have h := OWN.out
      rw [List.take_of_length_le (Nat.le_refl _)] at h
      simpa [OwI] using h

end Go.Proofs.YtbohakifjmdoiabDoor
