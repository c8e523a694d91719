/- The laws' own helpers: sizes, copies, comparison of plans. -/
import Derived.Test.YtpopomcaknbhnaaBase2
import Derived.Test.YtpopomcaknbhnaaSa
namespace Go.Proofs.Ytpopomcaknbhnaa
open Go.RowKit

def szR (left : Int) (n : Nat) : Int := if left - n < 0 then -1 else left - n

set_option maxHeartbeats 400000 in
theorem szStepS_any (A : Option Addr) (n c : Nat) (left : Int) (w : World) (h0 : -1 ≤ left) (h1 : left ≤ 1048576) (hn : n ≤ 9223372036854775807) :
    Calls Try.prog 97 #[.slice A n c, .int .i64 left] w fun e w' => e = .returned (.int .i64 (szR left n)) ∧ w = w' := by
  by_cases h : left - n < 0
  · go_enter Try.func97, Try.ntmps97
    go_wp2
    go_ret
    exact ⟨ret_int (by simp [szR, h]), rfl⟩
  · go_enter Try.func97, Try.ntmps97
    go_wp2
    go_ret
    exact ⟨ret_int (by simp [szR]; omega), rfl⟩
set_option maxHeartbeats 400000 in
theorem szIntS_any (A : Option Addr) (n c : Nat) (left : Int) (w : World) (h0 : -1 ≤ left) (h1 : left ≤ 1048576) (hn : n ≤ 9223372036854775807) :
    Calls Try.prog 98 #[.slice A n c, .int .i64 left] w fun e w' => e = .returned (.int .i64 (szR left n)) ∧ w = w' := by
  by_cases h : left - n < 0
  · go_enter Try.func98, Try.ntmps98
    go_wp2
    go_ret
    exact ⟨ret_int (by simp [szR, h]), rfl⟩
  · go_enter Try.func98, Try.ntmps98
    go_wp2
    go_ret
    exact ⟨ret_int (by simp [szR]; omega), rfl⟩

def szPl (p : Pl) (left : Int) : Int := if szR left p.s.length < 0 then -1 else szR (szR left p.s.length) p.o.length
theorem szR_bd {left : Int} {n : Nat} (h0 : -1 ≤ left) (h1 : left ≤ 1048576) : -1 ≤ szR left n ∧ szR left n ≤ 1048576 := by
  unfold szR; split <;> omega

set_option maxRecDepth 100000 in
set_option maxHeartbeats 1000000 in
theorem szPlan_any (A1 A2 : Option Addr) (c1 c2 : Nat) (p : Pl) (left : Int) (w : World) (h0 : -1 ≤ left) (h1 : left ≤ 1048576) (hn1 : p.s.length ≤ 9223372036854775807) (hn2 : p.o.length ≤ 9223372036854775807) :
    Calls Try.prog 54 #[.agg #[.int .i64 p.n, .slice A1 p.s.length c1, .slice A2 p.o.length c2], .int .i64 left] w fun e w' => e = .returned (.int .i64 (szPl p left)) ∧ Below w.heap.size w w' := by
  obtain ⟨b1, b2⟩ := szR_bd (n := p.s.length) h0 h1
  obtain ⟨x, hx⟩ : ∃ x, szR left p.s.length = x := ⟨_, rfl⟩
  rw [hx] at b1 b2
  obtain ⟨b3, b4⟩ := szR_bd (n := p.o.length) b1 b2
  obtain ⟨y, hy⟩ : ∃ y, szR x p.o.length = y := ⟨_, rfl⟩
  rw [hy] at b3 b4
  have HX := Lib.hid hx
  have HY := Lib.hid hy
  have hs1 := fun W => szStepS_any A1 p.s.length c1 left W h0 h1 hn1
  have hs2 := fun W => szIntS_any A2 p.o.length c2 x W b1 b2 hn2
  rw [hx] at hs1
  rw [hy] at hs2
  have HS1 := Lib.hid hs1
  have HS2 := Lib.hid hs2
  clear hx hy hs1 hs2
  by_cases h : x < 0
  · go_enter Try.func54, Try.ntmps54
    go_wp2_with (first | (go_at_call 97; refine (HS1.out _).mono ?_; rintro e w' ⟨rfl, rfl⟩) | (go_at_call 98; refine (HS2.out _).mono ?_; rintro e w' ⟨rfl, rfl⟩))
    go_ret
    exact ⟨ret_int (by simp [szPl, HX.out, h]), (Below.refl _ _).alloc (Nat.le_refl _) _⟩
  · by_cases h2 : y < 0
    · have hy1 : y = -1 := by omega
      have HY1 := Lib.hid hy1
      clear hy1
      go_enter Try.func54, Try.ntmps54
      go_wp2_with (first | (go_at_call 97; refine (HS1.out _).mono ?_; rintro e w' ⟨rfl, rfl⟩) | (go_at_call 98; refine (HS2.out _).mono ?_; rintro e w' ⟨rfl, rfl⟩))
      go_ret
      exact ⟨ret_int (by unfold szPl; rw [HX.out, HY.out, if_neg (by omega), HY1.out]), (Below.refl _ _).alloc (Nat.le_refl _) _⟩
    · go_enter Try.func54, Try.ntmps54
      go_wp2_with (first | (go_at_call 97; refine (HS1.out _).mono ?_; rintro e w' ⟨rfl, rfl⟩) | (go_at_call 98; refine (HS2.out _).mono ?_; rintro e w' ⟨rfl, rfl⟩))
      go_ret
      exact ⟨ret_int (by unfold szPl; rw [HX.out, HY.out, if_neg (by omega)]), (Below.refl _ _).alloc (Nat.le_refl _) _⟩
theorem szPl_ok {p : Pl} (h : ¬ szPl p 1048576 < 0) : p.s.length ≤ 1048576 ∧ p.o.length ≤ 1048576 := by
  unfold szPl szR at h
  by_cases h1 : (1048576 : Int) - p.s.length < 0
  · simp [h1] at h
  · simp only [h1, if_false] at h
    by_cases h2 : (1048576 : Int) - p.s.length - p.o.length < 0
    · simp [h2] at h
    · omega

theorem toStep_any (a b : Int) (w : World) : Calls Try.prog 133 #[.agg #[.int .i64 a, .int .i64 b]] w fun e w' => e = .returned (.agg #[.int .i64 a, .int .i64 b]) ∧ Below w.heap.size w w' := by
  go_enter Try.func133, Try.ntmps133
  go_wp2
  refine bodyPost_ret (v := .agg #[.int .i64 a, .int .i64 b]) (by simp [results, Try.results133, go_sem]) rfl ⟨rfl, ?_⟩
  exact (((Below.refl _ _).alloc (Nat.le_refl _) _).alloc (by simp) _).alloc (by simp; omega) _

/-- An own slice of steps. -/
def OwS (w : World) (B : Nat) (v : Value) (s : List (Int × Int)) : Prop := w.ownsRow B 108 2 v s.length (fl s)
def OwP (w : World) (B : Nat) (A1 A2 : Option Addr) (c1 c2 : Nat) (p : Pl) : Prop := OwS w B (.slice A1 p.s.length c1) p.s ∧ OwI w B (.slice A2 p.o.length c2) p.o
theorem OwP.rd {w : World} {B : Nat} {A1 A2 : Option Addr} {c1 c2 : Nat} {p : Pl} (h : OwP w B A1 A2 c1 c2 p) : RdP w w.heap.size A1 A2 p := ⟨Rd.of_own h.1, Rd.of_own h.2⟩
theorem OwP.below {w w' : World} {B : Nat} {A1 A2 : Option Addr} {c1 c2 : Nat} {p : Pl} (h : OwP w B A1 A2 c1 c2 p) (hb : Below w.heap.size w w') : OwP w' B A1 A2 c1 c2 p := ⟨own_below h.1 hb, own_below h.2 hb⟩
theorem OwP.base {w : World} {B B' : Nat} {A1 A2 : Option Addr} {c1 c2 : Nat} {p : Pl} (h : OwP w B A1 A2 c1 c2 p) (hB : B' ≤ B) : OwP w B' A1 A2 c1 c2 p := ⟨own_base h.1 hB, own_base h.2 hB⟩

theorem fill_int (l : List Int) (k : Nat) (hk : k < l.length) : ((l.take k).map I ++ List.replicate (l.length - k) (I 0)).set k (I l[k]) = (l.take (k + 1)).map I ++ List.replicate (l.length - (k + 1)) (I 0) := by
  have hl : ((l.take k).map I).length = k := by simp; omega
  rw [List.set_append_right _ _ (by omega), hl, Nat.sub_self, show l.length - k = (l.length - (k + 1)) + 1 from by omega, List.replicate_succ, List.set_cons_zero, List.take_succ_eq_append_getElem hk, List.map_append]
  simp
theorem fill_step (s : List (Int × Int)) (k : Nat) (hk : k < s.length) : ((fl (s.take k) ++ List.replicate ((s.length - k) * 2) (I 0)).set (k * 2) (I s[k].1)).set (k * 2 + 1) (I s[k].2) = fl (s.take (k + 1)) ++ List.replicate ((s.length - (k + 1)) * 2) (I 0) := by
  have hl : (fl (s.take k)).length = k * 2 := by rw [fl_length]; simp; omega
  rw [List.set_append_right _ _ (by omega), show (s.length - k) * 2 = (s.length - (k + 1)) * 2 + 1 + 1 from by omega, List.replicate_succ, List.replicate_succ, hl, Nat.sub_self, List.set_cons_zero,
    List.set_append_right _ _ (by omega), hl, show k * 2 + 1 - k * 2 = 1 from by omega, List.set_cons_succ, List.set_cons_zero, List.take_succ_eq_append_getElem hk, fl_snoc]
  simp
theorem rep_at {l : List Value} {z : Value} {m j : Nat} (h1 : l.length ≤ j) (h2 : j < l.length + m) : (l ++ List.replicate m z)[j]? = some z := by
  rw [List.getElem?_append_right h1, List.getElem?_replicate, if_pos (by omega)]
theorem made1 (z : Value) (n : Nat) : (madeCells #[z] n).toList = List.replicate n z := toList_madeCells_one z n
theorem made2 (v : Value) (n : Nat) : (madeCells #[v, v] (n * 2)).toList = List.replicate (n * 2) v := by
  apply List.ext_getElem?
  intro j
  by_cases hj : j < n * 2
  · have h6 : j % 2 = 0 ∨ j % 2 = 1 := by omega
    rcases h6 with h | h <;> simp [madeCells, hj, h]
  · simp [madeCells, hj]

set_option maxRecDepth 100000 in
set_option maxHeartbeats 1000000 in
theorem toIntS_any (B : Nat) (A : Option Addr) (c : Nat) (l : List Int) (w : World) (hm : l.length ≤ 1048576) (hB : B ≤ w.heap.size) (hr : Rd w B 1 A l.length (l.map I)) :
    Calls Try.prog 40 #[.slice A l.length c] w fun e w' => ∃ A' c', e = .returned (.slice A' l.length c') ∧ OwI w' w.heap.size (.slice A' l.length c') l ∧ Below w.heap.size w w' := by
  have H := Lib.hid hr
  clear hr
  have hmk := run_make_row' (P := Try.prog) 36 3 (.int .i64 0) 8 Try.underlying36 info_int rfl .i64 .i64 l.length (by omega) (by omega)
  have hmade : (w.alloc (.cells (madeCells #[.int .i64 0] l.length) 3)).ownsRow w.heap.size 3 1 (.slice (some ⟨w.heap.size, 0, none⟩) l.length l.length) l.length ((l.take 0).map I ++ List.replicate (l.length - 0) (I 0)) := by
    have h := World.ownsRow_lit (base := w.heap.size) (e := 3) (size := 1) w (madeCells #[Value.int .i64 0] l.length) l.length (Nat.le_refl _) (by unfold maxLen; omega) (by simp [size_madeCells])
    rw [made1] at h
    simpa using h
  have HM := Lib.hid hmade
  clear hmade
  go_enter Try.func40, Try.ntmps40
  go_wp2
  clear hmk
  go_loopw [4] (fun i wr => ∃ k : Nat, k ≤ l.length ∧ i = .int .i64 k ∧ wr.ownsRow w.heap.size 3 1 (.slice (some ⟨w.heap.size, 0, none⟩) l.length l.length) l.length ((l.take k).map I ++ List.replicate (l.length - k) (I 0)) ∧ Below w.heap.size w wr) (fun i _ => l.length - (intOf i).toNat)
  case atStart => exact ⟨0, by omega, rfl, HM.out, (Below.refl _ _).alloc (Nat.le_refl _) _⟩
  case round =>
    obtain ⟨k, hk, rfl, hown, hbel⟩ := hrel
    have OWN := Lib.hid hown
    have BEL := Lib.hid hbel
    by_cases hlt : k < l.length
    · obtain ⟨b, off, rfl, hb, hcell⟩ := (H.out.below' hbel (by omega)).int hlt
      have hc : wr.cell? ⟨w.heap.size, k, none⟩ = some (I 0) := by
        rw [hown.cellAt _ (by omega)]
        exact rep_at (by simp; omega) (by simp; omega)
      have hf : wr.frozen? ⟨w.heap.size, k, none⟩ = false := hown.frozenAt _
      clear hown hbel
      go_wp2
      go_roundw
      case rel =>
        refine ⟨k + 1, by omega, by go_num, ?_, BEL.out.setCell (Nat.le_refl _) _⟩
        have h := (OWN.out.stored k (I l[k])).1
        rw [fill_int l k hlt] at h
        exact h
      case measure => simp [intOf]; omega
    · have hk' : k = l.length := by omega
      subst hk'
      clear hown hbel
      go_wp2
      go_ret
      refine ⟨_, _, rfl, ?_, BEL.out⟩
      have h := OWN.out
      rw [List.take_of_length_le (Nat.le_refl _)] at h
      simpa [OwI] using h

set_option maxRecDepth 100000 in
set_option maxHeartbeats 1000000 in
theorem toStepS_any (B : Nat) (A : Option Addr) (c : Nat) (s : List (Int × Int)) (w : World) (hm : s.length ≤ 1048576) (hB : B ≤ w.heap.size) (hr : Rd w B 2 A s.length (fl s)) :
    Calls Try.prog 100 #[.slice A s.length c] w fun e w' => ∃ A' c', e = .returned (.slice A' s.length c') ∧ OwS w' w.heap.size (.slice A' s.length c') s ∧ Below w.heap.size w w' := by
  have H := Lib.hid hr
  clear hr
  obtain ⟨i0, hi, hz0, hz1, hz2⟩ := info_parts info_step
  have hmk : ∀ W : World, (Instr.makeSlice 61 (.int .i64 (s.length : Int)) (.int .i64 (s.length : Int))).run Try.prog W = .ok (.slice (some ⟨W.heap.size, 0, none⟩) s.length s.length) (W.alloc (.cells (madeCells #[.int .i64 0, .int .i64 0] (s.length * 2)) 108)) := fun W => by
    have hr := run_make (P := Try.prog) W 61 108 i0 _ Try.underlying61 hi hz0 .i64 .i64 s.length s.length (by omega) (Int.le_refl _) (by rw [hz2]; omega) (by omega)
    simp only [Int.toNat_natCast] at hr
    rw [hz1] at hr
    exact hr
  have hmade : (w.alloc (.cells (madeCells #[.int .i64 0, .int .i64 0] (s.length * 2)) 108)).ownsRow w.heap.size 108 2 (.slice (some ⟨w.heap.size, 0, none⟩) s.length s.length) s.length (fl (s.take 0) ++ List.replicate ((s.length - 0) * 2) (I 0)) := by
    have h := World.ownsRow_lit (base := w.heap.size) (e := 108) (size := 2) w (madeCells #[Value.int .i64 0, .int .i64 0] (s.length * 2)) s.length (Nat.le_refl _) (by unfold maxLen; omega) (by simp [size_madeCells])
    rw [made2] at h
    simpa [fl] using h
  have HM := Lib.hid hmade
  clear hmade hi hz0 hz1 hz2
  go_enter Try.func100, Try.ntmps100
  go_wp2
  clear hmk
  go_loopw [4] (fun i wr => ∃ k : Nat, k ≤ s.length ∧ i = .int .i64 k ∧ wr.ownsRow w.heap.size 108 2 (.slice (some ⟨w.heap.size, 0, none⟩) s.length s.length) s.length (fl (s.take k) ++ List.replicate ((s.length - k) * 2) (I 0)) ∧ Below w.heap.size w wr) (fun i _ => s.length - (intOf i).toNat)
  case atStart => exact ⟨0, by omega, rfl, HM.out, (Below.refl _ _).alloc (Nat.le_refl _) _⟩
  case round =>
    obtain ⟨k, hk, rfl, hown, hbel⟩ := hrel
    have hsz : w.heap.size ≤ wr.heap.size := hbel.size
    by_cases hlt : k < s.length
    · obtain ⟨b, off, rfl, hb, hc1, hc2⟩ := (H.out.below' hbel (by omega)).stp hlt
      have BEL := Lib.hid hbel
      have OWN := Lib.hid hown
      clear hown hbel
      go_wp2_with fail
      go_at_call 133
      refine (toStep_any _ _ _).mono ?_
      rintro e w5 ⟨rfl, hb5⟩
      have hown5 := own_below OWN.out hb5
      have hl : (fl (s.take k)).length = k * 2 := by rw [fl_length]; simp; omega
      have d0 : w5.cell? ⟨w.heap.size, k * 2, none⟩ = some (I 0) := by
        rw [hown5.cellAt _ (by omega)]
        exact rep_at (by omega) (by omega)
      have d1 : w5.cell? ⟨w.heap.size, k * 2 + 1, none⟩ = some (I 0) := by
        rw [hown5.cellAt _ (by omega)]
        exact rep_at (by omega) (by omega)
      have f0 : w5.frozen? ⟨w.heap.size, k * 2, none⟩ = false := hown5.frozenAt _
      have f1 : w5.frozen? ⟨w.heap.size, k * 2 + 1, none⟩ = false := hown5.frozenAt _
      have HB5 := Lib.hid hb5
      have OWN5 := Lib.hid hown5
      clear hb5 hown5 hl
      go_wp2
      go_roundw
      case rel =>
        refine ⟨k + 1, by omega, by go_num, ?_, (((BEL.out.trans (HB5.out.mono hsz)).setCell (Nat.le_refl _) _).setCell (Nat.le_refl _) _)⟩
        have h := ((OWN5.out.stored (k * 2) (I s[k].1)).1.stored (k * 2 + 1) (I s[k].2)).1
        rw [fill_step s k hlt] at h
        exact h
      case measure => simp [intOf]; omega
    · have hk' : k = s.length := by omega
      have BEL := Lib.hid hbel
      have OWN := Lib.hid hown
      subst hk'
      clear hown hbel
      go_wp2
      go_ret
      refine ⟨_, _, rfl, ?_, BEL.out⟩
      have h := OWN.out
      rw [List.take_of_length_le (Nat.le_refl _)] at h
      simpa [OwS] using h

set_option maxRecDepth 100000 in
set_option maxHeartbeats 1000000 in
theorem toPlan_any (B : Nat) (A1 A2 : Option Addr) (c1 c2 : Nat) (p : Pl) (w : World) (hm1 : p.s.length ≤ 1048576) (hm2 : p.o.length ≤ 1048576) (hB : B ≤ w.heap.size) (hr : RdP w B A1 A2 p) :
    Calls Try.prog 56 #[.agg #[.int .i64 p.n, .slice A1 p.s.length c1, .slice A2 p.o.length c2]] w fun e w' =>
      ∃ B1 B2 d1 d2, e = .returned (.agg #[.int .i64 p.n, .slice B1 p.s.length d1, .slice B2 p.o.length d2]) ∧ OwP w' w.heap.size B1 B2 d1 d2 p ∧ Below w.heap.size w w' := by
  have H := Lib.hid hr
  clear hr
  go_enter Try.func56, Try.ntmps56
  go_wp2_with fail
  go_at_call 100
  generalize hw3 : World.alloc (World.alloc (World.alloc w _) _) _ = w3
  have q0 : w3.heap[w.heap.size]? = some (.cells #[.int .i64 p.n, .slice A1 p.s.length c1, .slice A2 p.o.length c2] 58 (0, 0)) := by
    rw [← hw3, Below.heap_alloc _ _ _ (by simp; omega), Below.heap_alloc _ _ _ (by simp)]; exact heap_alloc_new w _
  have q1 : w3.heap[w.heap.size + 1]? = some (.cells #[.int .i64 0, .slice none 0 0, .slice none 0 0] 63 (0, 0)) := by
    rw [← hw3, Below.heap_alloc _ _ _ (by simp)]
    have := heap_alloc_new (w.alloc (.cells #[.int .i64 p.n, .slice A1 p.s.length c1, .slice A2 p.o.length c2] 58)) (.cells #[.int .i64 0, .slice none 0 0, .slice none 0 0] 63)
    simpa using this
  have q2 : w3.heap[w.heap.size + 2]? = some (.cells #[.int .i64 p.n, .slice none 0 0, .slice none 0 0] 63 (0, 0)) := by
    rw [← hw3]
    have := heap_alloc_new ((w.alloc (.cells #[.int .i64 p.n, .slice A1 p.s.length c1, .slice A2 p.o.length c2] 58)).alloc (.cells #[.int .i64 0, .slice none 0 0, .slice none 0 0] 63)) (.cells #[.int .i64 p.n, .slice none 0 0, .slice none 0 0] 63)
    simpa using this
  have hs3 : w3.heap.size = w.heap.size + 3 := by rw [← hw3]; simp
  have hb3 : Below w.heap.size w w3 := by rw [← hw3]; exact (((Below.refl _ _).alloc (Nat.le_refl _) _).alloc (by simp) _).alloc (by simp; omega) _
  clear hw3
  refine (toStepS_any B A1 c1 p.s w3 hm1 (by omega) (H.out.below' hb3 hB).1).mono ?_
  rintro e w5 ⟨B1, d1, rfl, hown5, hb5⟩
  have r0 := (hb5.block _ (by omega)).trans q0
  have r1 := (hb5.block _ (by omega)).trans q1
  have r2 := (hb5.block _ (by omega)).trans q2
  have a0 : w5.cell? ⟨w.heap.size, 2, none⟩ = some (.slice A2 p.o.length c2) := by rw [cell_of_row w5 _ 2 _ _ (0, 0) r0]; rfl
  have a1 : w5.cell? ⟨w.heap.size + 2, 1, none⟩ = some (.slice none 0 0) := by rw [cell_of_row w5 _ 1 _ _ (0, 0) r2]; rfl
  have a2 : w5.frozen? ⟨w.heap.size + 2, 1, none⟩ = false := frozen_of_row w5 _ 1 _ _ r2
  have R0 := Lib.hid r0
  have R1 := Lib.hid r1
  have R2 := Lib.hid r2
  have HS3 := Lib.hid hs3
  have OWN5 := Lib.hid hown5
  have HB5 := Lib.hid (hb3.trans (hb5.mono (by omega)))
  have HZ5 := Lib.hid (show w.heap.size + 3 ≤ w5.heap.size by have := hb5.size; omega)
  clear q0 q1 q2 r0 r1 r2 hs3 hb3 hb5 hown5
  go_wp2_with fail
  go_at_call 40
  generalize hw6 : World.setCell w5 _ _ = w6
  have t0 : w6.heap[w.heap.size]? = some (.cells #[.int .i64 p.n, .slice A1 p.s.length c1, .slice A2 p.o.length c2] 58 (0, 0)) := by
    rw [← hw6, Below.heap_setCell _ _ _ _ (by simp; omega)]; exact R0.out
  have t1 : w6.heap[w.heap.size + 1]? = some (.cells #[.int .i64 0, .slice none 0 0, .slice none 0 0] 63 (0, 0)) := by
    rw [← hw6, Below.heap_setCell _ _ _ _ (by simp)]; exact R1.out
  have t2 : w6.heap[w.heap.size + 2]? = some (.cells #[.int .i64 p.n, .slice B1 p.s.length d1, .slice none 0 0] 63 (0, 0)) := by
    rw [← hw6, heap_setCell_same w5 _ 1 _ _ _ R2.out]; rfl
  have ho6 : OwS w6 (w.heap.size + 3) (.slice B1 p.s.length d1) p.s := by
    rw [← hw6]; exact own_set (own_base OWN5.out (by have := HS3.out; omega)) R2.out (by decide) _
  have hb6 : Below w.heap.size w w6 := by rw [← hw6]; exact HB5.out.setCell (by simp; omega) _
  have hz6 : w.heap.size + 3 ≤ w6.heap.size := by have := HZ5.out; rw [← hw6]; simpa using this
  clear hw6 a0 a1 a2
  refine (toIntS_any B A2 c2 p.o w6 hm2 (by omega) (H.out.below' hb6 hB).2).mono ?_
  rintro e w7 ⟨B2, d2, rfl, hown7, hb7⟩
  have r1 := (hb7.block _ (by omega)).trans t1
  have r2 := (hb7.block _ (by omega)).trans t2
  have ho7 := own_below ho6 hb7
  have a0 : w7.cell? ⟨w.heap.size + 2, 0, none⟩ = some (.int .i64 p.n) := by rw [cell_of_row w7 _ 0 _ _ (0, 0) r2]; rfl
  have a1 : w7.cell? ⟨w.heap.size + 2, 1, none⟩ = some (.slice B1 p.s.length d1) := by rw [cell_of_row w7 _ 1 _ _ (0, 0) r2]; rfl
  have a2 : w7.cell? ⟨w.heap.size + 2, 2, none⟩ = some (.slice none 0 0) := by rw [cell_of_row w7 _ 2 _ _ (0, 0) r2]; rfl
  have a3 : w7.frozen? ⟨w.heap.size + 2, 2, none⟩ = false := frozen_of_row w7 _ 2 _ _ r2
  have b0 : w7.cell? ⟨w.heap.size + 1, 0, none⟩ = some (.int .i64 0) := by rw [cell_of_row w7 _ 0 _ _ (0, 0) r1]; rfl
  have b1 : w7.cell? ⟨w.heap.size + 1, 1, none⟩ = some (.slice none 0 0) := by rw [cell_of_row w7 _ 1 _ _ (0, 0) r1]; rfl
  have b2 : w7.cell? ⟨w.heap.size + 1, 2, none⟩ = some (.slice none 0 0) := by rw [cell_of_row w7 _ 2 _ _ (0, 0) r1]; rfl
  have g0 : w7.frozen? ⟨w.heap.size + 1, 0, none⟩ = false := frozen_of_row w7 _ 0 _ _ r1
  have g1 : w7.frozen? ⟨w.heap.size + 1, 1, none⟩ = false := frozen_of_row w7 _ 1 _ _ r1
  have g2 : w7.frozen? ⟨w.heap.size + 1, 2, none⟩ = false := frozen_of_row w7 _ 2 _ _ r1
  have R1' := Lib.hid r1
  have R2' := Lib.hid r2
  have OS := Lib.hid ho7
  have OI := Lib.hid (own_base hown7 (show w.heap.size ≤ w6.heap.size by omega))
  have HB7 := Lib.hid (hb6.trans (hb7.mono (by omega)))
  clear t0 t1 t2 ho6 hb6 hz6 hown7 hb7 r1 r2 ho7
  go_wp2
  refine bodyPost_ret (v := .agg #[.int .i64 p.n, .slice B1 p.s.length d1, .slice B2 p.o.length d2]) (by simp [results, Try.results56, go_sem, b0, b1, b2]) rfl ⟨B1, B2, d1, d2, rfl, ⟨?_, ?_⟩, ?_⟩
  · have h1 := own_set (o := 2) (own_base OS.out (show w.heap.size ≤ w.heap.size + 3 by omega)) R2'.out (by decide) (.slice B2 p.o.length d2)
    have k1 : (w7.setCell ⟨w.heap.size + 2, 2, none⟩ (.slice B2 p.o.length d2)).heap[w.heap.size + 1]? = _ := (Below.heap_setCell _ _ _ _ (by simp)).trans R1'.out
    have h2 := own_set (o := 0) h1 k1 (by decide) (.int .i64 p.n)
    have k2 := heap_setCell_same _ _ 0 _ _ (.int .i64 p.n) k1
    have h3 := own_set (o := 1) h2 k2 (by decide) (.slice B1 p.s.length d1)
    have k3 := heap_setCell_same _ _ 1 _ _ (.slice B1 p.s.length d1) k2
    exact own_set (o := 2) h3 k3 (by decide) (.slice B2 p.o.length d2)
  · have h1 := own_set (o := 2) OI.out R2'.out (by decide) (.slice B2 p.o.length d2)
    have k1 : (w7.setCell ⟨w.heap.size + 2, 2, none⟩ (.slice B2 p.o.length d2)).heap[w.heap.size + 1]? = _ := (Below.heap_setCell _ _ _ _ (by simp)).trans R1'.out
    have h2 := own_set (o := 0) h1 k1 (by decide) (.int .i64 p.n)
    have k2 := heap_setCell_same _ _ 0 _ _ (.int .i64 p.n) k1
    have h3 := own_set (o := 1) h2 k2 (by decide) (.slice B1 p.s.length d1)
    have k3 := heap_setCell_same _ _ 1 _ _ (.slice B1 p.s.length d1) k2
    exact own_set (o := 2) h3 k3 (by decide) (.slice B2 p.o.length d2)
  · exact (((HB7.out.setCell (by simp; omega) _).setCell (by simp) _).setCell (by simp) _).setCell (by simp) _
end Go.Proofs.Ytpopomcaknbhnaa
