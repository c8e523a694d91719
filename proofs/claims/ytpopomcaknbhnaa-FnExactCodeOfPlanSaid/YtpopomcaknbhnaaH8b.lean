/- Rows of ops and codes: what reads, what is own; the laws' own helpers: sizes, copies, comparison, marks, opening. -/
import Derived.Test.YtpopomcaknbhnaaH8a
import Derived.Test.YtpopomcaknbhnaaOp
import Derived.Test.YtpopomcaknbhnaaLa
import Derived.Test.YtpopomcaknbhnaaLb
import Derived.Test.YtpopomcaknbhnaaMk
import Derived.Test.YtpopomcaknbhnaaMl
namespace Go.Proofs.Ytpopomcaknbhnaa
open Go.ChangeShapes Go.WideShapes Go.ChangeAt Go.RowKit Go.Deep Go.Joins

/-- The cells of a list of ops. -/
def fl3 (s : List (Int × Int × Int)) : List Value := s.flatMap fun p => [I p.1, I p.2.1, I p.2.2]
theorem fl3_length (s : List (Int × Int × Int)) : (fl3 s).length = s.length * 3 := by
  induction s with
  | nil => rfl
  | cons p s ih => simp [fl3] at ih ⊢; omega
theorem fl3_at {s : List (Int × Int × Int)} {k : Nat} (hk : k < s.length) : (fl3 s)[k * 3]? = some (I s[k].1) ∧ (fl3 s)[k * 3 + 1]? = some (I s[k].2.1) ∧ (fl3 s)[k * 3 + 2]? = some (I s[k].2.2) := by
  induction s generalizing k with
  | nil => simp at hk
  | cons p s ih =>
    cases k with
    | zero => exact ⟨rfl, rfl, rfl⟩
    | succ k =>
      have := ih (k := k) (by simpa using hk)
      have e : fl3 (p :: s) = I p.1 :: I p.2.1 :: I p.2.2 :: fl3 s := rfl
      rw [e]
      refine ⟨?_, ?_, ?_⟩
      · rw [show (k + 1) * 3 = k * 3 + 1 + 1 + 1 from by omega]; simpa using this.1
      · rw [show (k + 1) * 3 + 1 = k * 3 + 1 + 1 + 1 + 1 from by omega]; simpa using this.2.1
      · rw [show (k + 1) * 3 + 2 = k * 3 + 2 + 1 + 1 + 1 from by omega]; simpa using this.2.2
theorem fl3_app (a b : List (Int × Int × Int)) : fl3 (a ++ b) = fl3 a ++ fl3 b := by simp [fl3]
theorem fl3_snoc (s : List (Int × Int × Int)) (p : Int × Int × Int) : fl3 (s ++ [p]) = fl3 s ++ [I p.1, I p.2.1, I p.2.2] := by simp [fl3]
/-- The three cells of op k. -/
theorem Rd.op {w : World} {B : Nat} {A : Option Addr} {s : List (Int × Int × Int)} (h : Rd w B 3 A s.length (fl3 s)) {k : Nat} (hk : k < s.length) :
    ∃ b off, A = some ⟨b, off, none⟩ ∧ b < B ∧ w.cell? ⟨b, off + k * 3, none⟩ = some (.int .i64 (s[k]'hk).1) ∧ w.cell? ⟨b, off + k * 3 + 1, none⟩ = some (.int .i64 (s[k]'hk).2.1) ∧ w.cell? ⟨b, off + k * 3 + 2, none⟩ = some (.int .i64 (s[k]'hk).2.2) := by
  obtain ⟨b, off, e, hb, hc⟩ := h.2 (by omega)
  refine ⟨b, off, e, hb, ?_, ?_, ?_⟩
  · rw [hc _ (by omega), (fl3_at hk).1]
  · rw [Nat.add_assoc, hc _ (by omega), (fl3_at hk).2.1]
  · rw [Nat.add_assoc, hc _ (by omega), (fl3_at hk).2.2]
def RdD (w : World) (B : Nat) (A : Option Addr) (c : Cd) : Prop := Rd w B 3 A c.ops.length (fl3 c.ops)
def OwO (w : World) (B : Nat) (v : Value) (s : List (Int × Int × Int)) : Prop := w.ownsRow B 80 3 v s.length (fl3 s)
def OwD (w : World) (B : Nat) (A : Option Addr) (c : Nat) (q : Cd) : Prop := OwO w B (.slice A q.ops.length c) q.ops
theorem OwO.nil (w : World) (B : Nat) : OwO w B (.slice none 0 0) [] := World.ownsRow_nil _ _ _ _
theorem OwD.zero (w : World) (B : Nat) : OwD w B none 0 zeroCd := OwO.nil _ _
theorem own_capn {w : World} {B sz n c : Nat} {e : TypeId} {A : Option Addr} {xs : List Value} (h : w.ownsRow B e sz (.slice A n c) n xs) : n ≤ c := by
  obtain ⟨A', cc, e, hc⟩ := own_form h
  injection e with _ _ e
  omega
section
variable {w w' : World} {B B' c : Nat} {A : Option Addr} {q : Cd}
theorem RdD.below (h : RdD w B A q) (hb : Below B w w') : RdD w' B A q := Rd.below h hb
theorem RdD.below' {C : Nat} (h : RdD w B A q) (hb : Below C w w') (hC : B ≤ C) : RdD w' B A q := h.below (hb.mono hC)
theorem RdD.more (h : RdD w B A q) (hB : B ≤ B') : RdD w B' A q := Rd.more h hB
theorem RdD.drew (h : RdD w B A q) : RdD w.drew B A q := h
theorem OwD.rd (h : OwD w B A c q) : RdD w w.heap.size A q := Rd.of_own h
theorem OwD.below (h : OwD w B A c q) (hb : Below w.heap.size w w') : OwD w' B A c q := own_below h hb
theorem OwD.base (h : OwD w B A c q) (hB : B' ≤ B) : OwD w B' A c q := own_base h hB
theorem OwD.cap (h : OwD w B A c q) : q.ops.length ≤ c := own_capn h
theorem OwO.cap {v : List Op3} {n : Nat} (h : OwO w B (.slice A n c) v) : v.length ≤ c := by
  obtain ⟨A', cc, e, hc⟩ := own_form (show w.ownsRow _ _ _ _ _ _ from h)
  injection e with _ _ e
  omega
end
theorem bx2c {w w1 : World} {a b : Value} {t : TypeId} (h : w.alloc (.cells #[a, b] t) = w1) :
    (w1.cell? ⟨w.heap.size, 0, none⟩ = some a ∧ w1.cell? ⟨w.heap.size, 1, none⟩ = some b) ∧ w1.heap.size = w.heap.size + 1 ∧ Below w.heap.size w w1 := by
  subst h
  refine ⟨⟨?_, ?_⟩, by simp, (Below.refl _ _).alloc (Nat.le_refl _) _⟩ <;> (rw [World.cell?_alloc_at _ _ _ _ rfl]; rfl)

set_option maxHeartbeats 400000 in
theorem szOpS_any (A : Option Addr) (n c : Nat) (left : Int) (w : World) (h0 : -1 ≤ left) (h1 : left ≤ 1048576) (hn : n ≤ 9223372036854775807) :
    Calls Try.prog 64 #[.slice A n c, .int .i64 left] w fun e w' => e = .returned (.int .i64 (szR left n)) ∧ w = w' := by
  by_cases h : left - n < 0
  · go_enter Try.func64, Try.ntmps64
    go_wp2
    go_ret
    exact ⟨ret_int (by simp [szR, h]), rfl⟩
  · go_enter Try.func64, Try.ntmps64
    go_wp2
    go_ret
    exact ⟨ret_int (by simp [szR]; omega), rfl⟩

set_option maxHeartbeats 1000000 in
theorem szCode_any (A : Option Addr) (c : Nat) (q : Cd) (left : Int) (w : World) (h0 : -1 ≤ left) (h1 : left ≤ 1048576) (hn : q.ops.length ≤ 9223372036854775807) :
    Calls Try.prog 19 #[.agg #[.slice A q.ops.length c, .int .i64 q.out], .int .i64 left] w fun e w' => e = .returned (.int .i64 (szR left q.ops.length)) ∧ Below w.heap.size w w' := by
  obtain ⟨b1, b2⟩ := szR_bd (n := q.ops.length) h0 h1
  have hs := fun W => szOpS_any A q.ops.length c left W h0 h1 hn
  obtain ⟨x, hx⟩ : ∃ x, szR left q.ops.length = x := ⟨_, rfl⟩
  rw [hx] at b1 b2 hs
  rw [hx]
  have HS := Lib.hid hs
  clear hx hs
  by_cases h : x < 0
  · have e : x = -1 := by omega
    subst e
    go_enter Try.func19, Try.ntmps19
    go_wp2_with fail
    go_at_call 64
    refine (HS.out _).mono ?_
    rintro e w' ⟨rfl, rfl⟩
    go_wp2
    go_ret
    exact ⟨rfl, (Below.refl _ _).alloc (Nat.le_refl _) _⟩
  · go_enter Try.func19, Try.ntmps19
    go_wp2_with fail
    go_at_call 64
    refine (HS.out _).mono ?_
    rintro e w' ⟨rfl, rfl⟩
    go_wp2
    go_ret
    exact ⟨rfl, (Below.refl _ _).alloc (Nat.le_refl _) _⟩
theorem szR_ok {n : Nat} {left : Int} (h1 : left ≤ 1048576) (h : ¬ szR left n < 0) : n ≤ 1048576 := by
  unfold szR at h
  split at h <;> omega

set_option maxHeartbeats 1000000 in
theorem toOp_any (a b c : Int) (w : World) : Calls Try.prog 110 #[.agg #[.int .i64 a, .int .i64 b, .int .i64 c]] w fun e w' => e = .returned (.agg #[.int .i64 a, .int .i64 b, .int .i64 c]) ∧ Below w.heap.size w w' := by
  go_enter Try.func110, Try.ntmps110
  go_wp2
  refine bodyPost_ret (v := .agg #[.int .i64 a, .int .i64 b, .int .i64 c]) (by simp [results, Try.results110, go_sem]) rfl ⟨rfl, ?_⟩
  exact (((Below.refl _ _).alloc (Nat.le_refl _) _).alloc (by simp) _).alloc (by simp; omega) _
theorem fill_op (s : List (Int × Int × Int)) (k : Nat) (hk : k < s.length) : (((fl3 (s.take k) ++ List.replicate ((s.length - k) * 3) (I 0)).set (k * 3) (I s[k].1)).set (k * 3 + 1) (I s[k].2.1)).set (k * 3 + 2) (I s[k].2.2) = fl3 (s.take (k + 1)) ++ List.replicate ((s.length - (k + 1)) * 3) (I 0) := by
  have hl : (fl3 (s.take k)).length = k * 3 := by rw [fl3_length]; simp; omega
  rw [List.set_append_right _ _ (by omega), show (s.length - k) * 3 = (s.length - (k + 1)) * 3 + 1 + 1 + 1 from by omega, List.replicate_succ, List.replicate_succ, List.replicate_succ, hl, Nat.sub_self, List.set_cons_zero,
    List.set_append_right _ _ (by omega), hl, show k * 3 + 1 - k * 3 = 1 from by omega, List.set_cons_succ, List.set_cons_zero,
    List.set_append_right _ _ (by omega), hl, show k * 3 + 2 - k * 3 = 2 from by omega, List.set_cons_succ, List.set_cons_succ, List.set_cons_zero, List.take_succ_eq_append_getElem hk, fl3_snoc]
  simp
theorem made3 (v : Value) (n : Nat) : (madeCells #[v, v, v] (n * 3)).toList = List.replicate (n * 3) v := by
  apply List.ext_getElem?
  intro j
  by_cases hj : j < n * 3
  · have h6 : j % 3 = 0 ∨ j % 3 = 1 ∨ j % 3 = 2 := by omega
    rcases h6 with h | h | h <;> simp [madeCells, hj, h]
  · simp [madeCells, hj]
theorem info_op8 : (Try.prog.info? 80).map (fun i => (i.zero, i.size, i.bytes)) = some (some (.agg #[.int .i64 0, .int .i64 0, .int .i64 0]), 3, 24) := by kernel_rfl

set_option maxRecDepth 100000 in
set_option maxHeartbeats 2000000 in
theorem toOpS_any (B : Nat) (A : Option Addr) (c : Nat) (s : List (Int × Int × Int)) (w : World) (hm : s.length ≤ 1048576) (hB : B ≤ w.heap.size) (hr : Rd w B 3 A s.length (fl3 s)) :
    Calls Try.prog 66 #[.slice A s.length c] w fun e w' => ∃ A' c', e = .returned (.slice A' s.length c') ∧ OwO w' w.heap.size (.slice A' s.length c') s ∧ Below w.heap.size w w' := by
  have H := Lib.hid hr
  clear hr
  obtain ⟨i0, hi, hz0, hz1, hz2⟩ := info_parts info_op8
  have hmk : ∀ W : World, (Instr.makeSlice 27 (.int .i64 (s.length : Int)) (.int .i64 (s.length : Int))).run Try.prog W = .ok (.slice (some ⟨W.heap.size, 0, none⟩) s.length s.length) (W.alloc (.cells (madeCells #[.int .i64 0, .int .i64 0, .int .i64 0] (s.length * 3)) 80)) := fun W => by
    have hr := run_make (P := Try.prog) W 27 80 i0 _ Try.underlying27 hi hz0 .i64 .i64 s.length s.length (by omega) (Int.le_refl _) (by rw [hz2]; omega) (by omega)
    simp only [Int.toNat_natCast] at hr
    rw [hz1] at hr
    exact hr
  have hmade : (w.alloc (.cells (madeCells #[.int .i64 0, .int .i64 0, .int .i64 0] (s.length * 3)) 80)).ownsRow w.heap.size 80 3 (.slice (some ⟨w.heap.size, 0, none⟩) s.length s.length) s.length (fl3 (s.take 0) ++ List.replicate ((s.length - 0) * 3) (I 0)) := by
    have h := World.ownsRow_lit (base := w.heap.size) (e := 80) (size := 3) w (madeCells #[Value.int .i64 0, .int .i64 0, .int .i64 0] (s.length * 3)) s.length (Nat.le_refl _) (by unfold maxLen; omega) (by simp [size_madeCells])
    rw [made3] at h
    simpa [fl3] using h
  have HM := Lib.hid hmade
  clear hmade hi hz0 hz1 hz2
  go_enter Try.func66, Try.ntmps66
  go_wp2
  clear hmk
  go_loopw [4] (fun i wr => ∃ k : Nat, k ≤ s.length ∧ i = .int .i64 k ∧ wr.ownsRow w.heap.size 80 3 (.slice (some ⟨w.heap.size, 0, none⟩) s.length s.length) s.length (fl3 (s.take k) ++ List.replicate ((s.length - k) * 3) (I 0)) ∧ Below w.heap.size w wr) (fun i _ => s.length - (intOf i).toNat)
  case atStart => exact ⟨0, by omega, rfl, HM.out, (Below.refl _ _).alloc (Nat.le_refl _) _⟩
  case round =>
    obtain ⟨k, hk, rfl, hown, hbel⟩ := hrel
    have hsz : w.heap.size ≤ wr.heap.size := hbel.size
    by_cases hlt : k < s.length
    · obtain ⟨b, off, rfl, hb, hc1, hc2, hc3⟩ := (H.out.below' hbel (by omega)).op hlt
      have BEL := Lib.hid hbel
      have OWN := Lib.hid hown
      clear hown hbel
      go_wp2_with fail
      go_at_call 110
      refine (toOp_any _ _ _ _).mono ?_
      rintro e w5 ⟨rfl, hb5⟩
      have hown5 := own_below OWN.out hb5
      have hl : (fl3 (s.take k)).length = k * 3 := by rw [fl3_length]; simp; omega
      have d0 : w5.cell? ⟨w.heap.size, k * 3, none⟩ = some (I 0) := by
        rw [hown5.cellAt _ (by omega)]
        exact rep_at (by omega) (by omega)
      have d1 : w5.cell? ⟨w.heap.size, k * 3 + 1, none⟩ = some (I 0) := by
        rw [hown5.cellAt _ (by omega)]
        exact rep_at (by omega) (by omega)
      have d2 : w5.cell? ⟨w.heap.size, k * 3 + 2, none⟩ = some (I 0) := by
        rw [hown5.cellAt _ (by omega)]
        exact rep_at (by omega) (by omega)
      have f0 : w5.frozen? ⟨w.heap.size, k * 3, none⟩ = false := hown5.frozenAt _
      have f1 : w5.frozen? ⟨w.heap.size, k * 3 + 1, none⟩ = false := hown5.frozenAt _
      have f2 : w5.frozen? ⟨w.heap.size, k * 3 + 2, none⟩ = false := hown5.frozenAt _
      have HB5 := Lib.hid hb5
      have OWN5 := Lib.hid hown5
      clear hb5 hown5 hl
      go_wp2
      go_roundw
      case rel =>
        refine ⟨k + 1, by omega, by go_num, ?_, ((((BEL.out.trans (HB5.out.mono hsz)).setCell (Nat.le_refl _) _).setCell (Nat.le_refl _) _).setCell (Nat.le_refl _) _)⟩
        have h := (((OWN5.out.stored (k * 3) (I s[k].1)).1.stored (k * 3 + 1) (I s[k].2.1)).1.stored (k * 3 + 2) (I s[k].2.2)).1
        rw [fill_op s k hlt] at h
        exact h
      case measure => simp [intOf]; omega
    · have hk' : k = s.length := by omega
      have BEL := Lib.hid hbel
      have OWN := Lib.hid hown
      subst hk'
      clear hown hbel
      go_wp2
      go_ret
      refine ⟨_, _, rfl, ?_, BEL.out⟩
      have h := OWN.out
      rw [List.take_of_length_le (Nat.le_refl _)] at h
      simpa [OwO] using h

theorem cells_set2 {w : World} {g : Nat} {a b : Value} {t : TypeId} (h : w.heap[g]? = some (.cells #[a, b] t (0, 0))) (u v : Value) : ((w.setCell ⟨g, 0, none⟩ u).setCell ⟨g, 1, none⟩ v).heap[g]? = some (.cells #[u, v] t (0, 0)) := by
  have h1 := heap_setCell_same w g 0 _ t u h
  have h2 := heap_setCell_same _ g 1 _ t v h1
  rw [h2]; rfl
theorem cells2 {w : World} {g : Nat} {a b : Value} {t : TypeId} (h : w.heap[g]? = some (.cells #[a, b] t (0, 0))) : w.cell? ⟨g, 0, none⟩ = some a ∧ w.cell? ⟨g, 1, none⟩ = some b := by
  refine ⟨?_, ?_⟩
  · rw [cell_of_row w g 0 _ _ (0, 0) h]; rfl
  · rw [cell_of_row w g 1 _ _ (0, 0) h]; rfl
theorem own_set2 {w : World} {B sz n g : Nat} {e t : TypeId} {v : Value} {xs : List Value} {cs : Array Value} (hr : w.ownsRow B e sz v n xs) (hg : w.heap[g]? = some (.cells cs t (0, 0))) (ht : t ≠ e) (a b : Value) : ((w.setCell ⟨g, 0, none⟩ a).setCell ⟨g, 1, none⟩ b).ownsRow B e sz v n xs :=
  own_set (o := 1) (own_set (o := 0) hr hg ht a) (heap_setCell_same _ _ 0 _ _ a hg) ht b
set_option maxRecDepth 100000 in
set_option maxHeartbeats 4000000 in
theorem toCode_any (B : Nat) (A : Option Addr) (c : Nat) (q : Cd) (w : World) (hm : q.ops.length ≤ 1048576) (hB : B ≤ w.heap.size) (hr : RdD w B A q) :
    Calls Try.prog 21 #[.agg #[.slice A q.ops.length c, .int .i64 q.out]] w fun e w' =>
      ∃ A' c', e = .returned (.agg #[.slice A' q.ops.length c', .int .i64 q.out]) ∧ OwD w' w.heap.size A' c' q ∧ Below w.heap.size w w' := by
  have H := Lib.hid hr
  clear hr
  go_enter Try.func21, Try.ntmps21
  go_wp2_with fail
  go_at_call 66
  generalize hw3 : World.alloc (World.alloc (World.alloc w _) _) _ = w3
  have q0 : w3.heap[w.heap.size]? = some (.cells #[.slice A q.ops.length c, .int .i64 q.out] 24 (0, 0)) := by
    rw [← hw3, Below.heap_alloc _ _ _ (by simp; omega), Below.heap_alloc _ _ _ (by simp)]; exact heap_alloc_new w _
  have q1 : w3.heap[w.heap.size + 1]? = some (.cells #[.slice none 0 0, .int .i64 0] 29 (0, 0)) := by
    rw [← hw3, Below.heap_alloc _ _ _ (by simp)]
    have := heap_alloc_new (w.alloc (.cells #[.slice A q.ops.length c, .int .i64 q.out] 24)) (.cells #[.slice none 0 0, .int .i64 0] 29)
    simpa using this
  have q2 : w3.heap[w.heap.size + 2]? = some (.cells #[.slice none 0 0, .int .i64 0] 29 (0, 0)) := by
    rw [← hw3]
    have := heap_alloc_new ((w.alloc (.cells #[.slice A q.ops.length c, .int .i64 q.out] 24)).alloc (.cells #[.slice none 0 0, .int .i64 0] 29)) (.cells #[.slice none 0 0, .int .i64 0] 29)
    simpa using this
  have hs3 : w3.heap.size = w.heap.size + 3 := by rw [← hw3]; simp
  have hb3 : Below w.heap.size w w3 := by rw [← hw3]; exact (((Below.refl _ _).alloc (Nat.le_refl _) _).alloc (by simp) _).alloc (by simp; omega) _
  clear hw3
  refine (toOpS_any B A c q.ops w3 hm (by omega) (H.out.below' hb3 hB)).mono ?_
  rintro e w5 ⟨B1, d1, rfl, hown5, hb5⟩
  have r0 := (hb5.block _ (by omega)).trans q0
  have r1 := (hb5.block _ (by omega)).trans q1
  have r2 := (hb5.block _ (by omega)).trans q2
  have a0 : w5.cell? ⟨w.heap.size, 1, none⟩ = some (.int .i64 q.out) := by rw [cell_of_row w5 _ 1 _ _ (0, 0) r0]; rfl
  have a1 : w5.cell? ⟨w.heap.size + 2, 0, none⟩ = some (.slice none 0 0) := by rw [cell_of_row w5 _ 0 _ _ (0, 0) r2]; rfl
  have a2 : w5.frozen? ⟨w.heap.size + 2, 0, none⟩ = false := frozen_of_row w5 _ 0 _ _ r2
  have a3 : w5.cell? ⟨w.heap.size + 2, 1, none⟩ = some (.int .i64 0) := by rw [cell_of_row w5 _ 1 _ _ (0, 0) r2]; rfl
  have a4 : w5.frozen? ⟨w.heap.size + 2, 1, none⟩ = false := frozen_of_row w5 _ 1 _ _ r2
  have b0 : w5.cell? ⟨w.heap.size + 1, 0, none⟩ = some (.slice none 0 0) := by rw [cell_of_row w5 _ 0 _ _ (0, 0) r1]; rfl
  have b1 : w5.cell? ⟨w.heap.size + 1, 1, none⟩ = some (.int .i64 0) := by rw [cell_of_row w5 _ 1 _ _ (0, 0) r1]; rfl
  have g0 : w5.frozen? ⟨w.heap.size + 1, 0, none⟩ = false := frozen_of_row w5 _ 0 _ _ r1
  have g1 : w5.frozen? ⟨w.heap.size + 1, 1, none⟩ = false := frozen_of_row w5 _ 1 _ _ r1
  have R1 := Lib.hid r1
  have R2 := Lib.hid r2
  have OO := Lib.hid (show OwO w5 w.heap.size (.slice B1 q.ops.length d1) q.ops from own_base hown5 (by omega))
  have HB5 := Lib.hid (hb3.trans (hb5.mono (by omega)))
  clear q0 q1 q2 r0 r1 r2 hs3 hb3 hb5 hown5
  go_wp2
  rw [show w.heap.size + 1 + 1 = w.heap.size + 2 from rfl]
  have e1 := cells_set2 R2.out (.slice B1 q.ops.length d1) (.int .i64 q.out)
  have r1 : (((w5.setCell ⟨w.heap.size + 2, 0, none⟩ (.slice B1 q.ops.length d1)).setCell ⟨w.heap.size + 2, 1, none⟩ (.int .i64 q.out))).heap[w.heap.size + 1]? = some (.cells #[.slice none 0 0, .int .i64 0] 29 (0, 0)) := by
    rw [Below.heap_setCell _ _ _ _ (by simp), Below.heap_setCell _ _ _ _ (by simp)]; exact R1.out
  have e2 := cells_set2 r1 (.slice B1 q.ops.length d1) (.int .i64 q.out)
  have o1 := own_set2 (own_set2 OO.out R2.out (by decide) (.slice B1 q.ops.length d1) (.int .i64 q.out)) r1 (by decide) (.slice B1 q.ops.length d1) (.int .i64 q.out)
  have b1 : Below w.heap.size w ((((w5.setCell ⟨w.heap.size + 2, 0, none⟩ (.slice B1 q.ops.length d1)).setCell ⟨w.heap.size + 2, 1, none⟩ (.int .i64 q.out)).setCell ⟨w.heap.size + 1, 0, none⟩ (.slice B1 q.ops.length d1)).setCell ⟨w.heap.size + 1, 1, none⟩ (.int .i64 q.out)) :=
    (((HB5.out.setCell (by simp) _).setCell (by simp) _).setCell (by simp) _).setCell (by simp) _
  have f0 := (cells2 e2).1
  have f1 := (cells2 e2).2
  clear e1 e2 r1
  generalize hwz : World.setCell _ _ _ = wz at f0 f1 o1 b1 ⊢
  refine bodyPost_ret (v := .agg #[.slice B1 q.ops.length d1, .int .i64 q.out]) (by simp [results, Try.results21, go_sem, f0, f1]) rfl ⟨B1, d1, rfl, o1, b1⟩

set_option maxHeartbeats 1000000 in
theorem eqOp_any (a b : Int × Int × Int) (w : World) :
    Calls Try.prog 114 #[.agg #[.int .i64 a.1, .int .i64 a.2.1, .int .i64 a.2.2], .agg #[.int .i64 b.1, .int .i64 b.2.1, .int .i64 b.2.2]] w fun e w' => e = .returned (.bool (decide (a = b))) ∧ Below w.heap.size w w' := by
  have hb : ∀ o o', Below w.heap.size w ((w.alloc o).alloc o') := fun o o' => ((Below.refl _ _).alloc (Nat.le_refl _) _).alloc (by simp) _
  have HB := Lib.hid hb
  clear hb
  obtain ⟨x, y, z⟩ := a
  obtain ⟨x', y', z'⟩ := b
  simp only
  by_cases h1 : x = x'
  · by_cases h2 : y = y'
    · by_cases h3 : z = z'
      · subst h1
        subst h2
        subst h3
        go_enter Try.func114, Try.ntmps114
        go_wp2
        go_ret
        exact ⟨ret_bool (by simp), HB.out _ _⟩
      · have E := Lib.hid (show decide ((x, y, z) = (x', y', z')) = false by simp [h3])
        have hne : (z != z') = true := by simpa using h3
        subst h1
        subst h2
        clear h3
        go_enter Try.func114, Try.ntmps114
        go_wp2
        go_ret
        exact ⟨ret_bool E.out.symm, HB.out _ _⟩
    · have E := Lib.hid (show decide ((x, y, z) = (x', y', z')) = false by simp [h2])
      have hne : (y != y') = true := by simpa using h2
      subst h1
      clear h2
      go_enter Try.func114, Try.ntmps114
      go_wp2
      go_ret
      exact ⟨ret_bool E.out.symm, HB.out _ _⟩
  · have E := Lib.hid (show decide ((x, y, z) = (x', y', z')) = false by simp [h1])
    have hne : (x != x') = true := by simpa using h1
    clear h1
    go_enter Try.func114, Try.ntmps114
    go_wp2
    go_ret
    exact ⟨ret_bool E.out.symm, HB.out _ _⟩

set_option maxRecDepth 100000 in
set_option maxHeartbeats 2000000 in
theorem eqOpS_any (B B' : Nat) (A A' : Option Addr) (c c' : Nat) (a b : List (Int × Int × Int)) (w : World) (hm : a.length ≤ 4000000) (_hm' : b.length ≤ 4000000) (hB : B ≤ w.heap.size) (hB' : B' ≤ w.heap.size) (hr : Rd w B 3 A a.length (fl3 a)) (hr' : Rd w B' 3 A' b.length (fl3 b)) :
    Calls Try.prog 68 #[.slice A a.length c, .slice A' b.length c'] w fun e w' => e = .returned (.bool (decide (a = b))) ∧ Below w.heap.size w w' := by
  have H := Lib.hid hr
  have H' := Lib.hid hr'
  clear hr hr'
  by_cases hl : a.length = b.length
  · have hlb : ((a.length : Int) != (b.length : Int)) = false := by simp [hl]
    have L := Lib.hid hl
    clear hl
    go_enter Try.func68, Try.ntmps68
    go_wp2
    go_loopw [5] (fun i wr => ∃ k : Nat, k ≤ a.length ∧ i = .int .i64 k ∧ a.take k = b.take k ∧ Below w.heap.size w wr) (fun i _ => a.length - (intOf i).toNat)
    case atStart => exact ⟨0, by omega, rfl, rfl, Below.refl _ _⟩
    case round =>
      obtain ⟨k, hk, rfl, hq, hbel⟩ := hrel
      have Q := Lib.hid hq
      clear hq
      by_cases hlt : k < a.length
      · have hlt' : k < b.length := by have := L.out; omega
        obtain ⟨b1, off, rfl, hb, hc1, hc2, hc3⟩ := (H.out.below' hbel hB).op hlt
        obtain ⟨b2, off2, rfl, hb2, hd1, hd2, hd3⟩ := (H'.out.below' hbel hB').op hlt'
        have i1 : (k : Int) < (a.length : Int) := by omega
        have i2 : (k : Int) < (b.length : Int) := by omega
        have i0 : (0 : Int) ≤ (k : Int) := by omega
        have BEL := Lib.hid hbel
        clear hbel
        obtain ⟨q, hq⟩ : ∃ q, decide (a[k] = b[k]) = q := ⟨_, rfl⟩
        have hE := eqOp_any a[k] b[k] wr.drew
        rw [hq] at hE
        have HE := Lib.hid hE
        have QQ := Lib.hid hq
        clear hq hE
        cases q with
        | true =>
          go_wp2
          refine wp_region_Tw [0, 1, 2, 3, 4, 5, 6, 7, 9] [3, 7] (.lp 0 (.lp 1 (.lp 2 (.lp 4 (.lp 5 (.lp 6 (.ls 3 (.ls 7 (.hv 8 (.lp 9 (.done))))))))))) (by kernel_rfl) (by kernel_rfl) ?_
          (repeat (first | (refine T_lp rfl (fun K hK => ?_); go_simp; refine hK _ ?_; clear hK K) | (refine T_ls rfl rfl (fun K hK => ?_); go_simp; refine hK _ ?_; clear hK K)))
          (refine T_hv rfl (by kernel_rfl) (fun K hK => ?_); go_simp)
          go_at_call 114
          refine HE.out.mono ?_
          rintro e w5 ⟨rfl, hb5⟩
          (go_simp; refine hK _ _ ?_; clear hK K)
          (repeat (first | (refine T_lp rfl (fun K hK => ?_); go_simp; refine hK _ ?_; clear hK K) | (refine T_ls rfl rfl (fun K hK => ?_); go_simp; refine hK _ ?_; clear hK K)))
          refine T_done ?_
          go_wp2
          go_roundw
          case rel =>
            refine ⟨k + 1, by omega, by go_num, ?_, BEL.out.drew.trans (hb5.mono (by have := BEL.out.size; simpa using this))⟩
            rw [List.take_succ_eq_append_getElem hlt, List.take_succ_eq_append_getElem hlt', Q.out]
            have := QQ.out
            simp only [decide_eq_true_eq] at this
            rw [this]
          case measure => simp [intOf]; omega
        | false =>
          go_wp2
          refine wp_region_Tw [0, 1, 2, 3, 4, 5, 6, 7, 9] [3, 7] (.lp 0 (.lp 1 (.lp 2 (.lp 4 (.lp 5 (.lp 6 (.ls 3 (.ls 7 (.hv 8 (.lp 9 (.done))))))))))) (by kernel_rfl) (by kernel_rfl) ?_
          (repeat (first | (refine T_lp rfl (fun K hK => ?_); go_simp; refine hK _ ?_; clear hK K) | (refine T_ls rfl rfl (fun K hK => ?_); go_simp; refine hK _ ?_; clear hK K)))
          (refine T_hv rfl (by kernel_rfl) (fun K hK => ?_); go_simp)
          go_at_call 114
          refine HE.out.mono ?_
          rintro e w5 ⟨rfl, hb5⟩
          (go_simp; refine hK _ _ ?_; clear hK K)
          (repeat (first | (refine T_lp rfl (fun K hK => ?_); go_simp; refine hK _ ?_; clear hK K) | (refine T_ls rfl rfl (fun K hK => ?_); go_simp; refine hK _ ?_; clear hK K)))
          refine T_done ?_
          go_wp2
          go_ret
          refine ⟨ret_bool ?_, BEL.out.drew.trans (hb5.mono (by have := BEL.out.size; simpa using this))⟩
          symm
          rw [decide_eq_false_iff_not]
          intro e
          subst e
          have := QQ.out
          simp at this
      · go_wp2
        go_ret
        refine ⟨ret_bool ?_, hbel⟩
        have h := Q.out
        have h2 := L.out
        rw [List.take_of_length_le (by omega), List.take_of_length_le (by omega)] at h
        simp [h]
  · have hlb : ((a.length : Int) != (b.length : Int)) = true := by rw [bne_iff_ne]; omega
    have L := Lib.hid hl
    clear hl
    go_enter Try.func68, Try.ntmps68
    go_wp2
    go_ret
    refine ⟨ret_bool ?_, Below.refl _ _⟩
    symm
    rw [decide_eq_false_iff_not]
    intro e
    exact L.out (by rw [e])

set_option maxRecDepth 100000 in
set_option maxHeartbeats 2000000 in
/-- A code against one that reads alike. -/
theorem eqCode_refl (B B' : Nat) (A D : Option Addr) (c d : Nat) (q : Cd) (w : World) (h1 : q.ops.length ≤ 4000000) (hB : B ≤ w.heap.size) (hB' : B' ≤ w.heap.size) (hr : RdD w B A q) (hr' : RdD w B' D q) :
    Calls Try.prog 23 #[.agg #[.slice A q.ops.length c, .int .i64 q.out], .agg #[.slice D q.ops.length d, .int .i64 q.out]] w fun e w' =>
      e = .returned (.bool true) ∧ Below w.heap.size w w' := by
  have H := Lib.hid hr
  have H' := Lib.hid hr'
  clear hr hr'
  go_enter Try.func23, Try.ntmps23
  go_wp2_with fail
  go_at_call 68
  generalize hw1 : World.alloc w _ = w1
  obtain ⟨⟨x0, x1⟩, xs, xb⟩ := bx2c hw1
  clear hw1
  generalize hw2 : World.alloc w1 _ = w2
  obtain ⟨⟨y0, y1⟩, ys, yb⟩ := bx2c hw2
  clear hw2
  rw [xs] at y0 y1
  have x1 := (yb.cell (p := ⟨w.heap.size, 1, none⟩) (by simp only []; omega)).trans x1
  have HB := Lib.hid (xb.trans (yb.mono (by omega)))
  have hs2 : w.heap.size + 2 = w2.heap.size := by omega
  clear x0 y0 xs ys xb yb
  have hE := eqOpS_any B B' A D c d q.ops q.ops w2 h1 h1 (by omega) (by omega) (H.out.below' HB.out hB) (H'.out.below' HB.out hB')
  rw [decide_eq_true rfl] at hE
  refine hE.mono ?_
  rintro e w3 ⟨rfl, hd'⟩
  clear hE
  have x1 := (hd'.cell (p := ⟨w.heap.size, 1, none⟩) (by simp only []; omega)).trans x1
  have y1 := (hd'.cell (p := ⟨w.heap.size + 1, 1, none⟩) (by simp only []; omega)).trans y1
  have HB3 := Lib.hid (HB.out.trans (hd'.mono (show w.heap.size ≤ w2.heap.size by omega)))
  clear hd' hs2
  go_wp2
  go_ret
  exact ⟨rfl, HB3.out⟩

def marksO (k : Int) (n : Nat) : List (Int × Int × Int) := (List.range n).map fun i : Nat => (k + 3 * (i : Int), k + 3 * (i : Int) + 1, k + 3 * (i : Int) + 2)
theorem marksO_length (k : Int) (n : Nat) : (marksO k n).length = n := by simp [marksO]
theorem marksO_succ (k : Int) (n : Nat) : marksO k (n + 1) = marksO k n ++ [(k + 3 * (n : Int), k + 3 * (n : Int) + 1, k + 3 * (n : Int) + 2)] := by
  unfold marksO
  rw [List.range_succ, List.map_append]
  rfl
theorem over_set_op (s : List (Int × Int × Int)) (m : Int) (k : Nat) (hk : k < s.length) :
    (((fl3 ((marksO m k) ++ s.drop k)).set (k * 3) (I (m + 3 * (k : Int)))).set (k * 3 + 1) (I (m + 3 * (k : Int) + 1))).set (k * 3 + 2) (I (m + 3 * (k : Int) + 2)) = fl3 ((marksO m (k + 1)) ++ s.drop (k + 1)) := by
  have hl : (fl3 (marksO m k)).length = k * 3 := by rw [fl3_length, marksO_length]
  have e2 : fl3 (s.drop k) = I (s[k]).1 :: I (s[k]).2.1 :: I (s[k]).2.2 :: fl3 (s.drop (k + 1)) := by rw [List.drop_eq_getElem_cons hk]; rfl
  rw [fl3_app, e2, List.set_append_right _ _ (by omega), hl, Nat.sub_self, List.set_cons_zero, List.set_append_right _ _ (by omega), hl, show k * 3 + 1 - k * 3 = 1 by omega, List.set_cons_succ, List.set_cons_zero,
    List.set_append_right _ _ (by omega), hl, show k * 3 + 2 - k * 3 = 2 by omega, List.set_cons_succ, List.set_cons_succ, List.set_cons_zero, marksO_succ, fl3_app, fl3_app]
  simp [fl3]
set_option maxRecDepth 100000 in
set_option maxHeartbeats 2000000 in
theorem markOpS_any (B : Nat) (A : Option Addr) (c : Nat) (s : List (Int × Int × Int)) (m : Int) (w : World) (hm : s.length ≤ 4000000) (hm0 : 0 ≤ m) (hm1 : m ≤ 100000000) (hown : OwO w B (.slice A s.length c) s) :
    Calls Try.prog 76 #[.slice A s.length c, .int .i64 m] w fun e w' => e = .returned (.int .i64 (m + 3 * (s.length : Int))) ∧ OwO w' B (.slice A s.length c) (marksO m s.length) ∧ w.grownBy w' (Value.slice A s.length c).ownBlock := by
  have HOWN := Lib.hid hown
  clear hown
  go_enter Try.func76, Try.ntmps76
  go_wp2
  go_loopw [1, 5] (fun kv iv wr => ∃ k : Nat, k ≤ s.length ∧ iv = .int .i64 k ∧ kv = .int .i64 (m + 3 * (k : Int)) ∧ OwO wr B (.slice A s.length c) (marksO m k ++ s.drop k) ∧ w.grownBy wr (Value.slice A s.length c).ownBlock) (fun _ i _ => s.length - (intOf i).toNat)
  case atStart => exact ⟨0, by omega, rfl, by simp, HOWN.out, World.grownBy.refl _ _⟩
  case round =>
    obtain ⟨k, hk, rfl, rfl, hown, hbel⟩ := hrel
    have hll : (marksO m k ++ s.drop k).length = s.length := by rw [List.length_append, marksO_length, List.length_drop]; omega
    by_cases hlt : k < s.length
    · have ho : wr.ownsRow B 80 3 (.slice A s.length c) s.length (fl3 (marksO m k ++ s.drop k)) := by
        have h : wr.ownsRow _ _ _ _ _ _ := hown
        rw [hll] at h
        exact h
      obtain ⟨g, rfl, hgB, hgs, hcs, hfs⟩ := own_at ho (by omega)
      have hlt' : k < (marksO m k ++ s.drop k).length := by rw [hll]; exact hlt
      obtain ⟨v0, hv0⟩ : ∃ v, wr.cell? ⟨g, k * 3, none⟩ = some (.int .i64 v) := ⟨_, by rw [hcs _ (by omega)]; exact (fl3_at hlt').1⟩
      obtain ⟨v1, hv1⟩ : ∃ v, wr.cell? ⟨g, k * 3 + 1, none⟩ = some (.int .i64 v) := ⟨_, by rw [hcs _ (by omega)]; exact (fl3_at hlt').2.1⟩
      obtain ⟨v2, hv2⟩ : ∃ v, wr.cell? ⟨g, k * 3 + 2, none⟩ = some (.int .i64 v) := ⟨_, by rw [hcs _ (by omega)]; exact (fl3_at hlt').2.2⟩
      have hf0 := hfs (k * 3)
      have ho1 := (ho.stored (k * 3) (I (m + 3 * (k : Int)))).1
      have hf1 := ho1.frozenAt (k * 3 + 1)
      have hu1 : (wr.setCell ⟨g, k * 3, none⟩ (I (m + 3 * (k : Int)))).cell? ⟨g, k * 3 + 1, none⟩ = some (.int .i64 v1) := by
        rw [ho1.cellAt _ (by omega), List.getElem?_set_ne (by omega), ← hcs _ (by omega)]
        exact hv1
      have ho2 := (ho1.stored (k * 3 + 1) (I (m + 3 * (k : Int) + 1))).1
      have hf2 := ho2.frozenAt (k * 3 + 2)
      have hu2 : ((wr.setCell ⟨g, k * 3, none⟩ (I (m + 3 * (k : Int)))).setCell ⟨g, k * 3 + 1, none⟩ (I (m + 3 * (k : Int) + 1))).cell? ⟨g, k * 3 + 2, none⟩ = some (.int .i64 v2) := by
        rw [ho2.cellAt _ (by omega), List.getElem?_set_ne (by omega), List.getElem?_set_ne (by omega), ← hcs _ (by omega)]
        exact hv2
      have HO := Lib.hid ho2
      have HB := Lib.hid hbel
      have hwr : IntKind.i64.wrap (m + 3 * (k : Int) + 1 + 1) = m + 3 * (k : Int) + 2 := by rw [IntWalk.i64_in _ (by omega)]; omega
      have hwq : m + 3 * (k : Int) + 1 + 1 = m + 3 * (k : Int) + 2 := by omega
      clear ho ho1 ho2 hown hbel hcs hfs
      go_wp2
      go_roundw
      case rel =>
        refine ⟨k + 1, by omega, by go_num, by go_num, ?_, grown_set (grown_set (grown_set HB.out _) _) _⟩
        have h := (HO.out.stored (k * 3 + 2) (I (m + 3 * (k : Int) + 2))).1
        rw [over_set_op s m k hlt] at h
        show World.ownsRow _ _ _ _ _ _ _
        rw [show (marksO m (k + 1) ++ s.drop (k + 1)).length = s.length by rw [List.length_append, marksO_length, List.length_drop]; omega]
        exact h
      case measure => simp [intOf]; omega
    · have hk' : k = s.length := by omega
      subst hk'
      rw [List.drop_length, List.append_nil] at hown
      go_wp2
      go_ret
      exact ⟨rfl, hown, hbel⟩

set_option maxHeartbeats 2000000 in
theorem heldOpS_any (B : Nat) (A : Option Addr) (c n : Nat) (m : Int) (w : World) (hm : n ≤ 4000000) (hm0 : 0 ≤ m) (hm1 : m ≤ 100000000) (hr : Rd w B 3 A n (fl3 (marksO m n))) :
    Calls Try.prog 85 #[.slice A n c, .int .i64 m] w fun e w' => e = .returned (.int .i64 (m + 3 * (n : Int))) ∧ w = w' := by
  have hr2 : Rd w B 3 A (marksO m n).length (fl3 (marksO m n)) := by rw [marksO_length]; exact hr
  have H := Lib.hid hr2
  clear hr hr2
  go_enter Try.func85, Try.ntmps85
  go_wp2
  go_loopw [1, 5] (fun kv iv wr => ∃ k : Nat, k ≤ n ∧ iv = .int .i64 k ∧ kv = .int .i64 (m + 3 * (k : Int)) ∧ w = wr) (fun _ i _ => n - (intOf i).toNat)
  case atStart => exact ⟨0, by omega, rfl, by simp, rfl⟩
  case round =>
    obtain ⟨k, hk, rfl, rfl, rfl⟩ := hrel
    by_cases hlt : k < n
    · obtain ⟨b, off, rfl, hb, hc1, hc2, hc3⟩ := H.out.op (show k < (marksO m n).length by rw [marksO_length]; exact hlt)
      have e : (marksO m n)[k]'(by rw [marksO_length]; exact hlt) = (m + 3 * (k : Int), m + 3 * (k : Int) + 1, m + 3 * (k : Int) + 1 + 1) := by simp [marksO]; omega
      rw [e] at hc1 hc2 hc3
      have ik : (k : Int) < (n : Int) := by omega
      go_wp2
      go_roundw
      case rel => exact ⟨k + 1, by omega, by go_num, by go_num, trivial⟩
      case measure => simp [intOf]; omega
    · have hk' : k = n := by omega
      subst hk'
      go_wp2
      go_ret
      exact ⟨rfl, rfl⟩

set_option maxRecDepth 100000 in
set_option maxHeartbeats 4000000 in
theorem markCode_any (B hi : Nat) (A : Option Addr) (c : Nat) (q : Cd) (m : Int) (w : World) (h1 : q.ops.length ≤ 1048576) (hm0 : 0 ≤ m) (hm1 : m ≤ 10000000) (hB : B ≤ w.heap.size) (hown : OwD w B A c q)
    (hb : ∀ k, (Value.slice A q.ops.length c).ownBlock = some k → k < hi) :
    Calls Try.prog 29 #[.agg #[.slice A q.ops.length c, .int .i64 q.out], .int .i64 m] w fun e w' =>
      e = .returned (.int .i64 (m + 3 * (q.ops.length : Int))) ∧ OwO w' B (.slice A q.ops.length c) (marksO m q.ops.length) ∧ Win B hi w w' := by
  have HOWN := Lib.hid hown
  have H1 := Lib.hid hb
  clear hown hb
  go_enter Try.func29, Try.ntmps29
  go_wp2_with fail
  go_at_call 76
  generalize hw1 : World.alloc w _ = w1
  obtain ⟨⟨x0, x1⟩, xs, xb⟩ := bx2c hw1
  clear hw1
  have hown1 := HOWN.out.below xb
  refine (markOpS_any B A c q.ops m w1 (by omega) hm0 (by omega) hown1).mono ?_
  rintro e w2 ⟨rfl, ho2, hg2⟩
  have hw2 : Win B hi w1 w2 := Win.of_grown hg2 (by omega) (fun k hk => ⟨(own_block hown1 k hk).1, H1.out k hk⟩)
  have HW2 := Lib.hid ((Win.of_below xb hB).trans hw2)
  have HO2 := Lib.hid ho2
  clear x0 x1 xs xb hown1 ho2 hg2 hw2
  go_wp2
  go_ret
  exact ⟨rfl, HO2.out, HW2.out⟩

theorem own_rd_marksO {w : World} {B c n : Nat} {A : Option Addr} {m : Int} (h : OwO w B (.slice A n c) (marksO m n)) : Rd w w.heap.size 3 A n (fl3 (marksO m n)) := by
  have h' : w.ownsRow _ _ _ _ _ _ := h
  rw [marksO_length] at h'
  exact Rd.of_own h'

set_option maxRecDepth 100000 in
set_option maxHeartbeats 2000000 in
theorem heldCode_any (B : Nat) (A : Option Addr) (c n : Nat) (z m : Int) (w : World) (h1 : n ≤ 1048576) (hm0 : 0 ≤ m) (hm1 : m ≤ 10000000) (hB : B ≤ w.heap.size) (hr : Rd w B 3 A n (fl3 (marksO m n))) :
    Calls Try.prog 38 #[.agg #[.slice A n c, .int .i64 z], .int .i64 m] w fun e w' =>
      e = .returned (.int .i64 (m + 3 * (n : Int))) ∧ Below w.heap.size w w' := by
  have H1 := Lib.hid hr
  clear hr
  have hn1 : ¬ (m + 3 * (n : Int) < 0) := by omega
  go_enter Try.func38, Try.ntmps38
  go_wp2_with fail
  go_at_call 85
  generalize hw1 : World.alloc w _ = w1
  obtain ⟨⟨x0, x1⟩, xs, xb⟩ := bx2c hw1
  clear hw1
  refine (heldOpS_any B A c n m w1 (by omega) hm0 (by omega) (H1.out.below' xb hB)).mono ?_
  rintro e w2 ⟨rfl, rfl⟩
  have XB := Lib.hid xb
  clear xb
  go_wp2
  go_ret
  exact ⟨rfl, XB.out⟩

section
variable {H : Type} {enc : TypeId × Value → H} {W : World} {base : Nat} {spare : Nat → Bool} {held : Bool}

set_option maxRecDepth 100000 in
set_option maxHeartbeats 1000000 in
/-- A slice of ops that came in. -/
theorem open_ops_rd {fuel : Nat} {x0 : Value} {x : DataW H × List MemPlace} (h : DataW.trod enc Try.prog W base spare held fuel 22 [x0] = some x) :
    ∃ (A : Option Addr) (c : Nat) (s : List (Int × Int × Int)), x0 = .slice A s.length c ∧ s.length ≤ maxLen ∧ Rd W W.heap.size 3 A s.length (fl3 s) := by
  rcases open_slice Try.underlying22 h with ⟨hcs, _⟩ | ⟨a, len, cap, m, n, D, Pl, hcs, _, hl, hm, hmm, _, hi⟩
  · simp only [List.cons.injEq, and_true] at hcs
    exact ⟨none, 0, [], hcs, by simp [maxLen], Rd.nil _ _ _ _⟩
  · simp only [List.cons.injEq, and_true] at hcs
    have hC : Try.prog.cellsOf 117 = 3 := by kernel_rfl
    have hlm : len ≤ m := by split at hmm <;> omega
    have key : ∀ i, ∃ xy : Int × Int × Int, i < len → W.cell? ((a.add (i * 3)).add 0) = some (.int .i64 xy.1) ∧ W.cell? ((a.add (i * 3)).add 1) = some (.int .i64 xy.2.1) ∧ W.cell? ((a.add (i * 3)).add 2) = some (.int .i64 xy.2.2) := by
      intro i
      by_cases hil : i < len
      · obtain ⟨cs', hcells, htr⟩ := hi i (by omega)
        rw [hC] at hcells
        obtain ⟨_, hcl, hat⟩ := World.cells?_some hcells
        obtain ⟨y0, y1, y2, n', _, _, t0, t1, t2⟩ := trod_struct3 Try.underlying117 htr
        match cs', hcl with
        | [k0, k1, k2], _ =>
          obtain ⟨z0, e0, _, _⟩ := DataW.trod_int Try.underlying3 t0
          obtain ⟨z1, e1, _, _⟩ := DataW.trod_int Try.underlying3 t1
          obtain ⟨z2, e2, _, _⟩ := DataW.trod_int Try.underlying3 t2
          have c1 : Try.prog.cellsOf 3 = 1 := by kernel_rfl
          simp [c1] at e0 e1 e2
          subst e0
          subst e1
          subst e2
          exact ⟨(z0, z1, z2), fun _ => ⟨hat 0 (by omega), hat 1 (by omega), hat 2 (by omega)⟩⟩
      · exact ⟨(0, 0, 0), fun h => absurd h hil⟩
    obtain ⟨f, hf⟩ : ∃ f : Nat → Int × Int × Int, ∀ i, i < len → W.cell? ((a.add (i * 3)).add 0) = some (.int .i64 (f i).1) ∧ W.cell? ((a.add (i * 3)).add 1) = some (.int .i64 (f i).2.1) ∧ W.cell? ((a.add (i * 3)).add 2) = some (.int .i64 (f i).2.2) :=
      ⟨fun i => Classical.choose (key i), fun i => Classical.choose_spec (key i)⟩
    have hlen : ((List.range len).map f).length = len := by simp
    refine ⟨some a, cap, (List.range len).map f, by rw [hlen]; exact hcs, by omega, ?_⟩
    rw [hlen]
    refine ⟨by rw [fl3_length, hlen], fun hn => ?_⟩
    have h0 := (hf 0 hn).1
    have e0 : (a.add (0 * 3)).add 0 = a := by unfold Addr.add; simp
    rw [e0] at h0
    refine ⟨a.block, a.off, by rw [← addr_form h0], World.block_lt_of_cell? _ _ h0, fun j hj => ?_⟩
    have hj' : j / 3 < len := by omega
    have hfl := fl3_at (s := (List.range len).map f) (k := j / 3) (by simpa using hj')
    have h1 := hf (j / 3) hj'
    rw [addr_form h0, add_form, add_form, add_form, add_form] at h1
    have hj2 : j % 3 = 0 ∨ j % 3 = 1 ∨ j % 3 = 2 := by omega
    rcases hj2 with hj2 | hj2 | hj2
    · have ej : j = j / 3 * 3 := by omega
      have := hfl.1
      rw [← ej] at this
      rw [this]
      have h2 := h1.1
      rw [Nat.add_zero, ← ej] at h2
      rw [h2]
      simp [I]
    · have ej : j = j / 3 * 3 + 1 := by omega
      have := hfl.2.1
      rw [← ej] at this
      rw [this]
      have h2 := h1.2.1
      rw [Nat.add_assoc, ← ej] at h2
      rw [h2]
      simp [I]
    · have ej : j = j / 3 * 3 + 2 := by omega
      have := hfl.2.2
      rw [← ej] at this
      rw [this]
      have h2 := h1.2.2
      rw [Nat.add_assoc, ← ej] at h2
      rw [h2]
      simp [I]

set_option maxRecDepth 100000 in
theorem open_code8 {v : Value} {d : DataW H} {p : List MemPlace} {b0 : Nat} {r : Reach} (hv : Value.okWide Try.prog W r b0 24 v) (h : DataW.Trod enc Try.prog W base spare held 24 v d p) :
    ∃ (A : Option Addr) (c : Nat) (q : Cd), v = .agg #[.slice A q.ops.length c, .int .i64 q.out] ∧ q.ops.length ≤ 9223372036854775807 ∧ RdD W W.heap.size A q := by
  obtain ⟨v0, v1, y0, y1, n, rfl, _, _, t0, t1⟩ := open_agg2 Try.underlying24 (by kernel_rfl) (by kernel_rfl) hv h
  obtain ⟨A, c, s, e1, l1, r1⟩ := open_ops_rd t0
  obtain ⟨z, e0, _, _⟩ := DataW.trod_int Try.underlying3 t1
  simp only [List.cons.injEq, and_true] at e0
  subst e0
  subst e1
  exact ⟨A, c, ⟨s, z⟩, rfl, by unfold maxLen at l1; exact l1, r1⟩
end
end Go.Proofs.Ytpopomcaknbhnaa
