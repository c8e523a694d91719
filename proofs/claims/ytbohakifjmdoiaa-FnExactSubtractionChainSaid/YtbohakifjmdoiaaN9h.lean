/- Rows of adders: what reads, what is own; the laws' own helpers: sizes, copies, comparison, marks, opening. -/
import Derived.Test.YtbohakifjmdoiaaOp
import Derived.Test.YtbohakifjmdoiaaLa
import Derived.Test.YtbohakifjmdoiaaLb
import Derived.Test.YtbohakifjmdoiaaMk
import Derived.Test.YtbohakifjmdoiaaMl
namespace Go.Proofs.Ytbohakifjmdoiaa
open Go.ChangeShapes Go.WideShapes Go.ChangeAt Go.RowKit Go.Deep Go.Joins

abbrev Ad := Int × Int × Int × Int × Bool
/-- The cells of a list of adders. -/
def fl5 (s : List Ad) : List Value := s.flatMap fun p => [I p.1, I p.2.1, I p.2.2.1, I p.2.2.2.1, .bool p.2.2.2.2]
theorem fl5_length (s : List Ad) : (fl5 s).length = s.length * 5 := by
  induction s with
  | nil => rfl
  | cons p s ih => simp [fl5] at ih ⊢; omega
theorem fl5_at {s : List Ad} {k : Nat} (hk : k < s.length) : (fl5 s)[k * 5]? = some (I s[k].1) ∧ (fl5 s)[k * 5 + 1]? = some (I s[k].2.1) ∧ (fl5 s)[k * 5 + 2]? = some (I s[k].2.2.1) ∧ (fl5 s)[k * 5 + 3]? = some (I s[k].2.2.2.1) ∧ (fl5 s)[k * 5 + 4]? = some (.bool s[k].2.2.2.2) := by
  induction s generalizing k with
  | nil => simp at hk
  | cons p s ih =>
    cases k with
    | zero => exact ⟨rfl, rfl, rfl, rfl, rfl⟩
    | succ k =>
      have := ih (k := k) (by simpa using hk)
      have e : fl5 (p :: s) = I p.1 :: I p.2.1 :: I p.2.2.1 :: I p.2.2.2.1 :: .bool p.2.2.2.2 :: fl5 s := rfl
      rw [e]
      refine ⟨?_, ?_, ?_, ?_, ?_⟩
      · rw [show (k + 1) * 5 = k * 5 + 1 + 1 + 1 + 1 + 1 from by omega]; simpa using this.1
      · rw [show (k + 1) * 5 + 1 = k * 5 + 1 + 1 + 1 + 1 + 1 + 1 from by omega]; simpa using this.2.1
      · rw [show (k + 1) * 5 + 2 = k * 5 + 2 + 1 + 1 + 1 + 1 + 1 from by omega]; simpa using this.2.2.1
      · rw [show (k + 1) * 5 + 3 = k * 5 + 3 + 1 + 1 + 1 + 1 + 1 from by omega]; simpa using this.2.2.2.1
      · rw [show (k + 1) * 5 + 4 = k * 5 + 4 + 1 + 1 + 1 + 1 + 1 from by omega]; simpa using this.2.2.2.2
theorem fl5_app (a b : List Ad) : fl5 (a ++ b) = fl5 a ++ fl5 b := by simp [fl5]
theorem fl5_snoc (s : List Ad) (p : Ad) : fl5 (s ++ [p]) = fl5 s ++ [I p.1, I p.2.1, I p.2.2.1, I p.2.2.2.1, .bool p.2.2.2.2] := by simp [fl5]
/-- The five cells of adder k. -/
theorem Rd.ad {w : World} {B : Nat} {A : Option Addr} {s : List Ad} (h : Rd w B 5 A s.length (fl5 s)) {k : Nat} (hk : k < s.length) :
    ∃ b off, A = some ⟨b, off, none⟩ ∧ b < B ∧ w.cell? ⟨b, off + k * 5, none⟩ = some (.int .i64 (s[k]'hk).1) ∧ w.cell? ⟨b, off + k * 5 + 1, none⟩ = some (.int .i64 (s[k]'hk).2.1) ∧ w.cell? ⟨b, off + k * 5 + 2, none⟩ = some (.int .i64 (s[k]'hk).2.2.1) ∧
      w.cell? ⟨b, off + k * 5 + 3, none⟩ = some (.int .i64 (s[k]'hk).2.2.2.1) ∧ w.cell? ⟨b, off + k * 5 + 4, none⟩ = some (.bool (s[k]'hk).2.2.2.2) := by
  obtain ⟨b, off, e, hb, hc⟩ := h.2 (by omega)
  refine ⟨b, off, e, hb, ?_, ?_, ?_, ?_, ?_⟩
  · rw [hc _ (by omega), (fl5_at hk).1]
  · rw [Nat.add_assoc, hc _ (by omega), (fl5_at hk).2.1]
  · rw [Nat.add_assoc, hc _ (by omega), (fl5_at hk).2.2.1]
  · rw [Nat.add_assoc, hc _ (by omega), (fl5_at hk).2.2.2.1]
  · rw [Nat.add_assoc, hc _ (by omega), (fl5_at hk).2.2.2.2]
def RdA (w : World) (B : Nat) (A : Option Addr) (s : List Ad) : Prop := Rd w B 5 A s.length (fl5 s)
def OwA (w : World) (B : Nat) (A : Option Addr) (c : Nat) (s : List Ad) : Prop := w.ownsRow B 39 5 (.slice A s.length c) s.length (fl5 s)
theorem OwA.nil (w : World) (B : Nat) : OwA w B none 0 [] := World.ownsRow_nil _ _ _ _
theorem own_capn9 {w : World} {B sz n c : Nat} {e : TypeId} {A : Option Addr} {xs : List Value} (h : w.ownsRow B e sz (.slice A n c) n xs) : n ≤ c := by
  obtain ⟨A', cc, e, hc⟩ := own_form h
  injection e with _ _ e
  omega
section
variable {w w' : World} {B B' c : Nat} {A : Option Addr} {q : List Ad}
theorem RdA.below (h : RdA w B A q) (hb : Below B w w') : RdA w' B A q := Rd.below h hb
theorem RdA.below' {C : Nat} (h : RdA w B A q) (hb : Below C w w') (hC : B ≤ C) : RdA w' B A q := h.below (hb.mono hC)
theorem RdA.more (h : RdA w B A q) (hB : B ≤ B') : RdA w B' A q := Rd.more h hB
theorem RdA.drew (h : RdA w B A q) : RdA w.drew B A q := h
theorem OwA.rd (h : OwA w B A c q) : RdA w w.heap.size A q := Rd.of_own h
theorem OwA.below (h : OwA w B A c q) (hb : Below w.heap.size w w') : OwA w' B A c q := own_below h hb
theorem OwA.base (h : OwA w B A c q) (hB : B' ≤ B) : OwA w B' A c q := own_base h hB
theorem OwA.cap (h : OwA w B A c q) : q.length ≤ c := own_capn9 h
end
theorem bx5 {w w1 : World} {a b c d e : Value} {t : TypeId} (h : w.alloc (.cells #[a, b, c, d, e] t) = w1) :
    w1.cell? ⟨w.heap.size, 0, none⟩ = some a ∧ w1.cell? ⟨w.heap.size, 1, none⟩ = some b ∧ w1.cell? ⟨w.heap.size, 2, none⟩ = some c ∧ w1.cell? ⟨w.heap.size, 3, none⟩ = some d ∧ w1.cell? ⟨w.heap.size, 4, none⟩ = some e ∧ w1.heap.size = w.heap.size + 1 ∧ Below w.heap.size w w1 := by
  subst h
  refine ⟨?_, ?_, ?_, ?_, ?_, by simp, (Below.refl _ _).alloc (Nat.le_refl _) _⟩ <;> (rw [World.cell?_alloc_at _ _ _ _ rfl]; rfl)

set_option maxHeartbeats 400000 in
theorem szAdderS_any (A : Option Addr) (n c : Nat) (left : Int) (w : World) (h0 : -1 ≤ left) (h1 : left ≤ 1048576) (hn : n ≤ 9223372036854775807) :
    Calls Try.prog 38 #[.slice A n c, .int .i64 left] w fun e w' => e = .returned (.int .i64 (szR left n)) ∧ w = w' := by
  by_cases h : left - n < 0
  · go_enter Try.func38, Try.ntmps38
    go_wp2
    go_ret
    exact ⟨ret_int (by simp [szR, h]), rfl⟩
  · go_enter Try.func38, Try.ntmps38
    go_wp2
    go_ret
    exact ⟨ret_int (by simp [szR]; omega), rfl⟩
theorem szR_ok9 {n : Nat} {left : Int} (h1 : left ≤ 1048576) (h : ¬ szR left n < 0) : n ≤ 1048576 := by
  unfold szR at h
  split at h <;> omega

set_option maxHeartbeats 2000000 in
theorem toAdder_any (a b c d : Int) (m : Bool) (w : World) : Calls Try.prog 77 #[.agg #[.int .i64 a, .int .i64 b, .int .i64 c, .int .i64 d, .bool m]] w fun e w' => e = .returned (.agg #[.int .i64 a, .int .i64 b, .int .i64 c, .int .i64 d, .bool m]) ∧ Below w.heap.size w w' := by
  go_enter Try.func77, Try.ntmps77
  go_wp2
  refine bodyPost_ret (v := .agg #[.int .i64 a, .int .i64 b, .int .i64 c, .int .i64 d, .bool m]) (by simp [results, Try.results77, go_sem]) rfl ⟨rfl, ?_⟩
  exact (((Below.refl _ _).alloc (Nat.le_refl _) _).alloc (by simp) _).alloc (by simp; omega) _
def Z5 : List Value := [I 0, I 0, I 0, I 0, .bool false]
def zs5 (n : Nat) : List Value := (List.replicate n Z5).flatten
theorem zs5_length (n : Nat) : (zs5 n).length = n * 5 := by unfold zs5; induction n with
  | zero => rfl
  | succ n ih => rw [List.replicate_succ, List.flatten_cons, List.length_append, ih]; simp [Z5]; omega
theorem zs5_succ (n : Nat) : zs5 (n + 1) = I 0 :: I 0 :: I 0 :: I 0 :: .bool false :: zs5 n := rfl
theorem fill_ad (s : List Ad) (k : Nat) (hk : k < s.length) : (((((fl5 (s.take k) ++ zs5 (s.length - k)).set (k * 5) (I s[k].1)).set (k * 5 + 1) (I s[k].2.1)).set (k * 5 + 2) (I s[k].2.2.1)).set (k * 5 + 3) (I s[k].2.2.2.1)).set (k * 5 + 4) (.bool s[k].2.2.2.2) = fl5 (s.take (k + 1)) ++ zs5 (s.length - (k + 1)) := by
  have hl : (fl5 (s.take k)).length = k * 5 := by rw [fl5_length]; simp; omega
  rw [List.set_append_right _ _ (by omega), show s.length - k = s.length - (k + 1) + 1 from by omega, zs5_succ, hl, Nat.sub_self, List.set_cons_zero,
    List.set_append_right _ _ (by omega), hl, show k * 5 + 1 - k * 5 = 1 from by omega, List.set_cons_succ, List.set_cons_zero,
    List.set_append_right _ _ (by omega), hl, show k * 5 + 2 - k * 5 = 2 from by omega, List.set_cons_succ, List.set_cons_succ, List.set_cons_zero,
    List.set_append_right _ _ (by omega), hl, show k * 5 + 3 - k * 5 = 3 from by omega, List.set_cons_succ, List.set_cons_succ, List.set_cons_succ, List.set_cons_zero,
    List.set_append_right _ _ (by omega), hl, show k * 5 + 4 - k * 5 = 4 from by omega, List.set_cons_succ, List.set_cons_succ, List.set_cons_succ, List.set_cons_succ, List.set_cons_zero, List.take_succ_eq_append_getElem hk, fl5_snoc]
  simp
theorem Z5_at (j : Nat) (h : j < 5) : Z5[j]? = some (#[I 0, I 0, I 0, I 0, Value.bool false].getD j (I 0)) := by
  have : j = 0 ∨ j = 1 ∨ j = 2 ∨ j = 3 ∨ j = 4 := by omega
  rcases this with rfl | rfl | rfl | rfl | rfl <;> rfl
theorem zs5_at : ∀ (n j : Nat), j < n * 5 → (zs5 n)[j]? = Z5[j % 5]? := by
  intro n
  induction n with
  | zero => intro j h; omega
  | succ n ih =>
    intro j h
    have e : zs5 (n + 1) = Z5 ++ zs5 n := rfl
    rw [e]
    by_cases h5 : j < 5
    · rw [List.getElem?_append_left (by simpa [Z5] using h5), Nat.mod_eq_of_lt h5]
    · rw [List.getElem?_append_right (by simp [Z5]; omega), show Z5.length = 5 from rfl, ih (j - 5) (by omega)]
      congr 1
      omega
theorem made5 (n : Nat) : (madeCells #[I 0, I 0, I 0, I 0, .bool false] (n * 5)).toList = zs5 n := by
  apply List.ext_getElem?
  intro j
  by_cases hj : j < n * 5
  · rw [zs5_at n j hj]
    have h6 : j % 5 = 0 ∨ j % 5 = 1 ∨ j % 5 = 2 ∨ j % 5 = 3 ∨ j % 5 = 4 := by omega
    rcases h6 with h | h | h | h | h <;> simp [madeCells, hj, h, Z5]
  · rw [List.getElem?_eq_none (by simp [madeCells]; omega), List.getElem?_eq_none (by rw [zs5_length]; omega)]
theorem info_ad9 : (Try.prog.info? 39).map (fun i => (i.zero, i.size, i.bytes)) = some (some (.agg #[.int .i64 0, .int .i64 0, .int .i64 0, .int .i64 0, .bool false]), 5, 40) := by kernel_rfl
theorem zs5_cell {n k j : Nat} {s : List Ad} (hk : k < n) (hn : s.length = n) (hj : j < 5) : (fl5 (s.take k) ++ zs5 (n - k))[k * 5 + j]? = Z5[j]? := by
  have hl : (fl5 (s.take k)).length = k * 5 := by rw [fl5_length]; simp; omega
  rw [List.getElem?_append_right (by omega), hl, show k * 5 + j - k * 5 = j by omega, zs5_at _ _ (by omega), Nat.mod_eq_of_lt hj]

set_option maxRecDepth 100000 in
set_option maxHeartbeats 4000000 in
theorem toAdderS_any (B : Nat) (A : Option Addr) (c : Nat) (s : List Ad) (w : World) (hm : s.length ≤ 1048576) (hB : B ≤ w.heap.size) (hr : RdA w B A s) :
    Calls Try.prog 40 #[.slice A s.length c] w fun e w' => ∃ A' c', e = .returned (.slice A' s.length c') ∧ OwA w' w.heap.size A' c' s ∧ Below w.heap.size w w' := by
  have H := Lib.hid hr
  clear hr
  obtain ⟨i0, hi, hz0, hz1, hz2⟩ := info_parts info_ad9
  have hmk : ∀ W : World, (Instr.makeSlice 46 (.int .i64 (s.length : Int)) (.int .i64 (s.length : Int))).run Try.prog W = .ok (.slice (some ⟨W.heap.size, 0, none⟩) s.length s.length) (W.alloc (.cells (madeCells #[.int .i64 0, .int .i64 0, .int .i64 0, .int .i64 0, .bool false] (s.length * 5)) 39)) := fun W => by
    have hr := run_make (P := Try.prog) W 46 39 i0 _ Try.underlying46 hi hz0 .i64 .i64 s.length s.length (by omega) (Int.le_refl _) (by rw [hz2]; omega) (by omega)
    simp only [Int.toNat_natCast] at hr
    rw [hz1] at hr
    exact hr
  have hmade : (w.alloc (.cells (madeCells #[.int .i64 0, .int .i64 0, .int .i64 0, .int .i64 0, .bool false] (s.length * 5)) 39)).ownsRow w.heap.size 39 5 (.slice (some ⟨w.heap.size, 0, none⟩) s.length s.length) s.length (fl5 (s.take 0) ++ zs5 (s.length - 0)) := by
    have h := World.ownsRow_lit (base := w.heap.size) (e := 39) (size := 5) w (madeCells #[Value.int .i64 0, .int .i64 0, .int .i64 0, .int .i64 0, .bool false] (s.length * 5)) s.length (Nat.le_refl _) (by unfold maxLen; omega) (by simp [size_madeCells])
    rw [made5] at h
    simpa [fl5] using h
  have HM := Lib.hid hmade
  clear hmade hi hz0 hz1 hz2
  go_enter Try.func40, Try.ntmps40
  go_wp2
  clear hmk
  go_loopw [4] (fun i wr => ∃ k : Nat, k ≤ s.length ∧ i = .int .i64 k ∧ wr.ownsRow w.heap.size 39 5 (.slice (some ⟨w.heap.size, 0, none⟩) s.length s.length) s.length (fl5 (s.take k) ++ zs5 (s.length - k)) ∧ Below w.heap.size w wr) (fun i _ => s.length - (intOf i).toNat)
  case atStart => exact ⟨0, by omega, rfl, HM.out, (Below.refl _ _).alloc (Nat.le_refl _) _⟩
  case round =>
    obtain ⟨k, hk, rfl, hown, hbel⟩ := hrel
    have hsz : w.heap.size ≤ wr.heap.size := hbel.size
    by_cases hlt : k < s.length
    · obtain ⟨b, off, rfl, hb, hc1, hc2, hc3, hc4, hc5⟩ := (H.out.below' hbel (by omega)).ad hlt
      have BEL := Lib.hid hbel
      have OWN := Lib.hid hown
      clear hown hbel
      go_wp2_with fail
      go_at_call 77
      refine (toAdder_any _ _ _ _ _ _).mono ?_
      rintro e w5 ⟨rfl, hb5⟩
      have hown5 := own_below OWN.out hb5
      have d0 : w5.cell? ⟨w.heap.size, k * 5, none⟩ = some (I 0) := by
        rw [hown5.cellAt _ (by omega)]; exact zs5_cell (j := 0) hlt rfl (by omega)
      have d1 : w5.cell? ⟨w.heap.size, k * 5 + 1, none⟩ = some (I 0) := by
        rw [hown5.cellAt _ (by omega)]; exact zs5_cell (j := 1) hlt rfl (by omega)
      have d2 : w5.cell? ⟨w.heap.size, k * 5 + 2, none⟩ = some (I 0) := by
        rw [hown5.cellAt _ (by omega)]; exact zs5_cell (j := 2) hlt rfl (by omega)
      have d3 : w5.cell? ⟨w.heap.size, k * 5 + 3, none⟩ = some (I 0) := by
        rw [hown5.cellAt _ (by omega)]; exact zs5_cell (j := 3) hlt rfl (by omega)
      have d4 : w5.cell? ⟨w.heap.size, k * 5 + 4, none⟩ = some (.bool false) := by
        rw [hown5.cellAt _ (by omega)]; exact zs5_cell (j := 4) hlt rfl (by omega)
      have f0 : w5.frozen? ⟨w.heap.size, k * 5, none⟩ = false := hown5.frozenAt _
      have f1 : w5.frozen? ⟨w.heap.size, k * 5 + 1, none⟩ = false := hown5.frozenAt _
      have f2 : w5.frozen? ⟨w.heap.size, k * 5 + 2, none⟩ = false := hown5.frozenAt _
      have f3 : w5.frozen? ⟨w.heap.size, k * 5 + 3, none⟩ = false := hown5.frozenAt _
      have f4 : w5.frozen? ⟨w.heap.size, k * 5 + 4, none⟩ = false := hown5.frozenAt _
      have HB5 := Lib.hid hb5
      have OWN5 := Lib.hid hown5
      clear hb5 hown5
      go_wp2
      go_roundw
      case rel =>
        refine ⟨k + 1, by omega, by go_num, ?_, ((((((BEL.out.trans (HB5.out.mono hsz)).setCell (Nat.le_refl _) _).setCell (Nat.le_refl _) _).setCell (Nat.le_refl _) _).setCell (Nat.le_refl _) _).setCell (Nat.le_refl _) _)⟩
        have h := (((((OWN5.out.stored (k * 5) (I s[k].1)).1.stored (k * 5 + 1) (I s[k].2.1)).1.stored (k * 5 + 2) (I s[k].2.2.1)).1.stored (k * 5 + 3) (I s[k].2.2.2.1)).1.stored (k * 5 + 4) (.bool s[k].2.2.2.2)).1
        rw [fill_ad s k hlt] at h
        exact h
      case measure => simp [intOf]; omega
    · have hk' : k = s.length := by omega
      have BEL := Lib.hid hbel
      have OWN := Lib.hid hown
      subst hk'
      clear hown hbel
      go_wp2
      go_ret
      refine ⟨_, _, rfl, ?_, BEL.out⟩
      have h := OWN.out
      rw [List.take_of_length_le (Nat.le_refl _), Nat.sub_self] at h
      simpa [OwA, zs5] using h

theorem adV (p : Ad) : p = (p.1, p.2.1, p.2.2.1, p.2.2.2.1, p.2.2.2.2) := rfl
set_option maxHeartbeats 2000000 in
theorem eqAdder_any (a b : Ad) (w : World) :
    Calls Try.prog 37 #[.agg #[.int .i64 a.1, .int .i64 a.2.1, .int .i64 a.2.2.1, .int .i64 a.2.2.2.1, .bool a.2.2.2.2], .agg #[.int .i64 b.1, .int .i64 b.2.1, .int .i64 b.2.2.1, .int .i64 b.2.2.2.1, .bool b.2.2.2.2]] w fun e w' => e = .returned (.bool (decide (a = b))) ∧ Below w.heap.size w w' := by
  have hb : ∀ o o', Below w.heap.size w ((w.alloc o).alloc o') := fun o o' => ((Below.refl _ _).alloc (Nat.le_refl _) _).alloc (by simp) _
  have HB := Lib.hid hb
  clear hb
  obtain ⟨x0, x1, x2, x3, x4⟩ := a
  obtain ⟨y0, y1, y2, y3, y4⟩ := b
  simp only
  by_cases h0 : x0 = y0
  · by_cases h1 : x1 = y1
    · by_cases h2 : x2 = y2
      · by_cases h3 : x3 = y3
        · by_cases h4 : x4 = y4
          · subst h0
            subst h1
            subst h2
            subst h3
            subst h4
            go_enter Try.func37, Try.ntmps37
            go_wp2
            go_ret
            exact ⟨ret_bool (by simp), HB.out _ _⟩
          · have E := Lib.hid (show decide ((x0, x1, x2, x3, x4) = (y0, y1, y2, y3, y4)) = false by simp [h4])
            have hne : (x4 != y4) = true := by simpa using h4
            have hne' : (!x4 == y4) = true := hne
            subst h0
            subst h1
            subst h2
            subst h3
            clear h4
            go_enter Try.func37, Try.ntmps37
            go_wp2
            go_ret
            exact ⟨ret_bool E.out.symm, HB.out _ _⟩
        · have E := Lib.hid (show decide ((x0, x1, x2, x3, x4) = (y0, y1, y2, y3, y4)) = false by simp [h3])
          have hne : (x3 != y3) = true := by simpa using h3
          subst h0
          subst h1
          subst h2
          clear h3
          go_enter Try.func37, Try.ntmps37
          go_wp2
          go_ret
          exact ⟨ret_bool E.out.symm, HB.out _ _⟩
      · have E := Lib.hid (show decide ((x0, x1, x2, x3, x4) = (y0, y1, y2, y3, y4)) = false by simp [h2])
        have hne : (x2 != y2) = true := by simpa using h2
        subst h0
        subst h1
        clear h2
        go_enter Try.func37, Try.ntmps37
        go_wp2
        go_ret
        exact ⟨ret_bool E.out.symm, HB.out _ _⟩
    · have E := Lib.hid (show decide ((x0, x1, x2, x3, x4) = (y0, y1, y2, y3, y4)) = false by simp [h1])
      have hne : (x1 != y1) = true := by simpa using h1
      subst h0
      clear h1
      go_enter Try.func37, Try.ntmps37
      go_wp2
      go_ret
      exact ⟨ret_bool E.out.symm, HB.out _ _⟩
  · have E := Lib.hid (show decide ((x0, x1, x2, x3, x4) = (y0, y1, y2, y3, y4)) = false by simp [h0])
    have hne : (x0 != y0) = true := by simpa using h0
    clear h0
    go_enter Try.func37, Try.ntmps37
    go_wp2
    go_ret
    exact ⟨ret_bool E.out.symm, HB.out _ _⟩
set_option maxRecDepth 100000 in
set_option maxHeartbeats 2000000 in
theorem eqAdderS_any (B B' : Nat) (A A' : Option Addr) (c c' : Nat) (a b : List Ad) (w : World) (hm : a.length ≤ 4000000) (_hm' : b.length ≤ 4000000) (hB : B ≤ w.heap.size) (hB' : B' ≤ w.heap.size) (hr : RdA w B A a) (hr' : RdA w B' A' b) :
    Calls Try.prog 42 #[.slice A a.length c, .slice A' b.length c'] w fun e w' => e = .returned (.bool (decide (a = b))) ∧ Below w.heap.size w w' := by
  have H := Lib.hid hr
  have H' := Lib.hid hr'
  clear hr hr'
  by_cases hl : a.length = b.length
  · have hlb : ((a.length : Int) != (b.length : Int)) = false := by simp [hl]
    have L := Lib.hid hl
    clear hl
    go_enter Try.func42, Try.ntmps42
    go_wp2
    go_loopw [5] (fun i wr => ∃ k : Nat, k ≤ a.length ∧ i = .int .i64 k ∧ a.take k = b.take k ∧ Below w.heap.size w wr) (fun i _ => a.length - (intOf i).toNat)
    case atStart => exact ⟨0, by omega, rfl, rfl, Below.refl _ _⟩
    case round =>
      obtain ⟨k, hk, rfl, hq, hbel⟩ := hrel
      have Q := Lib.hid hq
      clear hq
      by_cases hlt : k < a.length
      · have hlt' : k < b.length := by have := L.out; omega
        obtain ⟨b1, off, rfl, hb, hc1, hc2, hc3, hc4, hc5⟩ := (H.out.below' hbel hB).ad hlt
        obtain ⟨b2, off2, rfl, hb2, hd1, hd2, hd3, hd4, hd5⟩ := (H'.out.below' hbel hB').ad hlt'
        have i1 : (k : Int) < (a.length : Int) := by omega
        have i2 : (k : Int) < (b.length : Int) := by omega
        have i0 : (0 : Int) ≤ (k : Int) := by omega
        have BEL := Lib.hid hbel
        clear hbel
        obtain ⟨q, hq⟩ : ∃ q, decide (a[k] = b[k]) = q := ⟨_, rfl⟩
        have hE := eqAdder_any a[k] b[k] wr.drew
        rw [hq] at hE
        have HE := Lib.hid hE
        have QQ := Lib.hid hq
        clear hq hE
        cases q with
        | true =>
          go_wp2
          refine wp_region_Tw [0, 1, 2, 3, 4, 5, 6, 7, 9] [3, 7] (.lp 0 (.lp 1 (.lp 2 (.lp 4 (.lp 5 (.lp 6 (.ls 3 (.ls 7 (.hv 8 (.lp 9 (.done))))))))))) (by kernel_rfl) (by kernel_rfl) ?_
          (repeat (first | (refine T_lp rfl (fun K hK => ?_); go_simp; refine hK _ ?_; clear hK K) | (refine T_ls rfl rfl (fun K hK => ?_); go_simp; refine hK _ ?_; clear hK K)))
          (refine T_hv rfl (by kernel_rfl) (fun K hK => ?_); go_simp)
          go_at_call 37
          refine HE.out.mono ?_
          rintro e w5 ⟨rfl, hb5⟩
          (go_simp; refine hK _ _ ?_; clear hK K)
          (repeat (first | (refine T_lp rfl (fun K hK => ?_); go_simp; refine hK _ ?_; clear hK K) | (refine T_ls rfl rfl (fun K hK => ?_); go_simp; refine hK _ ?_; clear hK K)))
          refine T_done ?_
          go_wp2
          go_roundw
          case rel =>
            refine ⟨k + 1, by omega, by go_num, ?_, BEL.out.drew.trans (hb5.mono (by have := BEL.out.size; simpa using this))⟩
            rw [List.take_succ_eq_append_getElem hlt, List.take_succ_eq_append_getElem hlt', Q.out]
            have := QQ.out
            simp only [decide_eq_true_eq] at this
            rw [this]
          case measure => simp [intOf]; omega
        | false =>
          go_wp2
          refine wp_region_Tw [0, 1, 2, 3, 4, 5, 6, 7, 9] [3, 7] (.lp 0 (.lp 1 (.lp 2 (.lp 4 (.lp 5 (.lp 6 (.ls 3 (.ls 7 (.hv 8 (.lp 9 (.done))))))))))) (by kernel_rfl) (by kernel_rfl) ?_
          (repeat (first | (refine T_lp rfl (fun K hK => ?_); go_simp; refine hK _ ?_; clear hK K) | (refine T_ls rfl rfl (fun K hK => ?_); go_simp; refine hK _ ?_; clear hK K)))
          (refine T_hv rfl (by kernel_rfl) (fun K hK => ?_); go_simp)
          go_at_call 37
          refine HE.out.mono ?_
          rintro e w5 ⟨rfl, hb5⟩
          (go_simp; refine hK _ _ ?_; clear hK K)
          (repeat (first | (refine T_lp rfl (fun K hK => ?_); go_simp; refine hK _ ?_; clear hK K) | (refine T_ls rfl rfl (fun K hK => ?_); go_simp; refine hK _ ?_; clear hK K)))
          refine T_done ?_
          go_wp2
          go_ret
          refine ⟨ret_bool ?_, BEL.out.drew.trans (hb5.mono (by have := BEL.out.size; simpa using this))⟩
          symm
          rw [decide_eq_false_iff_not]
          intro e
          subst e
          have := QQ.out
          simp at this
      · go_wp2
        go_ret
        refine ⟨ret_bool ?_, hbel⟩
        have h := Q.out
        have h2 := L.out
        rw [List.take_of_length_le (by omega), List.take_of_length_le (by omega)] at h
        simp [h]
  · have hlb : ((a.length : Int) != (b.length : Int)) = true := by rw [bne_iff_ne]; omega
    have L := Lib.hid hl
    clear hl
    go_enter Try.func42, Try.ntmps42
    go_wp2
    go_ret
    refine ⟨ret_bool ?_, Below.refl _ _⟩
    symm
    rw [decide_eq_false_iff_not]
    intro e
    exact L.out (by rw [e])


theorem eqAdder_refl (a : Ad) (w : World) :
    Calls Try.prog 37 #[.agg #[.int .i64 a.1, .int .i64 a.2.1, .int .i64 a.2.2.1, .int .i64 a.2.2.2.1, .bool a.2.2.2.2], .agg #[.int .i64 a.1, .int .i64 a.2.1, .int .i64 a.2.2.1, .int .i64 a.2.2.2.1, .bool a.2.2.2.2]] w fun e w' => e = .returned (.bool true) ∧ Below w.heap.size w w' := by
  have h := eqAdder_any a a w
  rwa [decide_eq_true rfl] at h
theorem eqAdderS_refl (B B' : Nat) (A A' : Option Addr) (c c' : Nat) (a : List Ad) (w : World) (hm : a.length ≤ 4000000) (hB : B ≤ w.heap.size) (hB' : B' ≤ w.heap.size) (hr : RdA w B A a) (hr' : RdA w B' A' a) :
    Calls Try.prog 42 #[.slice A a.length c, .slice A' a.length c'] w fun e w' => e = .returned (.bool true) ∧ Below w.heap.size w w' := by
  have h := eqAdderS_any B B' A A' c c' a a w hm hm hB hB' hr hr'
  rwa [decide_eq_true rfl] at h

def mk5 (k : Int) (i : Nat) : Ad := (k + 5 * (i : Int), k + 5 * (i : Int) + 1, k + 5 * (i : Int) + 2, k + 5 * (i : Int) + 3, (k + 5 * (i : Int) + 4) % 3 == 0)
def marksA (k : Int) (n : Nat) : List Ad := (List.range n).map (mk5 k)
theorem marksA_length (k : Int) (n : Nat) : (marksA k n).length = n := by simp [marksA]
theorem marksA_succ (k : Int) (n : Nat) : marksA k (n + 1) = marksA k n ++ [mk5 k n] := by
  unfold marksA
  rw [List.range_succ, List.map_append]
  rfl
theorem over_set_ad (s : List Ad) (m : Int) (k : Nat) (hk : k < s.length) :
    (((((fl5 ((marksA m k) ++ s.drop k)).set (k * 5) (I (m + 5 * (k : Int)))).set (k * 5 + 1) (I (m + 5 * (k : Int) + 1))).set (k * 5 + 2) (I (m + 5 * (k : Int) + 2))).set (k * 5 + 3) (I (m + 5 * (k : Int) + 3))).set (k * 5 + 4) (.bool ((m + 5 * (k : Int) + 4) % 3 == 0)) = fl5 ((marksA m (k + 1)) ++ s.drop (k + 1)) := by
  have hl : (fl5 (marksA m k)).length = k * 5 := by rw [fl5_length, marksA_length]
  have e2 : fl5 (s.drop k) = I (s[k]).1 :: I (s[k]).2.1 :: I (s[k]).2.2.1 :: I (s[k]).2.2.2.1 :: .bool (s[k]).2.2.2.2 :: fl5 (s.drop (k + 1)) := by rw [List.drop_eq_getElem_cons hk]; rfl
  rw [fl5_app, e2, List.set_append_right _ _ (by omega), hl, Nat.sub_self, List.set_cons_zero, List.set_append_right _ _ (by omega), hl, show k * 5 + 1 - k * 5 = 1 by omega, List.set_cons_succ, List.set_cons_zero,
    List.set_append_right _ _ (by omega), hl, show k * 5 + 2 - k * 5 = 2 by omega, List.set_cons_succ, List.set_cons_succ, List.set_cons_zero,
    List.set_append_right _ _ (by omega), hl, show k * 5 + 3 - k * 5 = 3 by omega, List.set_cons_succ, List.set_cons_succ, List.set_cons_succ, List.set_cons_zero,
    List.set_append_right _ _ (by omega), hl, show k * 5 + 4 - k * 5 = 4 by omega, List.set_cons_succ, List.set_cons_succ, List.set_cons_succ, List.set_cons_succ, List.set_cons_zero, marksA_succ, fl5_app, fl5_app]
  simp [fl5, mk5]
set_option maxRecDepth 100000 in
set_option maxHeartbeats 8000000 in
theorem markAdderS_any (B : Nat) (A : Option Addr) (c : Nat) (s : List Ad) (m : Int) (w : World) (hm : s.length ≤ 4000000) (hm0 : 0 ≤ m) (hm1 : m ≤ 100000000) (hown : OwA w B A c s) :
    Calls Try.prog 45 #[.slice A s.length c, .int .i64 m] w fun e w' => e = .returned (.int .i64 (m + 5 * (s.length : Int))) ∧ OwA w' B A c (marksA m s.length) ∧ w.grownBy w' (Value.slice A s.length c).ownBlock := by
  have HOWN := Lib.hid hown
  clear hown
  go_enter Try.func45, Try.ntmps45
  go_wp2
  go_loopw [1, 5] (fun kv iv wr => ∃ k : Nat, k ≤ s.length ∧ iv = .int .i64 k ∧ kv = .int .i64 (m + 5 * (k : Int)) ∧ wr.ownsRow B 39 5 (.slice A s.length c) s.length (fl5 (marksA m k ++ s.drop k)) ∧ w.grownBy wr (Value.slice A s.length c).ownBlock) (fun _ i _ => s.length - (intOf i).toNat)
  case atStart => exact ⟨0, by omega, rfl, by simp, by simpa [marksA, OwA] using HOWN.out, World.grownBy.refl _ _⟩
  case round =>
    obtain ⟨k, hk, rfl, rfl, ho, hbel⟩ := hrel
    have hll : (marksA m k ++ s.drop k).length = s.length := by rw [List.length_append, marksA_length, List.length_drop]; omega
    by_cases hlt : k < s.length
    · obtain ⟨g, rfl, hgB, hgs, hcs, hfs⟩ := own_at ho (by omega)
      have hlt' : k < (marksA m k ++ s.drop k).length := by rw [hll]; exact hlt
      obtain ⟨v0, hv0⟩ : ∃ v, wr.cell? ⟨g, k * 5, none⟩ = some (.int .i64 v) := ⟨_, by rw [hcs _ (by omega)]; exact (fl5_at hlt').1⟩
      obtain ⟨v1, hv1⟩ : ∃ v, wr.cell? ⟨g, k * 5 + 1, none⟩ = some (.int .i64 v) := ⟨_, by rw [hcs _ (by omega)]; exact (fl5_at hlt').2.1⟩
      obtain ⟨v2, hv2⟩ : ∃ v, wr.cell? ⟨g, k * 5 + 2, none⟩ = some (.int .i64 v) := ⟨_, by rw [hcs _ (by omega)]; exact (fl5_at hlt').2.2.1⟩
      obtain ⟨v3, hv3⟩ : ∃ v, wr.cell? ⟨g, k * 5 + 3, none⟩ = some (.int .i64 v) := ⟨_, by rw [hcs _ (by omega)]; exact (fl5_at hlt').2.2.2.1⟩
      obtain ⟨v4, hv4⟩ : ∃ v, wr.cell? ⟨g, k * 5 + 4, none⟩ = some (.bool v) := ⟨_, by rw [hcs _ (by omega)]; exact (fl5_at hlt').2.2.2.2⟩
      have hf0 := hfs (k * 5)
      have ho1 := (ho.stored (k * 5) (I (m + 5 * (k : Int)))).1
      have hf1 := ho1.frozenAt (k * 5 + 1)
      have hu1 : (wr.setCell ⟨g, k * 5, none⟩ (I (m + 5 * (k : Int)))).cell? ⟨g, k * 5 + 1, none⟩ = some (.int .i64 v1) := by
        rw [ho1.cellAt _ (by omega), List.getElem?_set_ne (by omega), ← hcs _ (by omega)]
        exact hv1
      have ho2 := (ho1.stored (k * 5 + 1) (I (m + 5 * (k : Int) + 1))).1
      have hf2 := ho2.frozenAt (k * 5 + 2)
      have hu2 : ((wr.setCell ⟨g, k * 5, none⟩ (I (m + 5 * (k : Int)))).setCell ⟨g, k * 5 + 1, none⟩ (I (m + 5 * (k : Int) + 1))).cell? ⟨g, k * 5 + 2, none⟩ = some (.int .i64 v2) := by
        rw [ho2.cellAt _ (by omega), List.getElem?_set_ne (by omega), List.getElem?_set_ne (by omega), ← hcs _ (by omega)]
        exact hv2
      have ho3 := (ho2.stored (k * 5 + 2) (I (m + 5 * (k : Int) + 2))).1
      have hf3 := ho3.frozenAt (k * 5 + 3)
      have hu3 : (((wr.setCell ⟨g, k * 5, none⟩ (I (m + 5 * (k : Int)))).setCell ⟨g, k * 5 + 1, none⟩ (I (m + 5 * (k : Int) + 1))).setCell ⟨g, k * 5 + 2, none⟩ (I (m + 5 * (k : Int) + 2))).cell? ⟨g, k * 5 + 3, none⟩ = some (.int .i64 v3) := by
        rw [ho3.cellAt _ (by omega), List.getElem?_set_ne (by omega), List.getElem?_set_ne (by omega), List.getElem?_set_ne (by omega), ← hcs _ (by omega)]
        exact hv3
      have ho4 := (ho3.stored (k * 5 + 3) (I (m + 5 * (k : Int) + 3))).1
      have hf4 := ho4.frozenAt (k * 5 + 4)
      have hu4 : ((((wr.setCell ⟨g, k * 5, none⟩ (I (m + 5 * (k : Int)))).setCell ⟨g, k * 5 + 1, none⟩ (I (m + 5 * (k : Int) + 1))).setCell ⟨g, k * 5 + 2, none⟩ (I (m + 5 * (k : Int) + 2))).setCell ⟨g, k * 5 + 3, none⟩ (I (m + 5 * (k : Int) + 3))).cell? ⟨g, k * 5 + 4, none⟩ = some (.bool v4) := by
        rw [ho4.cellAt _ (by omega), List.getElem?_set_ne (by omega), List.getElem?_set_ne (by omega), List.getElem?_set_ne (by omega), List.getElem?_set_ne (by omega), ← hcs _ (by omega)]
        exact hv4
      have HO := Lib.hid ho4
      have HB := Lib.hid hbel
      have hq2 : m + 5 * (k : Int) + 1 + 1 = m + 5 * (k : Int) + 2 := by omega
      have hq3 : m + 5 * (k : Int) + 2 + 1 = m + 5 * (k : Int) + 3 := by omega
      have hq4 : m + 5 * (k : Int) + 3 + 1 = m + 5 * (k : Int) + 4 := by omega
      clear ho ho1 ho2 ho3 ho4 hbel hcs hfs
      go_wp2
      go_roundw
      case rel =>
        refine ⟨k + 1, by omega, by go_num, by go_num, ?_, grown_set (grown_set (grown_set (grown_set (grown_set HB.out _) _) _) _) _⟩
        have h := (HO.out.stored (k * 5 + 4) (.bool ((m + 5 * (k : Int) + 4) % 3 == 0))).1
        rw [over_set_ad s m k hlt] at h
        exact h
      case measure => simp [intOf]; omega
    · have hk' : k = s.length := by omega
      subst hk'
      rw [List.drop_length, List.append_nil] at ho
      have HO := Lib.hid ho
      clear ho
      go_wp2
      go_ret
      refine ⟨rfl, ?_, hbel⟩
      unfold OwA
      rw [marksA_length]
      exact HO.out

theorem own_rd_marksA {w : World} {B c n : Nat} {A : Option Addr} {m : Int} (h : w.ownsRow B 39 5 (.slice A (marksA m n).length c) (marksA m n).length (fl5 (marksA m n))) : Rd w w.heap.size 5 A n (fl5 (marksA m n)) := by
  rw [marksA_length] at h
  exact Rd.of_own h
set_option maxRecDepth 100000 in
set_option maxHeartbeats 4000000 in
theorem heldAdderS_any (B : Nat) (A : Option Addr) (c n : Nat) (m : Int) (w : World) (hm : n ≤ 4000000) (hm0 : 0 ≤ m) (hm1 : m ≤ 100000000) (hr : Rd w B 5 A n (fl5 (marksA m n))) :
    Calls Try.prog 48 #[.slice A n c, .int .i64 m] w fun e w' => e = .returned (.int .i64 (m + 5 * (n : Int))) ∧ w = w' := by
  have hr2 : RdA w B A (marksA m n) := by unfold RdA; rw [marksA_length]; exact hr
  have H := Lib.hid hr2
  clear hr hr2
  go_enter Try.func48, Try.ntmps48
  go_wp2
  go_loopw [1, 5] (fun kv iv wr => ∃ k : Nat, k ≤ n ∧ iv = .int .i64 k ∧ kv = .int .i64 (m + 5 * (k : Int)) ∧ w = wr) (fun _ i _ => n - (intOf i).toNat)
  case atStart => exact ⟨0, by omega, rfl, by simp, rfl⟩
  case round =>
    obtain ⟨k, hk, rfl, rfl, rfl⟩ := hrel
    by_cases hlt : k < n
    · obtain ⟨b, off, rfl, hb, hc1, hc2, hc3, hc4, hc5⟩ := H.out.ad (show k < (marksA m n).length by rw [marksA_length]; exact hlt)
      have e : (marksA m n)[k]'(by rw [marksA_length]; exact hlt) = mk5 m k := by simp [marksA]
      rw [e] at hc1 hc2 hc3 hc4 hc5
      simp only [mk5] at hc1 hc2 hc3 hc4 hc5
      have ik : (k : Int) < (n : Int) := by omega
      have hq2 : m + 5 * (k : Int) + 1 + 1 = m + 5 * (k : Int) + 2 := by omega
      have hq3 : m + 5 * (k : Int) + 2 + 1 = m + 5 * (k : Int) + 3 := by omega
      have hq4 : m + 5 * (k : Int) + 3 + 1 = m + 5 * (k : Int) + 4 := by omega
      go_wp2
      go_roundw
      case rel => exact ⟨k + 1, by omega, by go_num, by go_num, trivial⟩
      case measure => simp [intOf]; omega
    · have hk' : k = n := by omega
      subst hk'
      go_wp2
      go_ret
      exact ⟨rfl, rfl⟩
section
variable {H : Type} {enc : TypeId × Value → H} {W : World} {base : Nat} {spare : Nat → Bool} {held : Bool}

set_option maxRecDepth 100000 in
set_option maxHeartbeats 1000000 in
/-- A slice of adders that came in. -/
theorem open_ads {fuel : Nat} {x0 : Value} {x : DataW H × List MemPlace} (h : DataW.trod enc Try.prog W base spare held fuel 43 [x0] = some x) :
    ∃ (A : Option Addr) (c : Nat) (s : List (Ad)), x0 = .slice A s.length c ∧ s.length ≤ maxLen ∧ RdA W W.heap.size A s := by
  rcases open_slice Try.underlying43 h with ⟨hcs, _⟩ | ⟨a, len, cap, m, n, D, Pl, hcs, _, hl, hm, hmm, _, hi⟩
  · simp only [List.cons.injEq, and_true] at hcs
    exact ⟨none, 0, [], hcs, by simp [maxLen], Rd.nil _ _ _ _⟩
  · simp only [List.cons.injEq, and_true] at hcs
    have hC : Try.prog.cellsOf 69 = 5 := by kernel_rfl
    have hlm : len ≤ m := by split at hmm <;> omega
    have key : ∀ i, ∃ xy : Ad, i < len → W.cell? ((a.add (i * 5)).add 0) = some (.int .i64 xy.1) ∧ W.cell? ((a.add (i * 5)).add 1) = some (.int .i64 xy.2.1) ∧ W.cell? ((a.add (i * 5)).add 2) = some (.int .i64 xy.2.2.1) ∧ W.cell? ((a.add (i * 5)).add 3) = some (.int .i64 xy.2.2.2.1) ∧ W.cell? ((a.add (i * 5)).add 4) = some (.bool xy.2.2.2.2) := by
      intro i
      by_cases hil : i < len
      · obtain ⟨cs', hcells, htr⟩ := hi i (by omega)
        rw [hC] at hcells
        obtain ⟨_, hcl, hat⟩ := World.cells?_some hcells
        obtain ⟨xs, n', _, _, _, hlen, hf⟩ := DataW.trod_struct Try.underlying69 htr
        obtain ⟨y0, y1, y2, y3, y4, rfl⟩ : ∃ y0 y1 y2 y3 y4, xs = [y0, y1, y2, y3, y4] := by
          match xs, hlen with
          | [y0, y1, y2, y3, y4], _ => exact ⟨y0, y1, y2, y3, y4, rfl⟩
        have t0 := hf 0 _ rfl
        have t1 := hf 1 _ rfl
        have t2 := hf 2 _ rfl
        have t3 := hf 3 _ rfl
        have t4 := hf 4 _ rfl
        match cs', hcl with
        | [k0, k1, k2, k3, k4], _ =>
          obtain ⟨z0, e0, _, _⟩ := DataW.trod_int Try.underlying3 t0
          obtain ⟨z1, e1, _, _⟩ := DataW.trod_int Try.underlying3 t1
          obtain ⟨z2, e2, _, _⟩ := DataW.trod_int Try.underlying3 t2
          obtain ⟨z3, e3, _, _⟩ := DataW.trod_int Try.underlying3 t3
          obtain ⟨z4, e4, _, _⟩ := DataW.trod_bool Try.underlying4 t4
          have c1 : Try.prog.cellsOf 3 = 1 := by kernel_rfl
          have cb : Try.prog.cellsOf 4 = 1 := by kernel_rfl
          simp [c1, cb] at e0 e1 e2 e3 e4
          subst e0
          subst e1
          subst e2
          subst e3
          subst e4
          exact ⟨(z0, z1, z2, z3, z4), fun _ => ⟨hat 0 (by omega), hat 1 (by omega), hat 2 (by omega), hat 3 (by omega), hat 4 (by omega)⟩⟩
      · exact ⟨(0, 0, 0, 0, false), fun h => absurd h hil⟩
    obtain ⟨f, hf⟩ : ∃ f : Nat → Ad, ∀ i, i < len → W.cell? ((a.add (i * 5)).add 0) = some (.int .i64 (f i).1) ∧ W.cell? ((a.add (i * 5)).add 1) = some (.int .i64 (f i).2.1) ∧ W.cell? ((a.add (i * 5)).add 2) = some (.int .i64 (f i).2.2.1) ∧ W.cell? ((a.add (i * 5)).add 3) = some (.int .i64 (f i).2.2.2.1) ∧ W.cell? ((a.add (i * 5)).add 4) = some (.bool (f i).2.2.2.2) :=
      ⟨fun i => Classical.choose (key i), fun i => Classical.choose_spec (key i)⟩
    have hlen : ((List.range len).map f).length = len := by simp
    refine ⟨some a, cap, (List.range len).map f, by rw [hlen]; exact hcs, by omega, ?_⟩
    unfold RdA
    rw [hlen]
    refine ⟨by rw [fl5_length, hlen], fun hn => ?_⟩
    have h0 := (hf 0 hn).1
    have e0 : (a.add (0 * 5)).add 0 = a := by unfold Addr.add; simp
    rw [e0] at h0
    refine ⟨a.block, a.off, by rw [← addr_form h0], World.block_lt_of_cell? _ _ h0, fun j hj => ?_⟩
    have hj' : j / 5 < len := by omega
    have hfl := fl5_at (s := (List.range len).map f) (k := j / 5) (by simpa using hj')
    have h1 := hf (j / 5) hj'
    rw [addr_form h0, add_form, add_form, add_form, add_form, add_form, add_form] at h1
    have hj2 : j % 5 = 0 ∨ j % 5 = 1 ∨ j % 5 = 2 ∨ j % 5 = 3 ∨ j % 5 = 4 := by omega
    rcases hj2 with hj2 | hj2 | hj2 | hj2 | hj2
    · have ej : j = j / 5 * 5 := by omega
      have := hfl.1
      rw [← ej] at this
      rw [this]
      have h2 := h1.1
      rw [Nat.add_zero, ← ej] at h2
      rw [h2]
      simp [I]
    · have ej : j = j / 5 * 5 + 1 := by omega
      have := hfl.2.1
      rw [← ej] at this
      rw [this]
      have h2 := h1.2.1
      rw [Nat.add_assoc, ← ej] at h2
      rw [h2]
      simp [I]
    · have ej : j = j / 5 * 5 + 2 := by omega
      have := hfl.2.2.1
      rw [← ej] at this
      rw [this]
      have h2 := h1.2.2.1
      rw [Nat.add_assoc, ← ej] at h2
      rw [h2]
      simp [I]
    · have ej : j = j / 5 * 5 + 3 := by omega
      have := hfl.2.2.2.1
      rw [← ej] at this
      rw [this]
      have h2 := h1.2.2.2.1
      rw [Nat.add_assoc, ← ej] at h2
      rw [h2]
      simp [I]
    · have ej : j = j / 5 * 5 + 4 := by omega
      have := hfl.2.2.2.2
      rw [← ej] at this
      rw [this]
      have h2 := h1.2.2.2.2
      rw [Nat.add_assoc, ← ej] at h2
      rw [h2]
      simp
end

theorem szAdderS9 (A : Option Addr) (c : Nat) (l : List Ad) (left : Int) (w : World) (h0 : -1 ≤ left) (h1 : left ≤ 1048576) (hn : l.length ≤ 9223372036854775807) :
    Calls Try.prog 38 #[.slice A l.length c, .int .i64 left] w fun e w' => e = .returned (.int .i64 (szR left l.length)) ∧ Below w.heap.size w w' :=
  (szAdderS_any A l.length c left w h0 h1 hn).mono (by rintro e w' ⟨rfl, rfl⟩; exact ⟨rfl, Below.refl _ _⟩)
theorem open_adders {H : Type} {enc : TypeId × Value → H} {W : World} {base : Nat} {spare : Nat → Bool} {held : Bool} {v : Value} {d : DataW H} {p : List MemPlace} {b0 : Nat} {r : Reach} (hv : Value.okWide Try.prog W r b0 43 v) (h : DataW.Trod enc Try.prog W base spare held 43 v d p) :
    ∃ (A : Option Addr) (c : Nat) (l : List Ad), v = .slice A l.length c ∧ l.length ≤ 9223372036854775807 ∧ RdA W W.heap.size A l := by
  obtain ⟨A0, n0, c0, rfl⟩ := okWide_slice Try.underlying43 hv
  obtain ⟨fuel, hf⟩ := h
  obtain ⟨A, c, l, e, h1, h2⟩ := open_ads hf
  exact ⟨A, c, l, e, by unfold maxLen at h1; exact h1, h2⟩
end Go.Proofs.Ytbohakifjmdoiaa
