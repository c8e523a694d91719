/- The uses of all values, by the program. -/
import Derived.Test.YtlkieebmfmiafaaJd
import Derived.Test.YtlkieebmfmiafaaKc
import Derived.Test.YtlkieebmfmiafaaCa
namespace Go.Proofs.Ytlkieebmfmiafaa
open Go.RowKit

theorem fill2 (l : List Value) (z a b : Value) {n k : Nat} (hl : l.length = k * 2) (hk : k < n) :
    ((l ++ List.replicate ((n - k) * 2) z).set (k * 2) a).set (k * 2 + 1) b = l ++ [a, b] ++ List.replicate ((n - (k + 1)) * 2) z := by
  rw [show (n - k) * 2 = (n - (k + 1)) * 2 + 1 + 1 by omega, List.replicate_succ, List.replicate_succ, List.set_append_right _ _ (by omega), List.set_append_right _ _ (by omega), hl, Nat.sub_self, show k * 2 + 1 - k * 2 = 1 by omega]
  simp
theorem info_uses : (Try.prog.info? 78).map (fun i => (i.zero, i.size, i.bytes)) = some (some (.agg #[.slice none 0 0, .slice none 0 0]), 2, 48) := by kernel_rfl

def uuV (fo fs : Nat → Option Addr × Nat) (s : List (Int × Int)) (o : List Int) (i : Nat) : List Value :=
  [.slice (fo i).1 (usO o (i : Int) o.length).length (fo i).2, .slice (fs i).1 (usS s (i : Int) s.length).length (fs i).2]
def UU (fo fs : Nat → Option Addr × Nat) (s : List (Int × Int)) (o : List Int) (k : Nat) : List Value := (List.range k).flatMap (uuV fo fs s o)
def updU (f : Nat → Option Addr × Nat) (k : Nat) (a : Option Addr × Nat) : Nat → Option Addr × Nat := fun i => if i = k then a else f i
theorem UU_succ (fo fs : Nat → Option Addr × Nat) (s : List (Int × Int)) (o : List Int) (k : Nat) : UU fo fs s o (k + 1) = UU fo fs s o k ++ uuV fo fs s o k := by
  unfold UU
  rw [List.range_succ, List.flatMap_append]
  simp
theorem UU_len (fo fs : Nat → Option Addr × Nat) (s : List (Int × Int)) (o : List Int) (k : Nat) : (UU fo fs s o k).length = k * 2 := by
  induction k with
  | zero => rfl
  | succ k ih => rw [UU_succ, List.length_append, ih]; simp [uuV]; omega
theorem UU_at (fo fs : Nat → Option Addr × Nat) (s : List (Int × Int)) (o : List Int) {i k : Nat} (h : i < k) :
    (UU fo fs s o k)[i * 2]? = some (.slice (fo i).1 (usO o (i : Int) o.length).length (fo i).2) ∧ (UU fo fs s o k)[i * 2 + 1]? = some (.slice (fs i).1 (usS s (i : Int) s.length).length (fs i).2) := by
  induction k with
  | zero => omega
  | succ k ih =>
    rw [UU_succ]
    rcases Nat.lt_or_ge i k with h1 | h1
    · obtain ⟨e1, e2⟩ := ih h1
      have hl := UU_len fo fs s o k
      exact ⟨by rw [List.getElem?_append_left (by omega), e1], by rw [List.getElem?_append_left (by omega), e2]⟩
    · have e : i = k := by omega
      subst e
      have hl := UU_len fo fs s o i
      exact ⟨by rw [List.getElem?_append_right (by omega), hl, Nat.sub_self]; rfl, by rw [List.getElem?_append_right (by omega), hl, show i * 2 + 1 - i * 2 = 1 by omega]; rfl⟩
theorem UU_upd (fo fs : Nat → Option Addr × Nat) (s : List (Int × Int)) (o : List Int) (k : Nat) (a b : Option Addr × Nat) :
    UU (updU fo k a) (updU fs k b) s o (k + 1) = UU fo fs s o k ++ [.slice a.1 (usO o (k : Int) o.length).length a.2, .slice b.1 (usS s (k : Int) s.length).length b.2] := by
  have key : ∀ j, j ≤ k → UU (updU fo k a) (updU fs k b) s o j = UU fo fs s o j := by
    intro j
    induction j with
    | zero => intro _; rfl
    | succ j ih =>
      intro hj
      rw [UU_succ, UU_succ, ih (by omega)]
      have : ¬ j = k := by omega
      simp [uuV, updU, this]
  rw [UU_succ, key k (Nat.le_refl _)]
  simp [uuV, updU]
/-- Rows of outputs and of steps, of the first k values. -/
def OwX (w : World) (B : Nat) (fo fs : Nat → Option Addr × Nat) (s : List (Int × Int)) (o : List Int) (k : Nat) : Prop :=
  ∀ i : Nat, i < k → OwI w B (.slice (fo i).1 (usO o (i : Int) o.length).length (fo i).2) (usO o (i : Int) o.length) ∧ OwI w B (.slice (fs i).1 (usS s (i : Int) s.length).length (fs i).2) (usS s (i : Int) s.length)
/-- A list of the uses of R values, all of it own. -/
def OwU (w : World) (B : Nat) (A : Option Addr) (c : Nat) (fo fs : Nat → Option Addr × Nat) (s : List (Int × Int)) (o : List Int) (R : Nat) : Prop :=
  w.ownsRow B 78 2 (.slice A R c) R (UU fo fs s o R) ∧ OwX w B fo fs s o R
section
variable {w w' : World} {B B' c k R : Nat} {A : Option Addr} {fo fs : Nat → Option Addr × Nat} {s : List (Int × Int)} {o : List Int}
theorem OwX.below (h : OwX w B fo fs s o k) (hb : Below w.heap.size w w') : OwX w' B fo fs s o k := fun i hi => ⟨(h i hi).1.below hb, (h i hi).2.below hb⟩
theorem OwX.base (h : OwX w B fo fs s o k) (hB : B' ≤ B) : OwX w B' fo fs s o k := fun i hi => ⟨(h i hi).1.base hB, (h i hi).2.base hB⟩
theorem OwX.set {g j : Nat} {cs : Array Value} {t : TypeId} (h : OwX w B fo fs s o k) (hg : w.heap[g]? = some (.cells cs t (0, 0))) (ht : t ≠ 3) (u : Value) : OwX (w.setCell ⟨g, j, none⟩ u) B fo fs s o k :=
  fun i hi => ⟨own_set (h := (h i hi).1) hg ht u, own_set (h := (h i hi).2) hg ht u⟩
theorem OwX.upd {a b : Option Addr × Nat} (h : OwX w B fo fs s o k) (ha : OwI w B (.slice a.1 (usO o (k : Int) o.length).length a.2) (usO o (k : Int) o.length)) (hb : OwI w B (.slice b.1 (usS s (k : Int) s.length).length b.2) (usS s (k : Int) s.length)) :
    OwX w B (updU fo k a) (updU fs k b) s o (k + 1) := by
  intro i hi
  by_cases e : i = k
  · subst e
    simp only [updU, if_true]
    exact ⟨ha, hb⟩
  · have := h i (by omega)
    simp only [updU, if_neg e]
    exact this
theorem OwU.below (h : OwU w B A c fo fs s o R) (hb : Below w.heap.size w w') : OwU w' B A c fo fs s o R := ⟨own_below h.1 hb, h.2.below hb⟩
theorem OwU.base (h : OwU w B A c fo fs s o R) (hB : B' ≤ B) : OwU w B' A c fo fs s o R := ⟨own_base h.1 hB, h.2.base hB⟩
/-- The two cells of value i, and its rows. -/
theorem OwU.at_ (h : OwU w B A c fo fs s o R) {i : Nat} (hi : i < R) : ∃ g, A = some ⟨g, 0, none⟩ ∧ B ≤ g ∧ g < w.heap.size ∧
    w.cell? ⟨g, i * 2, none⟩ = some (.slice (fo i).1 (usO o (i : Int) o.length).length (fo i).2) ∧ w.cell? ⟨g, i * 2 + 1, none⟩ = some (.slice (fs i).1 (usS s (i : Int) s.length).length (fs i).2) := by
  obtain ⟨g, rfl, hB, hg, hc, _⟩ := own_at h.1 (by omega)
  obtain ⟨e1, e2⟩ := UU_at fo fs s o hi
  exact ⟨g, rfl, hB, hg, (hc _ (by omega)).trans e1, (hc _ (by omega)).trans e2⟩
end

set_option maxRecDepth 100000 in
set_option maxHeartbeats 4000000 in
theorem allUses_any (B N R : Nat) (A1 A2 A : Option Addr) (c1 c2 c : Nat) (p : Pl) (w : World) (hs40 : p.s.length ≤ 40) (ho6 : p.o.length ≤ 6) (hR : R ≤ 46) (hB : B ≤ w.heap.size) (hr : RdP w B A1 A2 p) :
    Calls Try.prog 63 #[.agg #[.int .i64 N, .slice A1 p.s.length c1, .slice A2 p.o.length c2, .slice A R c]] w fun e w' =>
      ∃ A' c' fo fs, e = .returned (.slice A' R c') ∧ OwU w' w.heap.size A' c' fo fs p.s p.o R ∧ Below w.heap.size w w' := by
  have H := Lib.hid hr
  clear hr
  obtain ⟨i0, hi, hz0, hz1, hz2⟩ := info_parts info_uses
  have hmk : ∀ W : World, (Instr.makeSlice 75 (.int .i64 (R : Int)) (.int .i64 (R : Int))).run Try.prog W = .ok (.slice (some ⟨W.heap.size, 0, none⟩) R R) (W.alloc (.cells (madeCells #[.slice none 0 0, .slice none 0 0] (R * 2)) 78)) := fun W => by
    have hr := run_make (P := Try.prog) W 75 78 i0 _ Try.underlying75 hi hz0 .i64 .i64 R R (by omega) (Int.le_refl _) (by rw [hz2]; omega) (by omega)
    simp only [Int.toNat_natCast] at hr
    rw [hz1] at hr
    exact hr
  go_enter Try.func63, Try.ntmps63
  go_wp2
  clear hmk hi hz0 hz1 hz2
  generalize hw1 : World.alloc w _ = w1
  obtain ⟨x0, x1, x2, x3, xs, xb⟩ := box4 hw1
  clear hw1
  rw [← xs]
  generalize hw2 : World.alloc w1 _ = w2
  have hmade : w2.ownsRow (w.heap.size + 1) 78 2 (.slice (some ⟨w1.heap.size, 0, none⟩) R R) R (UU (fun _ => (none, 0)) (fun _ => (none, 0)) p.s p.o 0 ++ List.replicate ((R - 0) * 2) (.slice none 0 0)) := by
    have h := World.ownsRow_lit (base := w.heap.size + 1) (e := 78) (size := 2) w1 (madeCells #[Value.slice none 0 0, Value.slice none 0 0] (R * 2)) R (by omega) (by unfold maxLen; omega) (by simp [size_madeCells])
    rw [made2, hw2] at h
    simpa [UU] using h
  have hb2 : Below (w.heap.size + 1) w1 w2 := by rw [← hw2]; exact (Below.refl _ _).alloc (by omega) _
  clear hw2
  have y0 := (hb2.cell (p := ⟨w.heap.size, 0, none⟩) (by simp)).trans x0
  have y1 := (hb2.cell (p := ⟨w.heap.size, 1, none⟩) (by simp)).trans x1
  have y2 := (hb2.cell (p := ⟨w.heap.size, 2, none⟩) (by simp)).trans x2
  have y3 := (hb2.cell (p := ⟨w.heap.size, 3, none⟩) (by simp)).trans x3
  have HB2 := Lib.hid (xb.trans (hb2.mono (show w.heap.size ≤ w.heap.size + 1 by omega)))
  have HM := Lib.hid hmade
  have hg : w.heap.size + 1 ≤ w1.heap.size := by omega
  have hw12 : w.heap.size + 1 < w2.heap.size := by have := ((own_block hmade) _ rfl).2; have e : w1.heap.size < w2.heap.size := this; omega
  clear x0 x1 x2 x3 xs xb hb2 hmade
  go_loopw [12] (fun iv wr => ∃ (k : Nat) (fo fs : Nat → Option Addr × Nat), k ≤ R ∧ iv = .int .i64 k ∧ wr.ownsRow (w.heap.size + 1) 78 2 (.slice (some ⟨w1.heap.size, 0, none⟩) R R) R (UU fo fs p.s p.o k ++ List.replicate ((R - k) * 2) (.slice none 0 0)) ∧
    OwX wr (w.heap.size + 1) fo fs p.s p.o k ∧ Below (w.heap.size + 1) w2 wr) (fun i _ => R - (intOf i).toNat)
  case atStart => exact ⟨0, _, _, by omega, rfl, HM.out, fun i hi => absurd hi (by omega), Below.refl _ _⟩
  case round =>
    obtain ⟨k, fo, fs, hk, rfl, hown, hX, hbel⟩ := hrel
    have hsz : w.heap.size + 1 < wr.heap.size := by have := hbel.size; omega
    have OWN := Lib.hid hown
    have OWX := Lib.hid hX
    by_cases hlt : k < R
    · have iqk : (k : Int) < (R : Int) := by omega
      have hbw := HB2.out.trans (hbel.mono (show w.heap.size ≤ w.heap.size + 1 by omega))
      have FS := Lib.hid (show ∀ x, Below wr.heap.size wr x → x.cell? ⟨w.heap.size, 0, none⟩ = some (.int .i64 N) ∧ x.cell? ⟨w.heap.size, 1, none⟩ = some (.slice A1 p.s.length c1) ∧ x.cell? ⟨w.heap.size, 2, none⟩ = some (.slice A2 p.o.length c2) ∧ x.cell? ⟨w.heap.size, 3, none⟩ = some (.slice A R c) from fun x hx =>
        ⟨((hx.cell (p := ⟨w.heap.size, 0, none⟩) (by simp only []; omega)).trans (hbel.cell (p := ⟨w.heap.size, 0, none⟩) (by simp))).trans y0, ((hx.cell (p := ⟨w.heap.size, 1, none⟩) (by simp only []; omega)).trans (hbel.cell (p := ⟨w.heap.size, 1, none⟩) (by simp))).trans y1,
        ((hx.cell (p := ⟨w.heap.size, 2, none⟩) (by simp only []; omega)).trans (hbel.cell (p := ⟨w.heap.size, 2, none⟩) (by simp))).trans y2, ((hx.cell (p := ⟨w.heap.size, 3, none⟩) (by simp only []; omega)).trans (hbel.cell (p := ⟨w.heap.size, 3, none⟩) (by simp))).trans y3⟩)
      have US := Lib.hid (show ∀ W, Below wr.heap.size wr W → _ from fun W hW => usesOf_any B N R A1 A2 A c1 c2 c p (k : Int) W hs40 ho6 (by have := hW.size; omega) ((H.out.below' hbw hB).below' hW (by omega)))
      have BEL := Lib.hid hbel
      clear hown hX hbel hbw
      obtain ⟨v0, v1, v2, v3⟩ := FS.out wr (Below.refl _ _)
      go_wp2_with fail
      go_at_call 108
      refine (US.out wr (Below.refl _ _)).mono ?_
      rintro e w5 ⟨O, co, S, cs, rfl, hO5, hS5, hb5⟩
      have hown5 := own_below OWN.out hb5
      have hX5 := OWX.out.below hb5
      have hl := UU_len fo fs p.s p.o k
      have d0 : w5.cell? ⟨w1.heap.size, k * 2, none⟩ = some (.slice none 0 0) := by
        rw [hown5.cellAt _ (by omega), List.getElem?_append_right (by omega), List.getElem?_replicate, if_pos (by omega)]
      have d1 : w5.cell? ⟨w1.heap.size, k * 2 + 1, none⟩ = some (.slice none 0 0) := by
        rw [hown5.cellAt _ (by omega), List.getElem?_append_right (by omega), List.getElem?_replicate, if_pos (by omega)]
      have f0 : w5.frozen? ⟨w1.heap.size, k * 2, none⟩ = false := hown5.frozenAt _
      have f1 : w5.frozen? ⟨w1.heap.size, k * 2 + 1, none⟩ = false := hown5.frozenAt _
      have OWN5 := Lib.hid hown5
      have OWX5 := Lib.hid hX5
      have HO5 := Lib.hid hO5
      have HS5 := Lib.hid hS5
      have BEL5 := Lib.hid (BEL.out.trans (hb5.mono (show w.heap.size + 1 ≤ wr.heap.size by omega)))
      clear hown5 hX5 hO5 hS5 hb5 hl v0 v1 v2 v3
      go_wp2
      go_roundw
      case rel =>
        refine ⟨k + 1, updU fo k (O, co), updU fs k (S, cs), by omega, by go_num, ?_, ?_, (BEL5.out.setCell hg _).setCell hg _⟩
        · have h := ((OWN5.out.stored (k * 2) (.slice O (usO p.o (k : Int) p.o.length).length co)).1.stored (k * 2 + 1) (.slice S (usS p.s (k : Int) p.s.length).length cs)).1
          rw [fill2 _ _ _ _ (UU_len fo fs p.s p.o k) hlt] at h
          rw [UU_upd]
          exact h
        · obtain ⟨ws, hws⟩ := own_heap OWN5.out
          have h2 := (OWN5.out.stored (k * 2) (.slice O (usO p.o (k : Int) p.o.length).length co)).1
          obtain ⟨ws2, hws2⟩ := own_heap h2
          refine OwX.upd ((OWX5.out.set hws (by decide) _).set hws2 (by decide) _) ?_ ?_
          · exact own_base (own_set (own_set (h := HO5.out) hws (by decide) _) hws2 (by decide) _) (by omega)
          · exact own_base (own_set (own_set (h := HS5.out) hws (by decide) _) hws2 (by decide) _) (by omega)
      case measure => simp [intOf]; omega
    · have hk' : k = R := by omega
      subst hk'
      have HB3 := Lib.hid (HB2.out.trans (hbel.mono (show w.heap.size ≤ w.heap.size + 1 by omega)))
      clear hown hX hbel
      go_wp2
      go_ret
      refine ⟨_, _, rfl, ⟨fo, fs, ?_, OWX.out.base (by omega)⟩, HB3.out⟩
      have h := own_base OWN.out (show w.heap.size ≤ w.heap.size + 1 by omega)
      simpa using h
end Go.Proofs.Ytlkieebmfmiafaa
