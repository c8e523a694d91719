/- Adders of a number: as data; of the program. -/
import Derived.Test.YtbohakifjmdoiaaN9c
import Derived.Test.YtbohakifjmdoiaaN9i
import Derived.Test.YtbohakifjmdoiaaQl
namespace Go.Proofs.Ytbohakifjmdoiaa
open Go.RowKit Go.Shelf

attribute [local go_sem] Oper.semAt_some

def adS (top : Int) (acc : List Ad) (x : Nat × Int) : List Ad := if x.2 = 0 then acc else acc ++ [((acc.length : Int), if acc.length = 0 then top else 0, 0, (x.1 : Int), decide (x.2 < 0))]
def adF (top : Int) (p : List (Nat × Int)) : List Ad := p.foldl (adS top) []
theorem adF_snoc (top : Int) (p : List (Nat × Int)) (x : Nat × Int) : adF top (p ++ [x]) = adS top (adF top p) x := by simp [adF]
theorem adF_len (top : Int) (p : List (Nat × Int)) : (adF top p).length ≤ p.length := by
  suffices h : ∀ (p : List (Nat × Int)) (acc : List Ad), (p.foldl (adS top) acc).length ≤ acc.length + p.length by
    have := h p []
    simpa [adF] using this
  intro p
  induction p with
  | nil => intro acc; exact Nat.le_refl _
  | cons x p ih =>
    intro acc
    have h1 := ih (adS top acc x)
    have h2 : (adS top acc x).length ≤ acc.length + 1 := by
      unfold adS
      split <;> simp
    simp only [List.foldl_cons, List.length_cons]
    omega
/-- The adders for digits without the last one. -/
def mkQ (q : List Int) : List Ad :=
  if adF q.length (bwZ q q.length) = [] ∧ 0 < q.length then [(0, (q.length : Int) - 1, 0, (q.length : Int) - 1, false)] else adF q.length (bwZ q q.length)
def mkA (n : Int) : List Ad := mkQ (wnD 4 n).dropLast
theorem mkQ_len (q : List Int) : (mkQ q).length ≤ q.length + 1 := by
  unfold mkQ
  split
  · simp
  · have := adF_len q.length (bwZ q q.length)
    have : (bwZ q q.length).length = q.length := bwd_length _ _ _
    omega
theorem wnD_split {n : Int} (h : 1 ≤ n) : ∃ q d, wnD 4 n = q ++ [d] ∧ d ≠ 0 ∧ mkA n = mkQ q := by
  obtain ⟨q, d, e, hd⟩ := wnD_last (T := 4) (.inl rfl) n.natAbs n (Nat.le_refl _) (by omega)
  refine ⟨q, d, e, hd, ?_⟩
  unfold mkA
  rw [e, List.dropLast_concat]
theorem rd_take9 {w : World} {B n k : Nat} {A : Option Addr} {xs : List Value} (h : Rd w B 1 A n xs) (hk : k ≤ n) : Rd w B 1 A k (xs.take k) := by
  have hl := h.1
  refine ⟨by simp; omega, fun hn => ?_⟩
  obtain ⟨b, off, e, hb, hc⟩ := h.2 (by omega)
  refine ⟨b, off, e, hb, fun j hj => ?_⟩
  rw [hc j (by omega), List.getElem?_take, if_pos (by omega)]

theorem own_set_low {w : World} {B sz n g k : Nat} {e : TypeId} {v : Value} {xs : List Value} (h : w.ownsRow B e sz v n xs) (hg : g < B) (u : Value) : (w.setCell ⟨g, k, none⟩ u).ownsRow B e sz v n xs := by
  refine ⟨h.1, ?_⟩
  rcases h.2 with h0 | ⟨g', cap, cur, hv, hb, hg', r⟩
  · exact .inl h0
  · refine .inr ⟨g', cap, cur, hv, hb, ?_, r⟩
    rw [Below.heap_setCell _ _ _ _ (fun hh => by simp only at hh; omega)]
    exact hg'
theorem own_low_ne {w : World} {B sz n g : Nat} {e : TypeId} {v : Value} {xs : List Value} (h : w.ownsRow B e sz v n xs) (hg : g < B) : some g ≠ v.ownBlock := by
  intro hh
  have := (own_block h g hh.symm).1
  omega
theorem bel_set59 {w0 w : World} {B g : Nat} (h : Below B w0 w) (hg : B ≤ g) (p q r s u : Value) : Below B w0 (((((w.setCell ⟨g, 0, none⟩ p).setCell ⟨g, 1, none⟩ q).setCell ⟨g, 2, none⟩ r).setCell ⟨g, 3, none⟩ s).setCell ⟨g, 4, none⟩ u) :=
  ((((h.setCell hg _).setCell hg _).setCell hg _).setCell hg _).setCell hg _
theorem info_ad99 : (Try.prog.info? 39).map (fun i => (i.zero, i.size, i.bytes)) = some (some (.agg #[I 0, I 0, I 0, I 0, .bool false]), 5, 40) := by kernel_rfl
theorem cell_five_at (w : World) (a b c d e : Value) (t : TypeId) : ∀ j u, [a, b, c, d, e][j]? = some u → (w.alloc (.cells #[a, b, c, d, e] t)).cell? ((⟨w.heap.size, 0, none⟩ : Addr).add j) = some u := by
  have hb := heap_alloc_new w (.cells #[a, b, c, d, e] t)
  intro j u hj
  match j, hj with
  | 0, hj => simp at hj; subst hj; rw [show ((⟨w.heap.size, 0, none⟩ : Addr).add 0) = ⟨w.heap.size, 0, none⟩ from rfl, cell_of_row _ _ 0 _ _ (0, 0) hb]; rfl
  | 1, hj => simp at hj; subst hj; rw [show ((⟨w.heap.size, 0, none⟩ : Addr).add 1) = ⟨w.heap.size, 1, none⟩ from rfl, cell_of_row _ _ 1 _ _ (0, 0) hb]; rfl
  | 2, hj => simp at hj; subst hj; rw [show ((⟨w.heap.size, 0, none⟩ : Addr).add 2) = ⟨w.heap.size, 2, none⟩ from rfl, cell_of_row _ _ 2 _ _ (0, 0) hb]; rfl
  | 3, hj => simp at hj; subst hj; rw [show ((⟨w.heap.size, 0, none⟩ : Addr).add 3) = ⟨w.heap.size, 3, none⟩ from rfl, cell_of_row _ _ 3 _ _ (0, 0) hb]; rfl
  | 4, hj => simp at hj; subst hj; rw [show ((⟨w.heap.size, 0, none⟩ : Addr).add 4) = ⟨w.heap.size, 4, none⟩ from rfl, cell_of_row _ _ 4 _ _ (0, 0) hb]; rfl
theorem ad_cells9 {w : World} {g : Nat} {a b c d e : Value} {t : TypeId} (h : w.heap[g]? = some (.cells #[a, b, c, d, e] t (0, 0))) :
    w.cell? ⟨g, 0, none⟩ = some a ∧ w.cell? ⟨g, 1, none⟩ = some b ∧ w.cell? ⟨g, 2, none⟩ = some c ∧ w.cell? ⟨g, 3, none⟩ = some d ∧ w.cell? ⟨g, 4, none⟩ = some e ∧ w.frozen? ⟨g, 0, none⟩ = false ∧ w.frozen? ⟨g, 1, none⟩ = false ∧ w.frozen? ⟨g, 2, none⟩ = false ∧ w.frozen? ⟨g, 3, none⟩ = false ∧ w.frozen? ⟨g, 4, none⟩ = false := by
  refine ⟨?_, ?_, ?_, ?_, ?_, frozen_of_row w g 0 _ _ h, frozen_of_row w g 1 _ _ h, frozen_of_row w g 2 _ _ h, frozen_of_row w g 3 _ _ h, frozen_of_row w g 4 _ _ h⟩
  · rw [cell_of_row w g 0 _ _ (0, 0) h]; rfl
  · rw [cell_of_row w g 1 _ _ (0, 0) h]; rfl
  · rw [cell_of_row w g 2 _ _ (0, 0) h]; rfl
  · rw [cell_of_row w g 3 _ _ (0, 0) h]; rfl
  · rw [cell_of_row w g 4 _ _ (0, 0) h]; rfl
theorem set34 {w : World} {g : Nat} {a b c d e : Value} {t : TypeId} (h : w.heap[g]? = some (.cells #[a, b, c, d, e] t (0, 0))) (s u : Value) :
    ((w.setCell ⟨g, 3, none⟩ s).setCell ⟨g, 4, none⟩ u).heap[g]? = some (.cells #[a, b, c, s, u] t (0, 0)) := by
  have h4 := heap_setCell_same w g 3 _ t s h
  have h5 := heap_setCell_same _ g 4 _ t u h4
  rw [h5]; rfl
theorem set01234 {w : World} {g : Nat} {a b c d e : Value} {t : TypeId} (h : w.heap[g]? = some (.cells #[a, b, c, d, e] t (0, 0))) (p q r s u : Value) :
    (((((w.setCell ⟨g, 0, none⟩ p).setCell ⟨g, 1, none⟩ q).setCell ⟨g, 2, none⟩ r).setCell ⟨g, 3, none⟩ s).setCell ⟨g, 4, none⟩ u).heap[g]? = some (.cells #[p, q, r, s, u] t (0, 0)) := by
  have h1 := heap_setCell_same w g 0 _ t p h
  have h2 := heap_setCell_same _ g 1 _ t q h1
  have h3 := heap_setCell_same _ g 2 _ t r h2
  have h4 := heap_setCell_same _ g 3 _ t s h3
  have h5 := heap_setCell_same _ g 4 _ t u h4
  rw [h5]; rfl
theorem row_form9 {w : World} {B k n : Nat} {e : TypeId} {v : Value} {xs : List Value} (h : w.ownsRow B e k v n xs) : ∃ A c, v = .slice A n c := by
  rcases h.2 with ⟨rfl, h0⟩ | ⟨g, cap, cur, rfl, _⟩
  · exact ⟨none, 0, by rw [h0]⟩
  · exact ⟨some _, cap, rfl⟩

set_option maxRecDepth 100000 in
set_option maxHeartbeats 8000000 in
theorem addersFor_any (n : Int) (w : World) (hn1 : 1 ≤ n) (hn : n ≤ 1000000) :
    Calls Try.prog 81 #[.int .i64 n] w fun e w' =>
      ∃ A c, e = .returned (.slice A (mkA n).length c) ∧ OwA w' w.heap.size A c (mkA n) ∧ Below w.heap.size w w' := by
  have hD := fun W => windowDigits_any n 2 4 W (.inl ⟨rfl, rfl⟩) (by omega) hn
  have hDl := wnD_len28 (T := 4) (n := n) (.inl rfl) (by omega)
  obtain ⟨q, dl, eq, _, em⟩ := wnD_split hn1
  obtain ⟨T, hT⟩ : ∃ T, q.length = T := ⟨_, rfl⟩
  have hDT : (q ++ [dl]).length = T + 1 := by rw [List.length_append, hT]; rfl
  have EM := Lib.hid (show mkA n = mkQ q from em)
  rw [eq] at hD hDl
  rw [hDT] at hD hDl
  have HD := Lib.hid hD
  have QT := Lib.hid hT
  have QL := Lib.hid hDT
  have hT28 : T ≤ 27 := by omega
  clear hD eq hT hDT em hDl hn1 hn
  obtain ⟨i0, hi, hz0, hz1, hz2⟩ := info_parts info_ad99
  have HI := Lib.hid hi
  have HI0 := Lib.hid hz0
  have HI1 := Lib.hid hz1
  have HI2 := Lib.hid hz2
  clear hi hz0 hz1 hz2
  refine (callsIn_wide (n := 3)).1 ?_
  refine callsIn_of_wp_marks Try.func81 rfl trivial ?_ rfl
  simp only [Try.ntmps81, List.size_toArray, List.length_cons, List.length_nil, Nat.reduceAdd, Nat.reduceSub, Array.replicate_succ, Array.replicate_zero, List.push_toArray, List.append_toArray, List.nil_append, List.cons_append]
  gi_wp2_with fail
  refine ⟨trivial, ?_⟩
  gi_at_call 54
  refine (callsIn_wide.2 (HD.out w)).mono ?_
  rintro e w2 ⟨A, c, rfl, ho2, hb2⟩
  have hcap : T + 1 ≤ c := by have := ho2.cap; rw [QL.out] at this; exact this
  have hrd2 : Rd w2 w2.heap.size 1 A (T + 1) ((q ++ [dl]).map I) := by have h := ho2; unfold OwI at h; rw [QL.out] at h; exact Rd.of_own h
  have HRQ := Lib.hid (show Rd w2 w2.heap.size 1 A q.length (q.map I) by
    have h := rd_take9 hrd2 (show T ≤ T + 1 by omega)
    rw [QT.out]
    have e : ((q ++ [dl]).map I).take T = q.map I := by rw [← QT.out, List.map_append, List.take_left' (by simp)]
    rwa [e] at h)
  have XB := Lib.hid hb2
  have hs2 := hb2.size
  have ET : ((T : Int) + 1) - 1 = (T : Int) := by omega
  have ic : (T : Int) ≤ (c : Int) := by omega
  have ic1 : (T : Int) ≤ (T : Int) + 1 := by omega
  clear ho2 hb2 hrd2
  gi_wp2_with fail
  refine ⟨trivial, ?_⟩
  gi_at_call 68
  refine (backward_in Fence.wide _ trivial rfl _ _ _ _).mono ?_
  rintro e w' ⟨rfl, hww⟩
  subst hww
  gi_wp2_with fail
  obtain ⟨w3, hw3⟩ : ∃ w3, ((w2.alloc (.cells #[.slice none 0 0] 46)).alloc (.cells #[.int .i64 0, .int .i64 (T : Int), .int .i64 0, .int .i64 0, .bool false] 39)).alloc (.cells #[.slice A T c] 22) = w3 := ⟨_, rfl⟩
  rw [hw3]
  have hb3 : Below w2.heap.size w2 w3 := by subst hw3; exact (((Below.refl _ _).alloc (Nat.le_refl _) _).alloc (by simp) _).alloc (by simp; omega) _
  have z5 : Boxed w3 w2.heap.size 46 (.slice none 0 0) := by subst hw3; exact ((Boxed.new w2 _ _).alloc _).alloc _
  have z6 : w3.heap[w2.heap.size + 1]? = some (.cells #[.int .i64 0, .int .i64 (T : Int), .int .i64 0, .int .i64 0, .bool false] 39 (0, 0)) := by
    subst hw3
    rw [Below.heap_alloc _ _ _ (by simp)]
    have := heap_alloc_new (w2.alloc (.cells #[.slice none 0 0] 46)) (.cells #[.int .i64 0, .int .i64 (T : Int), .int .i64 0, .int .i64 0, .bool false] 39)
    simpa using this
  have z7 : w3.heap[w2.heap.size + 1 + 1]? = some (.cells #[.slice A T c] 22 (0, 0)) := by
    subst hw3
    have := heap_alloc_new ((w2.alloc (.cells #[.slice none 0 0] 46)).alloc (.cells #[.int .i64 0, .int .i64 (T : Int), .int .i64 0, .int .i64 0, .bool false] 39)) (.cells #[.slice A T c] 22)
    simpa using this
  have s3 : w3.heap.size = w2.heap.size + 3 := by subst hw3; simp
  have HB3 := Lib.hid hb3
  have HR := Lib.hid (show ∀ W', Below w2.heap.size w3 W' → Rd W' w2.heap.size 1 A q.length (q.map I) from fun W' h => HRQ.out.below' (hb3.trans h) (Nat.le_refl _))
  have Z6 := Lib.hid z6
  have z7' : w3.heap[w2.heap.size + 1 + 1]? = some (.cells #[.slice A q.length c] 22 (0, 0)) := by rw [QT.out]; exact z7
  clear hw3 hb3 z6
  refine wpIn_rangeFunc_ownG (w0 := w3) rfl (by omega) (gf := 87) (lb := #[.pointer (some ⟨w2.heap.size + 1 + 1, 0, none⟩)]) rfl trivial (enters_of Try.func87 (by kernel_rfl) rfl)
    (backward_stops Fence.wide _ trivial rfl (by omega) (w2.heap.size + 1 + 1) w2.heap.size A c q (by rw [QT.out]; omega) w3 (by omega) z7' HR.out) kpB_t (kpB_b (by omega) (by omega)) (Below.refl _ _) (fun _ => rfl)
    (fun pre W => (∃ v, Boxed W w2.heap.size 46 v ∧ W.ownsRow (w2.heap.size + 3) 39 5 v (adF T pre).length (fl5 (adF T pre)) ∧ True) ∧
      ((∃ k s, ((adF T pre).length = k ∧ s = (if k = 0 then (T : Int) else 0)) ∧ W.heap[w2.heap.size + 1]? = some (.cells #[.int .i64 (k : Int), .int .i64 s, .int .i64 0, .int .i64 0, .bool false] 39 (0, 0))) ∧
      (Boxed W (w2.heap.size + 1 + 1) 22 (.slice A T c) ∧ Below w2.heap.size w2 W)))
    (fun _ _ _ => False)
    (OwnFrom.and (Own.from (holdsRow_own (w2.heap.size + 3) w2.heap.size 46 39 5 (fun pre => (adF T pre).length) (fun pre => fl5 (adF T pre)) (fun _ _ => True)) _)
      (OwnFrom.and (Own.from (fun s A B row hs hg hr => by obtain ⟨k, sA, e1, e2⟩ := hs; exact ⟨k, sA, e1, blk_own e2 hg hr⟩) _)
      (OwnFrom.and (Own.from (fun s A B row hs hg hr => blk_own hs hg hr) _) (ownFrom_below (Nat.le_refl _) (by omega)))))
    (fun _ _ _ _ _ hs _ _ => hs)
    ⟨⟨_, z5, World.ownsRow_nil _ _ _ _, trivial⟩, ⟨0, T, ⟨rfl, rfl⟩, Z6.out⟩, z7, HB3.out⟩
    (fun x => { tmps := #[.int .i64 n, undef, .slice none 0 0, .slice A (T + 1) c, .int .i64 (T : Int), .pointer (some ⟨w2.heap.size, 0, none⟩), .pointer (some ⟨w2.heap.size + 1, 0, none⟩), .int .i64 (x.1 : Int), .int .i64 x.2, .int .i64 n, .slice A (T + 1) c, .slice A (T + 1) c, .int .i64 ((T : Int) + 1), .int .i64 (T : Int), .int .i64 (T : Int), .agg #[.int .i64 0, .int .i64 (T : Int), .int .i64 0, .int .i64 0, .bool false], .slice A (T + 1) c, .int .i64 (T : Int), .slice A T c, .func (.func 87) #[] #[.pointer (some ⟨w2.heap.size + 1 + 1, 0, none⟩)], .int .i64 (x.1 : Int), .int .i64 x.2, undef, undef, undef, undef, undef, undef, undef, undef, undef, undef, undef, undef, undef, undef, undef, undef, undef, undef, undef, undef, undef, undef, undef, undef, undef, undef, undef, undef, undef, undef], defers := [] }) ?assign ?body ?done ?stop
  case assign =>
    intro l x W K hK
    gi_wp2
    exact hK
  case body =>
    rintro lr pre ⟨i, d⟩ W ⟨⟨v, hbx, hrow, _⟩, ⟨k, s, ⟨hk, hsk⟩, hblk⟩, hbs, hbel⟩ hlen
    rw [QT.out] at hlen
    have BS := Lib.hid hbs
    have hwl := adF_len T pre
    have EF := Lib.hid (adF_snoc T pre (i, d))
    have BEL := Lib.hid hbel
    have BX := Lib.hid hbx
    have BLK := Lib.hid hblk
    obtain ⟨z, hz⟩ : ∃ z, adF T pre = z := ⟨_, rfl⟩
    rw [hz] at hrow EF hwl hk
    have ROW := Lib.hid hrow
    have EK := Lib.hid hk
    have EL := Lib.hid (show z.length ≤ 28 by omega)
    have hs := hbel.size
    have hs3 : w2.heap.size + 3 ≤ W.heap.size := by
      have := (Array.getElem?_eq_some_iff.1 hbs).1
      omega
    have xb := hbx.cell
    obtain ⟨x0, x1, x2, x3, x4, f0, f1, f2, f3, f4⟩ := ad_cells9 hblk
    clear hbx hbel hrow hz hbs hblk
    dsimp only
    by_cases h0 : d = 0
    · have i0' : (d != 0) = false := by simpa using h0
      have EN := Lib.hid (show adF T (pre ++ [(i, d)]) = z by rw [EF.out]; unfold adS; rw [if_pos h0])
      clear h0
      gi_wp2
      exact ⟨(KeepsOthers.refl _).from _, KpB.refl _ _ _, ⟨_, BX.out, by rw [EN.out]; exact ROW.out, trivial⟩, ⟨k, s, ⟨by rw [EN.out]; exact EK.out, hsk⟩, BLK.out⟩, BS.out, BEL.out⟩
    · have i0' : (d != 0) = true := by simpa using h0
      have EN := Lib.hid (show adF T (pre ++ [(i, d)]) = z ++ [((k : Int), s, 0, (i : Int), decide (d < 0))] by rw [EF.out]; unfold adS; rw [if_neg h0, hsk]; simp only [hk])
      have HSK := Lib.hid hsk
      clear h0 hsk hk
      obtain ⟨m, hm⟩ : ∃ m, decide (d < 0) = m := ⟨_, rfl⟩
      rw [hm] at EN
      have BX1 := Lib.hid (show Boxed ((W.setCell ⟨w2.heap.size + 1, 3, none⟩ (.int .i64 (i : Int))).setCell ⟨w2.heap.size + 1, 4, none⟩ (.bool m)) w2.heap.size 46 v from (set_other (by omega)).trans ((set_other (by omega)).trans BX.out))
      have ROW1 := Lib.hid (own_set_low (k := 4) (own_set_low (k := 3) ROW.out (show w2.heap.size + 1 < w2.heap.size + 3 by omega) (.int .i64 (i : Int))) (show w2.heap.size + 1 < w2.heap.size + 3 by omega) (.bool m))
      have BLK1 := Lib.hid (set34 BLK.out (.int .i64 (i : Int)) (.bool m))
      have BS1 := Lib.hid (show Boxed ((W.setCell ⟨w2.heap.size + 1, 3, none⟩ (.int .i64 (i : Int))).setCell ⟨w2.heap.size + 1, 4, none⟩ (.bool m)) (w2.heap.size + 1 + 1) 22 (.slice A T c) from (set_other (by omega)).trans ((set_other (by omega)).trans BS.out))
      have hsz1 : ((W.setCell ⟨w2.heap.size + 1, 3, none⟩ (.int .i64 (i : Int))).setCell ⟨w2.heap.size + 1, 4, none⟩ (.bool m)).heap.size = W.heap.size := by simp
      have CF := Lib.hid (show ∀ j u, ([.int .i64 (k : Int), .int .i64 s, .int .i64 0, .int .i64 (i : Int), .bool m] : List Value)[j]? = some u → (((W.setCell ⟨w2.heap.size + 1, 3, none⟩ (.int .i64 (i : Int))).setCell ⟨w2.heap.size + 1, 4, none⟩ (.bool m)).alloc (.cells #[.int .i64 (k : Int), .int .i64 s, .int .i64 0, .int .i64 (i : Int), .bool m] 39)).cell? ((⟨W.heap.size, 0, none⟩ : Addr).add j) = some u by
        have h := cell_five_at ((W.setCell ⟨w2.heap.size + 1, 3, none⟩ (.int .i64 (i : Int))).setCell ⟨w2.heap.size + 1, 4, none⟩ (.bool m)) (.int .i64 (k : Int)) (.int .i64 s) (.int .i64 0) (.int .i64 (i : Int)) (.bool m) 39
        rw [hsz1] at h
        exact h)
      have HZ1 := Lib.hid hsz1
      have KW1 := Lib.hid (show KeepsOthers W ((W.setCell ⟨w2.heap.size + 1, 3, none⟩ (.int .i64 (i : Int))).setCell ⟨w2.heap.size + 1, 4, none⟩ (.bool m)) from (KeepsOthers.setCell _ _ _).trans (KeepsOthers.setCell _ _ _))
      have BW1 := Lib.hid (show Below w2.heap.size W ((W.setCell ⟨w2.heap.size + 1, 3, none⟩ (.int .i64 (i : Int))).setCell ⟨w2.heap.size + 1, 4, none⟩ (.bool m)) from ((Below.refl _ _).setCell (by simp) _).setCell (by simp) _)
      clear hsz1
      gi_wp2_with (gi_at_builtin; refine wpListIn_append_own _ rfl _ _ 46 rfl (w2.heap.size + 3) 39 i0 (.agg #[I 0, I 0, I 0, I 0, .bool false]) 5 40 Try.underlying46 HI.out HI0.out HI1.out HI2.out rfl (by decide) _ _ _ rfl (World.ownsRow.alloc ROW1.out _) ⟨W.heap.size, 0, none⟩ 1 1 [.int .i64 (k : Int), .int .i64 s, .int .i64 0, .int .i64 (i : Int), .bool m] rfl rfl CF.out (by simp [Value.oneCell']) (by unfold maxLen; have := EL.out; omega) (by have := EL.out; omega) (by simp; omega) ?_; intro v' w1 hown' hgrow _; obtain ⟨g', cap', rfl⟩ := ownsRow_succ hown'; obtain ⟨hv1, hv2, hr2, hk2, hb2⟩ := BX1.out.appended (by decide) (own_base ROW1.out (show w2.heap.size ≤ w2.heap.size + 3 by omega)) (by have := HZ1.out; omega) (Nat.le_refl _) (own_base hown' (show w2.heap.size ≤ w2.heap.size + 3 by omega)) hgrow; have hc1 := hv1.cell; have hf1 := hv1.frozen; have hbk := (hgrow.block _ (by simp; omega) (own_low_ne ROW1.out (by omega))).trans ((Below.heap_alloc _ _ _ (by simp; omega)).trans BLK1.out); obtain ⟨y0, y1, y2, y3, y4, g0, g1, g2, g3, g4⟩ := ad_cells9 hbk)
      have B61 : w1.heap[w2.heap.size + 1]? = some (.cells #[.int .i64 (k : Int), .int .i64 s, .int .i64 0, .int .i64 (i : Int), .bool m] 39 (0, 0)) := hbk
      have B65 := (set_other (u := .slice (some ⟨g', 0, none⟩) (z.length + 1) cap') (k := 0) (show w2.heap.size + 1 ≠ w2.heap.size by omega)).trans B61
      have B66 := set01234 B65 (.int .i64 ((z.length : Int) + 1)) (.int .i64 0) (.int .i64 0) (.int .i64 0) (.bool false)
      have R5 := own_set (o := 0) hown' hv1 (by decide) (.slice (some ⟨g', 0, none⟩) (z.length + 1) cap')
      have hlow : w2.heap.size + 1 < w2.heap.size + 3 := by omega
      have R6 := own_set_low (k := 4) (own_set_low (k := 3) (own_set_low (k := 2) (own_set_low (k := 1) (own_set_low (k := 0) R5 hlow (.int .i64 ((z.length : Int) + 1))) hlow (.int .i64 0)) hlow (.int .i64 0)) hlow (.int .i64 0)) hlow (.bool false)
      have hs1 : Boxed w1 (w2.heap.size + 1 + 1) 22 (.slice A T c) := (Boxed.alloc BS1.out _).kept hgrow (Boxed.not_row BS1.out (by decide) ROW1.out)
      have hne : w2.heap.size + 1 + 1 ≠ w2.heap.size + 1 := by omega
      have S5 := (set_other (u := .slice (some ⟨g', 0, none⟩) (z.length + 1) cap') (k := 0) (show w2.heap.size + 1 + 1 ≠ w2.heap.size by omega)).trans hs1
      have S6 := (set_other (u := .bool false) (k := 4) hne).trans ((set_other (u := .int .i64 0) (k := 3) hne).trans ((set_other (u := .int .i64 0) (k := 2) hne).trans ((set_other (u := .int .i64 0) (k := 1) hne).trans ((set_other (u := .int .i64 ((z.length : Int) + 1)) (k := 0) hne).trans S5))))
      have hne2 : w2.heap.size ≠ w2.heap.size + 1 := by omega
      have X6 := (set_other (u := .bool false) (k := 4) hne2).trans ((set_other (u := .int .i64 0) (k := 3) hne2).trans ((set_other (u := .int .i64 0) (k := 2) hne2).trans ((set_other (u := .int .i64 0) (k := 1) hne2).trans ((set_other (u := .int .i64 ((z.length : Int) + 1)) (k := 0) hne2).trans hv2))))
      have BB := (BW1.out.trans hb2)
      have hl6 : w2.heap.size ≤ w2.heap.size + 1 := by omega
      have BB6 := bel_set59 BB hl6 (.int .i64 ((z.length : Int) + 1)) (.int .i64 0) (.int .i64 0) (.int .i64 0) (.bool false)
      refine ⟨((KW1.out.trans hk2).trans (((((KeepsOthers.setCell _ _ _).trans (KeepsOthers.setCell _ _ _)).trans (KeepsOthers.setCell _ _ _)).trans (KeepsOthers.setCell _ _ _)).trans (KeepsOthers.setCell _ _ _))).from _, ⟨BB6, fun _ => Eq.trans S6 (Eq.symm BS.out)⟩, ⟨_, X6, ?_, trivial⟩, ⟨z.length + 1, 0, ⟨by rw [EN.out]; simp, by simp⟩, B66⟩, S6, BEL.out.trans BB6⟩
      rw [EN.out, fl5_snoc, List.length_append, List.length_singleton]
      exact R6
  case done =>
    rintro D' ys W hD' rfl ⟨⟨v, hbx, hrow, _⟩, _, _, hbel⟩ hK
    have hwl := adF_len T (bwZ q q.length)
    have hq : (bwZ q q.length).length = q.length := bwd_length _ _ _
    have EMQ := Lib.hid (show mkQ q = if adF T (bwZ q q.length) = [] ∧ 0 < T then [(0, (T : Int) - 1, 0, (T : Int) - 1, false)] else adF T (bwZ q q.length) by unfold mkQ; rw [QT.out])
    obtain ⟨z, hz⟩ : ∃ z, adF T (bwZ q q.length) = z := ⟨_, rfl⟩
    rw [hz] at hrow hwl EMQ
    rw [hq, QT.out] at hwl
    obtain ⟨A', c', rfl⟩ := row_form9 hrow
    have xb := hbx.cell
    have BX := Lib.hid hbx
    have BEL := Lib.hid hbel
    have ROW := Lib.hid hrow
    have hs := hbel.size
    have hf := hbx.frozen
    clear hbel hrow hbx hz hq
    by_cases hc : z.length = 0 ∧ 0 < T
    · obtain ⟨hz0, hT0⟩ := hc
      have hzn : z = [] := List.length_eq_zero_iff.1 hz0
      have E := Lib.hid (show mkA n = [(0, (T : Int) - 1, 0, (T : Int) - 1, false)] by rw [EM.out, EMQ.out, if_pos ⟨hzn, hT0⟩])
      subst hzn
      have hT1 : (0 : Int) < (T : Int) := by omega
      have ROW := Lib.hid (show W.ownsRow (w2.heap.size + 3) 39 5 (.slice A' 0 c') 0 [] from ROW.out)
      have xb : W.cell? ⟨w2.heap.size, 0, none⟩ = some (.slice A' 0 c') := xb
      have BX := Lib.hid (show Boxed W w2.heap.size 46 (.slice A' 0 c') from BX.out)
      have hsB : w2.heap.size + 3 ≤ W.heap.size := by
        have := (Array.getElem?_eq_some_iff.1 hK).1
        omega
      clear hz0 hwl
      gi_wp2_with (gi_at_builtin; refine wpListIn_append_own _ rfl _ _ 46 rfl (w2.heap.size + 3) 39 i0 (.agg #[I 0, I 0, I 0, I 0, .bool false]) 5 40 Try.underlying46 HI.out HI0.out HI1.out HI2.out rfl (by decide) _ _ _ rfl (World.ownsRow.alloc ROW.out _) ⟨W.heap.size, 0, none⟩ 1 1 [.int .i64 0, .int .i64 ((T : Int) - 1), .int .i64 0, .int .i64 ((T : Int) - 1), .bool false] rfl rfl (cell_five_at _ _ _ _ _ _ _) (by simp [Value.oneCell']) (by unfold maxLen; omega) (by omega) (by simp; omega) ?_; intro v' w1 hown' hgrow _; obtain ⟨g', cap', rfl⟩ := ownsRow_succ hown'; obtain ⟨hv1, hv2, hr2, hk2, hb2⟩ := BX.out.appended (by decide) (own_base ROW.out (show w2.heap.size ≤ w2.heap.size + 3 by omega)) (by omega) (Nat.le_refl _) (own_base hown' (show w2.heap.size ≤ w2.heap.size + 3 by omega)) hgrow; have hc1 := hv1.cell; have hf1 := hv1.frozen)
      have hK5 := hk2.2 D' _ hK rfl
      refine ⟨by simp, .inl ⟨_, _, rfl, run_takeDeferred hK5, ?_⟩⟩
      refine ⟨_, results_tmp rfl _ _ _, some ⟨g', 0, none⟩, cap', by rw [E.out]; rfl, ?_, XB.out.trans (((BEL.out.trans hb2).mono hs2).trans (belowK_b (w := w) (Nat.le_refl _) _ D' _ _ (by omega) hK5 rfl rfl))⟩
      rw [E.out]
      exact ownsRow_putObj (own_base hr2 hs2) _ hK5 rfl
    · have E := Lib.hid (show mkA n = z by
        rw [EM.out, EMQ.out, if_neg (fun h => hc ⟨by rw [h.1]; rfl, h.2⟩)])
      by_cases hz0 : z.length = 0
      · have hT0 : T = 0 := by omega
        have i0 : ((z.length : Int) == 0) = true := by simp [hz0]
        have iT : ¬ (0 : Int) < (T : Int) := by omega
        clear hc hz0
        gi_wp2
        refine ⟨by simp, .inl ⟨_, _, rfl, run_takeDeferred hK, ?_⟩⟩
        refine ⟨_, results_tmp rfl _ _ _, A', c', by rw [E.out]; rfl, ?_, XB.out.trans ((BEL.out.mono hs2).trans (belowK_b (w := w) (Nat.le_refl _) W D' _ _ (by omega) hK rfl rfl))⟩
        rw [E.out]
        exact ownsRow_putObj (own_base ROW.out (by omega)) _ hK rfl
      · have i0 : ((z.length : Int) == 0) = false := by simpa using (show ¬ z = [] by intro e; subst e; exact hz0 rfl)
        clear hc hz0
        gi_wp2
        refine ⟨by simp, .inl ⟨_, _, rfl, run_takeDeferred hK, ?_⟩⟩
        refine ⟨_, results_tmp rfl _ _ _, A', c', by rw [E.out]; rfl, ?_, XB.out.trans ((BEL.out.mono hs2).trans (belowK_b (w := w) (Nat.le_refl _) W D' _ _ (by omega) hK rfl rfl))⟩
        rw [E.out]
        exact ownsRow_putObj (own_base ROW.out (by omega)) _ hK rfl
  case stop =>
    rintro D' c' pre W _ _ h _
    exact h.elim
end Go.Proofs.Ytbohakifjmdoiaa
