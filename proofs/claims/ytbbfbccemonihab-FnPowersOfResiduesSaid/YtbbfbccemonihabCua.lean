/- The cursor of the drawers: a byte, a number, an element. -/
import Derived.Test.YtbbfbccemonihabSa
import Derived.Test.YtbbfbccemonihabMl
import Derived.Laws.Bits64b
namespace Go.Proofs.Ytbbfbccemonihab
open Go.RowKit

/-- A slice of bytes that reads. -/
def RB (w : World) (B : Nat) (A : Option Addr) (n : Nat) : Prop :=
  n ≤ 9223372036854775807 ∧ (0 < n → ∃ b off, A = some ⟨b, off, none⟩ ∧ b < B ∧ ∀ j, j < n → ∃ v : Nat, v ≤ 255 ∧ w.cell? ⟨b, off + j, none⟩ = some (.int .u8 (v : Int)))
theorem RB.keep {w w' : World} {B n : Nat} {A : Option Addr} (h : RB w B A n) (hk : ∀ p : Addr, p.block < B → w'.cell? p = w.cell? p) : RB w' B A n :=
  ⟨h.1, fun hn => by
    obtain ⟨b, off, e, hb, hc⟩ := h.2 hn
    exact ⟨b, off, e, hb, fun j hj => by
      obtain ⟨v, hv, h2⟩ := hc j hj
      exact ⟨v, hv, (hk _ hb).trans h2⟩⟩⟩
/-- The cursor in block g. -/
def Cu (w : World) (B g K : Nat) : Prop := ∃ (A : Option Addr) (n c a : Nat) (s : Int), w.heap[g]? = some (.cells #[.slice A n c, .int .i64 (a : Int), .int .u64 s] 113 (0, 0)) ∧ a ≤ K ∧ B ≤ g ∧ RB w B A n
theorem Cu.more {w : World} {B g K K' : Nat} (h : Cu w B g K) (hK : K ≤ K') : Cu w B g K' := by
  obtain ⟨A, n, c, a, s, h1, h2, h3, h4⟩ := h
  exact ⟨A, n, c, a, s, h1, by omega, h3, h4⟩
theorem Cu.lt {w : World} {B g K : Nat} (h : Cu w B g K) : g < w.heap.size := by
  obtain ⟨A, n, c, a, s, h1, _⟩ := h
  exact (Array.getElem?_eq_some_iff.1 h1).1
theorem Cu.below {w w' : World} {B g K : Nat} (h : Cu w B g K) (hb : Below w.heap.size w w') : Cu w' B g K := by
  have hl := h.lt
  obtain ⟨A, n, c, a, s, h1, h2, h3, h4⟩ := h
  exact ⟨A, n, c, a, s, (hb.block g hl).trans h1, h2, h3, h4.keep fun p hp => hb.cell (by omega)⟩
theorem Cu.alloc {w : World} {B g K : Nat} (h : Cu w B g K) (o : Obj) : Cu (w.alloc o) B g K := h.below ((Below.refl _ _).alloc (Nat.le_refl _) _)
theorem grown_trans {a b c : World} {g : Nat} (h : a.grownBy b (some g)) (h' : b.grownBy c (some g)) : a.grownBy c (some g) :=
  ⟨h'.os.trans h.os, h'.tape.trans h.tape, h'.output.trans h.output, Nat.le_trans h.size h'.size, fun i hi hne => (h'.block i (Nat.lt_of_lt_of_le hi h.size) hne).trans (h.block i hi hne)⟩
theorem grown_refl (a : World) (r : Option Nat) : a.grownBy a r := World.grownBy.refl _ _
theorem grown_below {a b : World} (r : Option Nat) (h : Below a.heap.size a b) : a.grownBy b r := ⟨h.os, h.tape, h.output, h.size, fun i hi _ => h.block i hi⟩
theorem grown_drew (a : World) (r : Option Nat) : a.grownBy a.drew r := grown_below r (Below.refl _ _).drew
theorem below_grown {B g : Nat} {w a b : World} (h : Below B w a) (hg : a.grownBy b (some g)) (hB : B ≤ g) (hs : B ≤ a.heap.size) : Below B w b := h.grown hg hs (fun k hk => by injection hk with hk; omega)
theorem cells3c {w : World} {g : Nat} {a b c : Value} {t : TypeId} (h : w.heap[g]? = some (.cells #[a, b, c] t (0, 0))) :
    w.cell? ⟨g, 0, none⟩ = some a ∧ w.cell? ⟨g, 1, none⟩ = some b ∧ w.cell? ⟨g, 2, none⟩ = some c ∧ w.frozen? ⟨g, 0, none⟩ = false ∧ w.frozen? ⟨g, 1, none⟩ = false ∧ w.frozen? ⟨g, 2, none⟩ = false := by
  refine ⟨?_, ?_, ?_, frozen_of_row w _ 0 _ _ h, frozen_of_row w _ 1 _ _ h, frozen_of_row w _ 2 _ _ h⟩
  · rw [cell_of_row w _ 0 _ _ (0, 0) h]; rfl
  · rw [cell_of_row w _ 1 _ _ (0, 0) h]; rfl
  · rw [cell_of_row w _ 2 _ _ (0, 0) h]; rfl

theorem low_byte (X : Int) : ∃ v : Nat, wrap64 (bits BinOp.and IntKind.u64 (IntKind.u64.wrap X / 1099511627776) 255) = (v : Int) ∧ v ≤ 255 := by
  rw [IntKind.wrap_u64]
  obtain ⟨Y, hY, hl⟩ : ∃ Y : Nat, X % 18446744073709551616 / 1099511627776 = (Y : Int) ∧ Y < 16777216 := ⟨(X % 18446744073709551616 / 1099511627776).toNat, by omega, by omega⟩
  rw [hY]
  have h := bits_and_u64_nat Y 255 (by omega) (by omega)
  rw [show ((255 : Nat) : Int) = 255 from rfl] at h
  rw [h]
  have h2 : Y &&& 255 ≤ 255 := Nat.and_le_right
  obtain ⟨Z, hZ⟩ : ∃ Z, Y &&& 255 = Z := ⟨_, rfl⟩
  rw [hZ] at h2
  rw [hZ]
  exact ⟨Z, by unfold wrap64; omega, h2⟩
theorem cu_set {w : World} {g : Nat} {x y z y' z' : Value} {t : TypeId} (h : w.heap[g]? = some (.cells #[x, y, z] t (0, 0))) : ((w.setCell ⟨g, 1, none⟩ y').setCell ⟨g, 2, none⟩ z').heap[g]? = some (.cells #[x, y', z'] t (0, 0)) := by
  have h1 := heap_setCell_same w g 1 _ t y' h
  have h2 := heap_setCell_same _ g 2 _ t z' h1
  rw [h2]
  rfl
theorem cu_next {w : World} {B g K n c a : Nat} {A : Option Addr} {s s' : Int} {y : Int} (h : w.heap[g]? = some (.cells #[.slice A n c, .int .i64 (a : Int), .int .u64 s] 113 (0, 0))) (hr : RB w B A n) (hB : B ≤ g) (ha : a ≤ K) (hy : y = (a : Int) + 1) :
    Cu ((w.setCell ⟨g, 1, none⟩ (.int .i64 y)).setCell ⟨g, 2, none⟩ (.int .u64 s')) B g (K + 1) ∧ w.grownBy ((w.setCell ⟨g, 1, none⟩ (.int .i64 y)).setCell ⟨g, 2, none⟩ (.int .u64 s')) (some g) := by
  have hg : w.grownBy ((w.setCell ⟨g, 1, none⟩ (.int .i64 y)).setCell ⟨g, 2, none⟩ (.int .u64 s')) (some g) := grown_set (grown_set (grown_refl _ _) _) _
  have hl : g < w.heap.size := (Array.getElem?_eq_some_iff.1 h).1
  refine ⟨⟨A, n, c, a + 1, s', ?_, by omega, hB, hr.keep fun p hp => World.cell?_of_block (hg.block p.block (by omega) (fun e => by injection e with e; omega))⟩, hg⟩
  rw [cu_set h, hy]
  push_cast
  rfl

set_option maxRecDepth 100000 in
set_option maxHeartbeats 4000000 in
theorem curNext_any (B g K : Nat) (w : World) (hK : K ≤ 1000000) (h : Cu w B g K) :
    Calls Try.prog 177 #[.pointer (some ⟨g, 0, none⟩)] w fun e w' => ∃ v : Nat, e = .returned (.int .i64 (v : Int)) ∧ v ≤ 255 ∧ Cu w' B g (K + 1) ∧ w.grownBy w' (some g) := by
  obtain ⟨A, n, c, a, s, h1, h2, h3, h4⟩ := h
  have H1 := Lib.hid h1
  have H4 := Lib.hid h4
  have hn := h4.1
  obtain ⟨c0, c1, c2, f0, f1, f2⟩ := cells3c h1
  have ew : wrap64 ((a : Int) + 1) = (a : Int) + 1 := by unfold wrap64; omega
  clear h1 h4
  by_cases han : a < n
  · obtain ⟨b, off, rfl, hb, hc⟩ := H4.out.2 (by omega)
    obtain ⟨v, hv, hcv⟩ := hc a han
    have ian : (a : Int) < (n : Int) := by omega
    have ian2 : (a : Int) + 1 ≤ (n : Int) := by omega
    have wv : IntKind.i64.wrap (v : Int) = (v : Int) := IntWalk.i64_in _ (by omega)
    clear hc
    go_enter Try.func177, Try.ntmps177
    go_wp2
    refine wp_region_Tw [0, 1, 2, 3, 4, 5, 6, 7, 8, 9] [3, 7] (.lp 0 (.lp 1 (.lp 2 (.lp 4 (.lp 5 (.lp 6 (.ls 3 (.ls 7 (.lp 8 (.lp 9 (.done))))))))))) (by kernel_rfl) (by kernel_rfl) ?_
    (repeat (first | (refine T_lp rfl (fun K hK => ?_); go_simp; refine hK _ ?_; clear hK K) | (refine T_ls rfl rfl (fun K hK => ?_); go_simp; refine hK _ ?_; clear hK K)))
    refine T_done ?_
    go_wp2
    refine wp_region_Tw [0, 1, 2, 3, 4, 5, 6, 7, 8, 9, 10, 11] [3, 7, 9] (.lp 0 (.lp 1 (.lp 2 (.lp 4 (.lp 5 (.lp 6 (.ls 3 (.ls 7 (.lp 8 (.ls 9 (.lp 10 (.lp 11 (.done))))))))))))) (by kernel_rfl) (by kernel_rfl) ?_
    (repeat (first | (refine T_lp rfl (fun K hK => ?_); go_simp; refine hK _ ?_; clear hK K) | (refine T_ls rfl rfl (fun K hK => ?_); go_simp; refine hK _ ?_; clear hK K)))
    refine T_done ?_
    go_wp2
    refine wp_region_Tw [0, 1, 2, 3, 4, 5, 6, 7, 8, 9] [3, 7] (.lp 0 (.lp 1 (.lp 2 (.lp 4 (.lp 5 (.lp 6 (.ls 3 (.ls 7 (.lp 8 (.lp 9 (.done))))))))))) (by kernel_rfl) (by kernel_rfl) ?_
    (repeat (first | (refine T_lp rfl (fun K hK => ?_); go_simp; refine hK _ ?_; clear hK K) | (refine T_ls rfl rfl (fun K hK => ?_); go_simp; refine hK _ ?_; clear hK K)))
    refine T_done ?_
    go_wp2
    go_ret
    exact ⟨v, rfl, hv, (cu_next (K := K) H1.out H4.out h3 h2 rfl).1, grown_trans (cu_next (K := K) H1.out H4.out h3 h2 rfl).2 (grown_below _ ((((Below.refl _ _).drew).drew).drew))⟩
  · have ian : ¬ (a : Int) < (n : Int) := by omega
    have ian2 : ¬ (a : Int) + 1 ≤ (n : Int) := by omega
    go_enter Try.func177, Try.ntmps177
    go_wp2
    refine wp_region_Tw [0, 1, 2, 3, 4, 5, 6, 7, 8, 9] [3, 7] (.lp 0 (.lp 1 (.lp 2 (.lp 4 (.lp 5 (.lp 6 (.ls 3 (.ls 7 (.lp 8 (.lp 9 (.done))))))))))) (by kernel_rfl) (by kernel_rfl) ?_
    (repeat (first | (refine T_lp rfl (fun K hK => ?_); go_simp; refine hK _ ?_; clear hK K) | (refine T_ls rfl rfl (fun K hK => ?_); go_simp; refine hK _ ?_; clear hK K)))
    refine T_done ?_
    go_wp2
    refine wp_region_Tw [0, 1, 2, 3, 4, 5, 6, 7, 8, 9] [3, 7] (.lp 0 (.lp 1 (.lp 2 (.lp 4 (.lp 5 (.lp 6 (.ls 3 (.ls 7 (.lp 8 (.lp 9 (.done))))))))))) (by kernel_rfl) (by kernel_rfl) ?_
    (repeat (first | (refine T_lp rfl (fun K hK => ?_); go_simp; refine hK _ ?_; clear hK K) | (refine T_ls rfl rfl (fun K hK => ?_); go_simp; refine hK _ ?_; clear hK K)))
    refine T_done ?_
    go_wp2
    go_ret
    obtain ⟨v, hv, hv2⟩ := low_byte (IntKind.u64.wrap (IntKind.u64.wrap (s * 6364136223846793005)) + 1442695040888963407)
    exact ⟨v, by rw [← hv]; rfl, hv2, (cu_next (K := K) H1.out H4.out h3 h2 rfl).1, grown_trans (cu_next (K := K) H1.out H4.out h3 h2 rfl).2 (grown_below _ (((Below.refl _ _).drew).drew))⟩

set_option maxRecDepth 100000 in
set_option maxHeartbeats 4000000 in
theorem curPick_any (B g K : Nat) (n : Int) (w : World) (hK : K ≤ 100000) (hn : n ≤ 2000000) (h : Cu w B g K) :
    Calls Try.prog 159 #[.pointer (some ⟨g, 0, none⟩), .int .i64 n] w fun e w' => ∃ v : Nat, e = .returned (.int .i64 (v : Int)) ∧ ((v : Int) < n ∨ v = 0) ∧ Cu w' B g (K + 2) ∧ w.grownBy w' (some g) := by
  have H := Lib.hid h
  clear h
  by_cases h1 : n ≤ 1
  · go_enter Try.func159, Try.ntmps159
    go_wp2
    go_ret
    exact ⟨0, rfl, by omega, H.out.more (by omega), grown_refl _ _⟩
  · have i1 : ¬ n ≤ 1 := h1
    obtain ⟨N, rfl⟩ : ∃ N : Nat, n = N := ⟨n.toNat, by omega⟩
    have nM0 : ((N : Int) == 0) = false := by simp; omega
    have N1 := Lib.hid (curNext_any B g K w (by omega) H.out)
    by_cases h2 : (200 : Int) < (N : Int)
    · go_enter Try.func159, Try.ntmps159
      go_wp2_with fail
      go_at_call 177
      refine N1.out.mono ?_
      rintro e w2 ⟨v, rfl, hv, hc2, hg2⟩
      have N2 := Lib.hid (curNext_any B g (K + 1) w2 (by omega) hc2)
      have G2 := Lib.hid hg2
      clear hc2 hg2
      go_wp2_with fail
      go_at_call 177
      refine N2.out.mono ?_
      rintro e w3 ⟨u, rfl, hu, hc3, hg3⟩
      have C3 := Lib.hid hc3
      have G3 := Lib.hid (grown_trans G2.out hg3)
      clear hc3 hg3
      have e1 : wrap64 ((v : Int) * 256) = ((v * 256 : Nat) : Int) := by unfold wrap64; omega
      have e2 : wrap64 (((v * 256 : Nat) : Int) + (u : Int)) = ((v * 256 + u : Nat) : Int) := by unfold wrap64; omega
      have e3 : wrap64 ((v : Int) * 256 + (u : Int)) = ((v * 256 + u : Nat) : Int) := by unfold wrap64; omega
      have e4 : (v : Int) * 256 = ((v * 256 : Nat) : Int) := by omega
      have e5 : (v : Int) * 256 + (u : Int) = ((v * 256 + u : Nat) : Int) := by omega
      obtain ⟨P, hP⟩ : ∃ P, v * 256 + u = P := ⟨_, rfl⟩
      rw [hP] at e3 e5
      have hT := Lib.hid (show (P : Int).tmod (N : Int) = ((P % N : Nat) : Int) by rw [Int.tmod_eq_emod_of_nonneg (Int.natCast_nonneg P)]; push_cast; rfl)
      have hE := Lib.hid (show (P : Int) % (N : Int) = ((P % N : Nat) : Int) by push_cast; rfl)
      have hL := Lib.hid (Nat.mod_lt P (show N > 0 by omega))
      clear e1 e2 e4 hP
      go_wp2
      go_ret
      exact ⟨P % N, by first | (rw [← hE.out]; rfl) | (rw [← hT.out]; rfl) | (rw [← hE.out, ← e5]; rfl), by have := hL.out; omega, C3.out, G3.out⟩
    · have i2 : ¬ (200 : Int) < (N : Int) := h2
      go_enter Try.func159, Try.ntmps159
      go_wp2_with fail
      go_at_call 177
      refine N1.out.mono ?_
      rintro e w2 ⟨v, rfl, hv, hc2, hg2⟩
      have C2 := Lib.hid (hc2.more (show K + 1 ≤ K + 2 by omega))
      have G2 := Lib.hid hg2
      clear hc2 hg2
      have hT := Lib.hid (show (v : Int).tmod (N : Int) = ((v % N : Nat) : Int) by rw [Int.tmod_eq_emod_of_nonneg (Int.natCast_nonneg v)]; push_cast; rfl)
      have hE := Lib.hid (show (v : Int) % (N : Int) = ((v % N : Nat) : Int) by push_cast; rfl)
      have hL := Lib.hid (Nat.mod_lt v (show N > 0 by omega))
      go_wp2
      go_ret
      exact ⟨v % N, by first | (rw [← hE.out]; rfl) | (rw [← hT.out]; rfl), by have := hL.out; omega, C2.out, G2.out⟩

set_option maxRecDepth 100000 in
set_option maxHeartbeats 1000000 in
theorem curOne_any (B g K : Nat) (n : Int) (w : World) (hK : K ≤ 100000) (hn : n ≤ 2000000) (h : Cu w B g K) :
    Calls Try.prog 119 #[.pointer (some ⟨g, 0, none⟩), .int .i64 n] w fun e w' => ∃ v : Bool, e = .returned (.bool v) ∧ Cu w' B g (K + 2) ∧ w.grownBy w' (some g) := by
  have P := Lib.hid (curPick_any B g K n w hK hn h)
  clear h
  go_enter Try.func119, Try.ntmps119
  go_wp2_with fail
  go_at_call 159
  refine P.out.mono ?_
  rintro e w2 ⟨v, rfl, _, hc2, hg2⟩
  have C2 := Lib.hid hc2
  have G2 := Lib.hid hg2
  clear hc2 hg2
  go_wp2
  go_ret
  exact ⟨_, rfl, C2.out, G2.out⟩

set_option maxRecDepth 100000 in
set_option maxHeartbeats 1000000 in
theorem curAmong_any (B g K C : Nat) (A : Option Addr) (c : Nat) (l : List Int) (w : World) (hK : K ≤ 100000) (h1 : 1 ≤ l.length) (hl : l.length ≤ 1000) (h : Cu w B g K) (hr : Rd w C 1 A l.length (l.map I)) (hC : C ≤ w.heap.size) (hne : ∀ b off, A = some ⟨b, off, none⟩ → b ≠ g) :
    Calls Try.prog 110 #[.pointer (some ⟨g, 0, none⟩), .slice A l.length c] w fun e w' => ∃ v : Int, e = .returned (.int .i64 v) ∧ v ∈ l ∧ Cu w' B g (K + 2) ∧ w.grownBy w' (some g) := by
  have P := Lib.hid (curPick_any B g K (l.length : Int) w hK (by omega) h)
  have H := Lib.hid hr
  clear h hr
  go_enter Try.func110, Try.ntmps110
  go_wp2_with fail
  go_at_call 159
  refine P.out.mono ?_
  rintro e w2 ⟨v, rfl, hv, hc2, hg2⟩
  have hvl : v < l.length := by omega
  obtain ⟨b, off, rfl, hb, hc⟩ := H.out.int hvl
  have hcell : w2.cell? ⟨b, off + v, none⟩ = some (.int .i64 l[v]) := (World.cell?_of_block (hg2.block b (by omega) (fun e => by injection e with e; exact hne b off rfl e))).trans hc
  have iv : (v : Int) < (l.length : Int) := by omega
  have ME := Lib.hid (List.getElem_mem hvl)
  obtain ⟨u, hu⟩ : ∃ u, l[v] = u := ⟨_, rfl⟩
  rw [hu] at hcell ME
  have C2 := Lib.hid hc2
  have G2 := Lib.hid hg2
  clear hc2 hg2 hc hu hv
  go_wp2
  go_ret
  exact ⟨u, rfl, ME.out, C2.out, G2.out⟩
end Go.Proofs.Ytbbfbccemonihab
