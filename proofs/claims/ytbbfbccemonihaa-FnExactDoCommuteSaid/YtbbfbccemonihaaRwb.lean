/- The laws' helpers over lists of lists: sizes, copies, comparisons. -/
import Derived.Test.YtbbfbccemonihaaRwa
namespace Go.Proofs.Ytbbfbccemonihaa
open Go.RowKit

set_option maxRecDepth 100000 in
set_option maxHeartbeats 2000000 in
theorem szIntSS_any (B : Nat) (A : Option Addr) (c : Nat) (f : Nat → Option Addr × Nat) (r : Rws) (left : Int) (w : World) (h0 : -1 ≤ left) (h1 : left ≤ 1048576) (hn : r.length ≤ 9223372036854775807) (hrow : ∀ i, (r.getD i []).length ≤ 9223372036854775807) (hr : RdW w B A f r) :
    Calls Try.prog 50 #[.slice A r.length c, .int .i64 left] w fun e w' => e = .returned (.int .i64 (szK r left r.length)) ∧ w = w' := by
  have H := Lib.hid hr
  have HROW := Lib.hid hrow
  have BD := Lib.hid (fun k => szK_bd (r := r) h0 h1 k)
  have EN := Lib.hid (fun k hk h => szK_end (r := r) (k := k) h0 h1 hk h)
  clear hr hrow
  by_cases hneg : left - (r.length : Int) < 0
  · have E := Lib.hid (EN.out 0 (by omega) (by show szR left _ < 0; unfold szR; rw [if_pos hneg]; omega))
    have ew : wrap64 (left - (r.length : Int)) = left - (r.length : Int) := by unfold wrap64; omega
    go_enter Try.func50, Try.ntmps50
    go_wp2
    go_ret
    exact ⟨by rw [E.out]; rfl, rfl⟩
  · have ew : wrap64 (left - (r.length : Int)) = left - (r.length : Int) := by unfold wrap64; omega
    have S0 := Lib.hid (show szK r left 0 = left - (r.length : Int) by show szR left _ = _; unfold szR; rw [if_neg hneg])
    have SS := Lib.hid (fun k => show szK r left (k + 1) = szR (szK r left k) (r.getD k []).length from rfl)
    have hrl : r.length ≤ 1048576 := by omega
    obtain ⟨S, hS⟩ : ∃ S, szK r left = S := ⟨_, rfl⟩
    rw [hS] at BD EN S0 SS
    rw [hS]
    clear hS
    go_enter Try.func50, Try.ntmps50
    go_wp2
    go_loopw [1, 5] (fun lv iv wr => ∃ k : Nat, k ≤ r.length ∧ iv = .int .i64 (k : Int) ∧ lv = .int .i64 (S k) ∧ ¬ S k < 0 ∧ w = wr) (fun _ iv _ => r.length - (intOf iv).toNat)
    case atStart => exact ⟨0, by omega, rfl, by rw [S0.out], by rw [S0.out]; omega, rfl⟩
    case round =>
      obtain ⟨k, hk, rfl, rfl, hpos, rfl⟩ := hrel
      by_cases hlt : k < r.length
      · obtain ⟨b, off, rfl, hb, hc⟩ := H.out.at_ hlt
        obtain ⟨b1, b2⟩ := BD.out k
        have SZ := szIntS_any (f k).1 (r.getD k []).length (f k).2 (S k) w b1 b2 (HROW.out k)
        rw [← SS.out k] at SZ
        have SZ := Lib.hid SZ
        have ik : (k : Int) < (r.length : Int) := by omega
        obtain ⟨a1, ha1⟩ : ∃ a, (f k).1 = a := ⟨_, rfl⟩
        obtain ⟨a2, ha2⟩ : ∃ a, (f k).2 = a := ⟨_, rfl⟩
        obtain ⟨n, hnn⟩ : ∃ a, (r.getD k []).length = a := ⟨_, rfl⟩
        rw [ha1, ha2, hnn] at SZ hc
        clear ha1 ha2 hnn
        go_wp2_with fail
        go_at_call 60
        refine SZ.out.mono ?_
        rintro e w' ⟨rfl, rfl⟩
        by_cases hneg2 : S (k + 1) < 0
        · have E := Lib.hid (EN.out (k + 1) (by omega) hneg2)
          go_wp2
          go_ret
          exact ⟨by rw [E.out]; rfl, rfl⟩
        · go_wp2
          go_roundw
          case rel => exact ⟨k + 1, by omega, by go_num, rfl, by omega, by trivial⟩
          case measure => simp [intOf]; omega
      · have hk' : k = r.length := by omega
        subst hk'
        go_wp2
        go_ret
        exact ⟨rfl, rfl⟩

set_option maxRecDepth 100000 in
set_option maxHeartbeats 2000000 in
theorem toIntSS_any (B : Nat) (A : Option Addr) (c : Nat) (f : Nat → Option Addr × Nat) (r : Rws) (w : World) (hm : r.length ≤ 1048576) (hrow : ∀ i, i < r.length → (r.getD i []).length ≤ 1048576) (hB : B ≤ w.heap.size) (hr : RdW w B A f r) :
    Calls Try.prog 52 #[.slice A r.length c] w fun e w' => ∃ A' c' f', e = .returned (.slice A' r.length c') ∧ OwW w' w.heap.size A' c' f' r ∧ Below w.heap.size w w' := by
  have H := Lib.hid hr
  have HROW := Lib.hid hrow
  clear hr hrow
  have hmk := run_make_row' (P := Try.prog) 68 23 (.slice none 0 0) 24 Try.underlying68 info_ints rfl .i64 .i64 r.length (by omega) (by omega)
  have hmade : (w.alloc (.cells (madeCells #[.slice none 0 0] r.length) 23)).ownsRow w.heap.size 23 1 (.slice (some ⟨w.heap.size, 0, none⟩) r.length r.length) r.length (rwV f r 0 ++ List.replicate (r.length - 0) (.slice none 0 0)) := by
    have h := World.ownsRow_lit (base := w.heap.size) (e := 23) (size := 1) w (madeCells #[Value.slice none 0 0] r.length) r.length (Nat.le_refl _) (by unfold maxLen; omega) (by simp [size_madeCells])
    rw [made1] at h
    simpa [rwV] using h
  have HM := Lib.hid hmade
  clear hmade
  go_enter Try.func52, Try.ntmps52
  go_wp2
  clear hmk
  go_loopw [4] (fun iv wr => ∃ (k : Nat) (f' : Nat → Option Addr × Nat), k ≤ r.length ∧ iv = .int .i64 (k : Int) ∧ Hid (wr.ownsRow w.heap.size 23 1 (.slice (some ⟨w.heap.size, 0, none⟩) r.length r.length) r.length (rwV f' r k ++ List.replicate (r.length - k) (.slice none 0 0))) ∧ Hid (∀ i, i < k → OwI wr w.heap.size (.slice (f' i).1 (r.getD i []).length (f' i).2) (r.getD i [])) ∧ Hid (Below w.heap.size w wr)) (fun iv _ => r.length - (intOf iv).toNat)
  case atStart => exact ⟨0, f, by omega, rfl, HM, Lib.hid (fun i hi => absurd hi (by omega)), Lib.hid ((Below.refl _ _).alloc (Nat.le_refl _) _)⟩
  case round =>
    obtain ⟨k, f', hk, rfl, hown, hrows, hbel⟩ := hrel
    have hsz := hbel.out.size
    clear HM
    by_cases hlt : k < r.length
    · obtain ⟨b, off, rfl, hb, hc⟩ := (H.out.below' hbel.out hB).at_ hlt
      have R1 := ((H.out.below' hbel.out hB).2 k hlt).1
      have TS := Lib.hid (toIntS_any B (f k).1 (f k).2 (r.getD k []) wr (HROW.out k hlt) (by omega) R1)
      have ik : (k : Int) < (r.length : Int) := by omega
      obtain ⟨a1, ha1⟩ : ∃ a, (f k).1 = a := ⟨_, rfl⟩
      obtain ⟨a2, ha2⟩ : ∃ a, (f k).2 = a := ⟨_, rfl⟩
      obtain ⟨L, hL⟩ : ∃ a, r.getD k [] = a := ⟨_, rfl⟩
      have HL := Lib.hid hL
      rw [ha1, ha2, hL] at TS hc
      clear ha1 ha2 hL R1
      go_wp2_with fail
      go_at_call 18
      refine TS.out.mono ?_
      rintro e w3 ⟨A3, c3, rfl, ho3, hb3⟩
      have hs3 := hb3.size
      have O1 := own_below hown.out hb3
      have hc1 : w3.cell? ⟨w.heap.size, k, none⟩ = some (.slice none 0 0) := by
        rw [O1.cellAt _ (by omega)]
        exact rep_at (by rw [rwV_len]; omega) (by rw [rwV_len]; omega)
      have hf1 : w3.frozen? ⟨w.heap.size, k, none⟩ = false := O1.frozenAt _
      have O1H := Lib.hid O1
      have O3 := Lib.hid (ho3.base hsz)
      have RS := Lib.hid (show ∀ i, i < k → OwI w3 w.heap.size (.slice (f' i).1 (r.getD i []).length (f' i).2) (r.getD i []) from fun i hi => (hrows.out i hi).below hb3)
      have B3 := Lib.hid (hbel.out.trans (hb3.mono hsz))
      clear O1 ho3 hb3
      go_wp2
      go_roundw
      case rel =>
        have hg : w3.grownBy (w3.setCell ⟨w.heap.size, k, none⟩ (.slice A3 L.length c3)) (some w.heap.size) := grown_set (World.grownBy.refl _ _) _
        refine ⟨k + 1, updR f' k (A3, c3), by omega, by go_num, Lib.hid ?_, Lib.hid ?_, Lib.hid (B3.out.setCell (Nat.le_refl _) _)⟩
        · have h := (O1H.out.stored k (.slice A3 L.length c3)).1
          rw [List.set_append_right _ _ (by rw [rwV_len]; omega), rwV_len, Nat.sub_self, show r.length - k = (r.length - (k + 1)) + 1 from by omega, List.replicate_succ, List.set_cons_zero] at h
          rw [rwV_upd, HL.out]
          simpa using h
        · intro i hi
          rcases Nat.lt_or_eq_of_le (show i ≤ k by omega) with hi2 | rfl
          · have e1 : updR f' k (A3, c3) i = f' i := by unfold updR; rw [if_neg (by omega)]
            rw [e1]
            exact World.ownsRow.kept (RS.out i hi2) hg (own_ne (RS.out i hi2) O1H.out (by decide))
          · have e1 : updR f' i (A3, c3) i = (A3, c3) := by unfold updR; rw [if_pos rfl]
            rw [e1, HL.out]
            exact World.ownsRow.kept O3.out hg (own_ne O3.out O1H.out (by decide))
      case measure => simp [intOf]; omega
    · have hk' : k = r.length := by omega
      subst hk'
      go_wp2
      go_ret
      refine ⟨_, _, f', rfl, ⟨?_, hrows.out⟩, hbel.out⟩
      have h := hown.out
      simpa using h

set_option maxRecDepth 100000 in
set_option maxHeartbeats 2000000 in
theorem eqIntSSr_any (B B' : Nat) (A A' : Option Addr) (c c' : Nat) (f f' : Nat → Option Addr × Nat) (r : Rws) (w : World) (hR : r.length ≤ 1048576) (hrow : ∀ i, i < r.length → (r.getD i []).length ≤ 1048576) (h : RdW w B A f r) (h' : RdW w B' A' f' r) :
    Calls Try.prog 54 #[.slice A r.length c, .slice A' r.length c'] w fun e w' => e = .returned (.bool true) ∧ Dr w w' := by
  have H := Lib.hid h
  have H' := Lib.hid h'
  have HROW := Lib.hid hrow
  clear h h' hrow
  go_enter Try.func54, Try.ntmps54
  go_wp2
  go_loopw [5] (fun i wr => ∃ k n : Nat, k ≤ r.length ∧ i = .int .i64 k ∧ wr = w.drewN n) (fun i _ => r.length - (intOf i).toNat)
  case atStart => exact ⟨0, 0, by omega, rfl, rfl⟩
  case round =>
    obtain ⟨k, n, hk, rfl, rfl⟩ := hrel
    by_cases hlt : k < r.length
    · obtain ⟨g, o1, rfl, _, hc⟩ := H.out.at_ hlt
      obtain ⟨g', o2, rfl, _, hc'⟩ := H'.out.at_ hlt
      have hE := fun W hr1 hr2 => eqIntS_any B B' (f k).1 (f' k).1 (f k).2 (f' k).2 (r.getD k []) (r.getD k []) W (by have := HROW.out k hlt; omega) (by have := HROW.out k hlt; omega) hr1 hr2
      rw [eqI_refl] at hE
      have HE := Lib.hid hE
      have HRD := Lib.hid (H.out.2 k hlt).1
      have HRD' := Lib.hid (H'.out.2 k hlt).1
      have ikR : (k : Int) < (r.length : Int) := by omega
      clear hE
      obtain ⟨a1, ha1⟩ : ∃ a, (f k).1 = a := ⟨_, rfl⟩
      obtain ⟨a2, ha2⟩ : ∃ a, (f k).2 = a := ⟨_, rfl⟩
      obtain ⟨b1, hb1⟩ : ∃ a, (f' k).1 = a := ⟨_, rfl⟩
      obtain ⟨b2, hb2⟩ : ∃ a, (f' k).2 = a := ⟨_, rfl⟩
      obtain ⟨L, hL⟩ : ∃ a, r.getD k [] = a := ⟨_, rfl⟩
      rw [ha1, ha2, hb1, hb2, hL] at HE
      rw [ha1, hL] at HRD
      rw [hb1, hL] at HRD'
      rw [ha1, ha2, hL] at hc
      rw [hb1, hb2, hL] at hc'
      clear ha1 ha2 hb1 hb2 hL
      go_wp2
      refine wp_region_Tw [0, 1, 2, 3, 4, 5, 6, 7, 9] [3, 7] (.lp 0 (.lp 1 (.lp 2 (.lp 4 (.lp 5 (.lp 6 (.ls 3 (.ls 7 (.hv 8 (.lp 9 (.done))))))))))) (by kernel_rfl) (by kernel_rfl) ?_
      (repeat (first | (refine T_lp rfl (fun K hK => ?_); go_simp; refine hK _ ?_; clear hK K) | (refine T_ls rfl rfl (fun K hK => ?_); go_simp; refine hK _ ?_; clear hK K)))
      (refine T_hv rfl (by kernel_rfl) (fun K hK => ?_); go_simp)
      go_at_call 20
      refine (HE.out _ ((HRD.out.drewN n).drew) ((HRD'.out.drewN n).drew)).mono ?_
      rintro e w' ⟨rfl, ⟨m, rfl⟩⟩
      (go_simp; refine hK _ _ ?_; clear hK K)
      (repeat (first | (refine T_lp rfl (fun K hK => ?_); go_simp; refine hK _ ?_; clear hK K) | (refine T_ls rfl rfl (fun K hK => ?_); go_simp; refine hK _ ?_; clear hK K)))
      refine T_done ?_
      go_wp2
      go_roundw
      case rel => exact ⟨k + 1, n + 1 + m, by omega, by go_num, by first | rfl | (rw [← World.drewN_drewN, ← World.drewN_drewN]; rfl)⟩
      case measure => simp [intOf]; omega
    · have hk' : k = r.length := by omega
      subst hk'
      go_wp2
      go_ret
      exact ⟨rfl, Dr.mk _ _⟩
end Go.Proofs.Ytbbfbccemonihaa
