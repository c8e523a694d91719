/- The exponents of one value, of the model and of the program. -/
import Derived.Test.YtppfpdobdoaoiaaMl
import Derived.Test.YtppfpdobdoaoiaaSp
import Derived.Test.YtppfpdobdoaoiaaUv
namespace Go.Proofs.Ytppfpdobdoaoiaa
open Go.RowKit

theorem arr_slice (b o N : Nat) (h6 : N ≤ 6) (W : World) : (Instr.sliceAt 110 (.pointer (some ⟨b, o, none⟩)) none (some (.int .i64 (N : Int))) none).run Try.prog W = .ok (.slice (some ⟨b, o, none⟩) N 6) W := by
  have hal : Try.prog.arrayLen 110 = 6 := by kernel_rfl
  have hel : Try.prog.elem 110 = 3 := by kernel_rfl
  obtain ⟨i0, hi, _, _, _⟩ := info_parts info_int
  rw [run_sliceAt_array_h W 110 ⟨b, o, none⟩ (by kernel_rfl) .i64 N (by omega) (by rw [hal]; omega), hel, hal]
  simp [sizeOf, typeInfo, hi, slicedAt, Addr.add]
theorem eq_nil_slice (A : Option Addr) (n c : Nat) (W : World) : (binOp .eql 25 (.slice A n c) (.slice none 0 0)).run Try.prog W = .ok (.bool A.isNone) W := by
  simp only [binOp]
  simp [run_equal_slice_nil W 25 3 A n c Try.underlying25]

set_option maxRecDepth 100000 in
set_option maxHeartbeats 400000 in
theorem clone_any (B : Nat) (A : Option Addr) (c : Nat) (l : List Int) (w : World) (hm : l.length ≤ 1000000) (hB : B ≤ w.heap.size) (hA : A = none → l = []) (hr : Rd w B 1 A l.length (l.map I)) :
    Calls Try.prog 92 #[.slice A l.length c] w fun e w' => ∃ A' c', e = .returned (.slice A' l.length c') ∧ OwI w' w.heap.size (.slice A' l.length c') l ∧ Below w.heap.size w w' := by
  have H := Lib.hid hr
  clear hr
  have hnil := fun W => eq_nil_slice A l.length c W
  cases A with
  | none =>
    have hl := hA rfl
    subst hl
    have hnil0 := fun W => eq_nil_slice none 0 c W
    go_enter Try.func92, Try.ntmps92
    go_wp2
    go_ret
    exact ⟨none, 0, rfl, OwI.nil _ _, Below.refl _ _⟩
  | some ad =>
    clear hA
    go_enter Try.func92, Try.ntmps92
    go_wp2_with (first
      | (at_builtin; refine list_step (fun K hK => ?_); refine step_appM Try.underlying25 info_int rfl (by omega) (by omega) rfl (.tmp 5) (.tmp 6) rfl w.heap.size 0 _ [] rfl (own_empty 1 (Nat.le_refl _)) _ l.length c (l.map I) rfl (H.out.alloc hB _) (ints_one l) (by omega) (by simp) ?_; intro A2 c2 w2 hown2 hg2 hbel2; go_simp; refine hK _ _ ?_; clear hK K))
    go_ret
    simp only [Nat.zero_add, List.nil_append] at hown2
    exact ⟨A2, c2, by simp, hown2, ((Below.refl _ _).alloc (Nat.le_refl _) _).trans hbel2⟩

/-- The first exponents of a value, out of the program's array. -/
theorem row_rd {w : World} {B N v : Nat} {A : Option Addr} {E : List (List Int)} (hE : OkR N E) (h6 : N ≤ 6) (hv : v < E.length) (hr : Rd w B 6 A E.length (fl6 (E.map (pad N)))) :
    ∃ b off, A = some ⟨b, off, none⟩ ∧ b < B ∧ Rd w B 1 (some ⟨b, off + v * 6, none⟩) (E[v]).length ((E[v]).map I) ∧ (∃ u, w.cell? ⟨b, off + v * 6, none⟩ = some u) := by
  obtain ⟨b, off, rfl, hb, hc⟩ := hr.2 (by omega)
  have hl : (E[v]).length = N := (hE _ (List.getElem_mem hv)).1
  have hsix := six_pad hE h6
  have hvl : v < (E.map (pad N)).length := by simpa using hv
  refine ⟨b, off, rfl, hb, ⟨by simp, fun _ => ⟨b, off + v * 6, rfl, hb, fun j hj => ?_⟩⟩, ?_⟩
  · have hj' : j < N := by omega
    rw [show off + v * 6 + j = off + (v * 6 + j) by omega, hc _ (by omega), fl6_at hsix hvl (by omega)]
    have hjl : j < (E[v]).length := by omega
    simp [pad, hjl, List.getElem?_append_left]
  · have := fl6_at hsix hvl (j := 0) (by omega)
    rw [Nat.add_zero] at this
    exact ⟨_, (hc (v * 6) (by omega)).trans this⟩

set_option maxRecDepth 100000 in
set_option maxHeartbeats 1000000 in
theorem row_any (B N v : Nat) (z1 z2 : Value) (A : Option Addr) (c : Nat) (E : List (List Int)) (w : World) (h1 : 1 ≤ N) (h6 : N ≤ 6) (hE : OkR N E) (hv : v < E.length) (hB : B ≤ w.heap.size) (hr : Rd w B 6 A E.length (fl6 (E.map (pad N)))) :
    Calls Try.prog 74 #[.agg #[.int .i64 (N : Int), z1, z2, .slice A E.length c], .int .i64 (v : Int)] w fun e w' =>
      ∃ A' c', e = .returned (.slice A' (E[v]).length c') ∧ OwI w' w.heap.size (.slice A' (E[v]).length c') (E[v]) ∧ Below w.heap.size w w' := by
  obtain ⟨b, off, rfl, hb, hrd, u, hu⟩ := row_rd hE h6 hv hr
  have hl : (E[v]).length = N := (hE _ (List.getElem_mem hv)).1
  have H := Lib.hid hrd
  have HL := Lib.hid hl
  have ivE : (v : Int) < (E.length : Int) := by omega
  have hsl := arr_slice b (off + v * 6) N h6
  clear hr hrd hl
  go_enter Try.func74, Try.ntmps74
  go_wp2
  refine wp_region_Tw [0, 1, 2, 3, 4, 5, 6, 7, 8, 10] [2, 7] (.lp 0 (.lp 1 (.lp 3 (.lp 5 (.lp 6 (.ls 2 (.lp 4 (.ls 7 (.lp 8 (.hv 9 (.lp 10 (.done)))))))))))) (by kernel_rfl) (by kernel_rfl) ?_
  (repeat (first | (refine T_lp rfl (fun K hK => ?_); go_simp; refine hK _ ?_; clear hK K) | (refine T_ls rfl rfl (fun K hK => ?_); go_simp; refine hK _ ?_; clear hK K)))
  (refine T_hv rfl (by kernel_rfl) (fun K hK => ?_); go_simp)
  go_at_call 92
  generalize hw1 : World.drew (World.alloc w _) = w1
  have hb1 : Below w.heap.size w w1 := by rw [← hw1]; exact ((Below.refl _ _).alloc (Nat.le_refl _) _).drew
  clear hw1
  have hC := clone_any B (some ⟨b, off + v * 6, none⟩) 6 E[v] w1 (by have := HL.out; omega) (by have := hb1.size; omega) (fun h => by cases h) (H.out.below' hb1 hB)
  have hlen := HL.out
  rw [hlen] at hC
  refine hC.mono ?_
  rintro e w2 ⟨A2, c2, rfl, hown2, hb2⟩
  (go_simp; refine hK _ _ ?_; clear hK K)
  (repeat (first | (refine T_lp rfl (fun K hK => ?_); go_simp; refine hK _ ?_; clear hK K) | (refine T_ls rfl rfl (fun K hK => ?_); go_simp; refine hK _ ?_; clear hK K)))
  refine T_done ?_
  go_wp2
  go_ret
  exact ⟨A2, c2, by rw [hlen]; rfl, by rw [hlen]; exact hown2.base hb1.size, hb1.trans (hb2.mono hb1.size)⟩

def vxB (p : Pl) (x : Int) : Bool := good p && inB x 0 (p.n + p.s.length - 1)
def vxL (p : Pl) (x : Int) : List Int := if vxB p x then (exps p.n.toNat p.s).getD x.toNat [] else []
theorem vx_facts {p : Pl} {x : Int} (h : vxB p x = true) : ∃ N v : Nat, p.n = N ∧ x = v ∧ 1 ≤ N ∧ N ≤ 6 ∧ p.s.length ≤ 40 ∧ OkS N p.s ∧ v < N + p.s.length ∧ OkR N (exps N p.s) := by
  unfold vxB at h
  rw [Bool.and_eq_true] at h
  obtain ⟨N, hN, n1, n6, hs40, _, hok, _, _⟩ := good_facts h.1
  have h2 : 0 ≤ x ∧ x ≤ p.n + p.s.length - 1 := by simpa [inB] using h.2
  refine ⟨N, x.toNat, hN, by omega, n1, n6, hs40, hok, by omega, ?_⟩
  have := exps_ok hok p.s.length (Nat.le_refl _)
  rwa [List.take_of_length_le (Nat.le_refl _)] at this
theorem vxL_eq {p : Pl} {x : Int} {N v : Nat} (h : vxB p x = true) (hN : p.n = N) (hv : x = v) (hlt : v < (exps N p.s).length) : vxL p x = (exps N p.s)[v] := by
  have e1 : p.n.toNat = N := by omega
  have e2 : x.toNat = v := by omega
  unfold vxL
  rw [if_pos h, e1, e2]
  simp [hlt]
theorem vxL_len (p : Pl) (x : Int) : (vxL p x).length ≤ 6 := by
  cases h : vxB p x with
  | false => simp [vxL, h]
  | true =>
    obtain ⟨N, v, hN, hv, _, n6, _, _, hlt, hokr⟩ := vx_facts h
    have hlt' : v < (exps N p.s).length := by rw [exps_length]; exact hlt
    rw [vxL_eq h hN hv hlt', (hokr _ (List.getElem_mem hlt')).1]
    exact n6

set_option maxRecDepth 100000 in
set_option maxHeartbeats 1000000 in
theorem specVx_any (B : Nat) (A1 A2 : Option Addr) (c1 c2 : Nat) (p : Pl) (x : Int) (w : World) (hB : B ≤ w.heap.size) (hls : p.s.length ≤ 2000000) (hlo : p.o.length ≤ 2000000) (hr : RdP w B A1 A2 p) :
    Calls Try.prog 26 #[.agg #[.int .i64 p.n, .slice A1 p.s.length c1, .slice A2 p.o.length c2], .int .i64 x] w fun e w' =>
      ∃ A c, e = .returned (.tuple #[.slice A (vxL p x).length c, .bool (vxB p x)]) ∧ OwI w' w.heap.size (.slice A (vxL p x).length c) (vxL p x) ∧ Below w.heap.size w w' := by
  have H := Lib.hid hr
  clear hr
  obtain ⟨gd, hgd⟩ : ∃ x, good p = x := ⟨_, rfl⟩
  have HG := Lib.hid hgd
  go_enter Try.func26, Try.ntmps26
  go_wp2_with fail
  go_at_call 59
  generalize hw1 : World.alloc w _ = w1
  obtain ⟨x0, x1, x2, xs, xb⟩ := box3 hw1
  clear hw1
  have hC := plGood_any w.heap.size A1 A2 c1 c2 p w1 (by omega) hls hlo ((H.out.below' xb hB).more hB)
  rw [hgd] at hC
  refine hC.mono ?_
  rintro e w2 ⟨rfl, hb2⟩
  clear hC hgd
  have y0 := (hb2.cell (p := ⟨w.heap.size, 0, none⟩) (by simp only []; omega)).trans x0
  have y1 := (hb2.cell (p := ⟨w.heap.size, 1, none⟩) (by simp only []; omega)).trans x1
  have y2 := (hb2.cell (p := ⟨w.heap.size, 2, none⟩) (by simp only []; omega)).trans x2
  have HB2 := Lib.hid (xb.trans (hb2.mono (show w.heap.size ≤ w1.heap.size by omega)))
  have hs2 : w.heap.size + 1 ≤ w2.heap.size := by have := hb2.size; omega
  clear x0 x1 x2 xs xb hb2
  cases gd with
  | false =>
    have ea : vxB p x = false := by simp [vxB, HG.out]
    have EA := Lib.hid ea
    have el : vxL p x = [] := by simp [vxL, ea]
    have EL := Lib.hid el
    clear ea el
    go_wp2
    go_ret2
    exact ⟨none, 0, by rw [EL.out, EA.out]; rfl, by rw [EL.out]; exact OwI.nil _ _, HB2.out⟩
  | true =>
    obtain ⟨N, hN, n1, n6, hs40, ho6, hok, hout, _⟩ := good_facts HG.out
    have hi : IntKind.i64.wrap (IntKind.i64.wrap (p.n + (p.s.length : Int)) - 1) = p.n + p.s.length - 1 := by
      have e1 : IntKind.i64.wrap (p.n + (p.s.length : Int)) = p.n + p.s.length := IntWalk.i64_in _ (by omega)
      rw [e1]
      exact IntWalk.i64_in _ (by omega)
    cases hq : vxB p x with
    | false =>
      have hq2 : inB x 0 (p.n + p.s.length - 1) = false := by
        have h := hq
        unfold vxB at h
        rw [HG.out] at h
        simpa using h
      have EA := Lib.hid hq
      have el : vxL p x = [] := by simp [vxL, hq]
      have EL := Lib.hid el
      have hC := fun W => l1In_any x 0 (p.n + p.s.length - 1) W
      rw [hq2] at hC
      have HC := Lib.hid hC
      rw [hN] at y0 hi HC
      have hN1 : (N : Int) ≤ 6 := by omega
      clear hq hq2 el hC hok hout hi
      go_wp2_with fail
      go_at_call 71
      refine (HC.out _).mono ?_
      rintro e w' ⟨rfl, rfl⟩
      go_wp2
      go_ret2
      exact ⟨none, 0, by rw [EL.out, EA.out]; rfl, by rw [EL.out]; exact OwI.nil _ _, HB2.out⟩
    | true =>
      obtain ⟨N', v, hN', hv, _, _, _, _, hlt, hokr⟩ := vx_facts hq
      obtain rfl : N' = N := by omega
      have hlt' : v < (exps N' p.s).length := by rw [exps_length]; exact hlt
      have el := vxL_eq hq hN' hv hlt'
      have hq2 : inB x 0 (p.n + p.s.length - 1) = true := by
        have h := hq
        unfold vxB at h
        rw [HG.out] at h
        simpa using h
      have EA := Lib.hid hq
      have EL := Lib.hid el
      have hC := fun W => l1In_any x 0 (p.n + p.s.length - 1) W
      rw [hq2] at hC
      have HC := Lib.hid hC
      have HOK := Lib.hid hok
      have HN := Lib.hid hN
      rw [hN] at y0 hi HC
      subst hv
      have ivl : (v : Int) < ((exps N' p.s).length : Int) := by omega
      have hN1 : (N' : Int) ≤ 6 := by omega
      clear hq hq2 el hC hok hout hi hN hN' hokr
      go_wp2_with fail
      go_at_call 71
      refine (HC.out _).mono ?_
      rintro e w' ⟨rfl, rfl⟩
      go_wp2_with fail
      go_at_call 72
      have hE := plExponents_any w.heap.size N' A1 A2 c1 c2 p w2 HN.out n1 n6 (by omega) (by omega) HOK.out ((H.out.below' HB2.out hB).more hB)
      rw [HN.out] at hE
      refine hE.mono ?_
      rintro e w3 ⟨A3, c3, rfl, hrows, hb3⟩
      clear hE
      obtain ⟨g, A4, c4, rfl, hg, hcv, hov⟩ := hrows.at_ hlt'
      have HO := Lib.hid (hov.base (show w.heap.size ≤ w2.heap.size by omega))
      have HB3 := Lib.hid (HB2.out.trans (hb3.mono (show w.heap.size ≤ w2.heap.size by omega)))
      clear hrows hb3 hov
      go_wp2
      go_ret2
      exact ⟨A4, c4, by rw [EL.out, EA.out]; rfl, by rw [EL.out]; exact HO.out, HB3.out⟩

set_option maxRecDepth 100000 in
set_option maxHeartbeats 1000000 in
theorem implVx_any (B : Nat) (A1 A2 : Option Addr) (c1 c2 : Nat) (p : Pl) (x : Int) (w : World) (hB : B ≤ w.heap.size) (hls : p.s.length ≤ 2000000) (hlo : p.o.length ≤ 2000000) (hr : RdP w B A1 A2 p) :
    Calls Try.prog 27 #[.agg #[.int .i64 p.n, .slice A1 p.s.length c1, .slice A2 p.o.length c2], .int .i64 x] w fun e w' =>
      ∃ A c, e = .returned (.tuple #[.slice A (vxL p x).length c, .bool (vxB p x)]) ∧ OwI w' w.heap.size (.slice A (vxL p x).length c) (vxL p x) ∧ Below w.heap.size w w' := by
  have H := Lib.hid hr
  clear hr
  go_enter Try.func27, Try.ntmps27
  go_wp2_with fail
  go_at_call 64
  generalize hw1 : World.alloc w _ = w1
  obtain ⟨x0, x1, x2, xs, xb⟩ := box3 hw1
  clear hw1
  refine (withValues_any B A1 A2 c1 c2 p w1 (by omega) hls hlo (H.out.below' xb hB)).mono ?_
  rintro e w2 ⟨hb2, hpost⟩
  have HB2 := Lib.hid (xb.trans (hb2.mono (show w.heap.size ≤ w1.heap.size by omega)))
  have hs1 : w.heap.size ≤ w1.heap.size := by omega
  clear x0 x1 x2 hb2
  rw [valsI_eq] at hpost
  by_cases hg : good p = true
  · rw [if_pos hg] at hpost
    simp only at hpost
    obtain ⟨A, c, rfl, hown⟩ := hpost
    obtain ⟨N, hN, n1, n6, hs40, ho6, hok, hout, _⟩ := good_facts hg
    rw [rows_len hN] at hown ⊢
    have HOWN := Lib.hid (own_base hown hs1)
    have HN := Lib.hid hN
    have HG := Lib.hid hg
    have hxb : vxB p x = hasB x (N + p.s.length) := by
      unfold vxB
      rw [hg, Bool.true_and, Bool.eq_iff_iff]
      simp only [inB, hasB, Bool.and_eq_true, decide_eq_true_eq]
      omega
    have HXB := Lib.hid hxb
    clear hok hout hown hg xs xb hs1
    cases hq : hasB x (N + p.s.length) with
    | false =>
      have EA := Lib.hid (HXB.out.trans hq)
      have el : vxL p x = [] := by simp [vxL, EA.out]
      have EL := Lib.hid el
      have HQ := Lib.hid hq
      clear el hq hN hxb
      go_wp2_with fail
      go_at_call 73
      generalize hw3 : World.alloc w2 _ = w3
      obtain ⟨v0, v1, v2, v3, xs, xb⟩ := box4 hw3
      clear hw3
      have hC := has_any w2.heap.size 3 (N + p.s.length) c A x w3 v3
      rw [HQ.out] at hC
      refine hC.mono ?_
      rintro e w' ⟨rfl, rfl⟩
      clear hC
      have HB3 := Lib.hid (HB2.out.trans (xb.mono HB2.out.size))
      clear xb
      go_wp2
      go_ret2
      exact ⟨none, 0, by rw [EL.out, EA.out]; rfl, by rw [EL.out]; exact OwI.nil _ _, HB3.out⟩
    | true =>
      have ha := HXB.out.trans hq
      obtain ⟨N', v, hN', hv, _, _, _, _, hlt, hokr⟩ := vx_facts ha
      obtain rfl : N' = N := by omega
      have hlt' : v < (exps N' p.s).length := by rw [exps_length]; exact hlt
      have el := vxL_eq ha hN' hv hlt'
      have EA := Lib.hid ha
      have EL := Lib.hid el
      have HQ := Lib.hid hq
      have HOKR := Lib.hid hokr
      have hown := HOWN.out
      have hn' : p.n.toNat = N' := by omega
      rw [hn', ← exps_length N' p.s] at hown
      have HOWN2 := Lib.hid (Rd.of_own hown)
      subst hv
      clear el ha hq hN hN' hxb hokr hown hn'
      go_wp2_with fail
      go_at_call 73
      generalize hw3 : World.alloc w2 _ = w3
      obtain ⟨v0, v1, v2, v3, xs, xb⟩ := box4 hw3
      clear hw3
      have hC := has_any w2.heap.size 3 (N' + p.s.length) c A v w3 v3
      rw [HQ.out] at hC
      refine hC.mono ?_
      rintro e w' ⟨rfl, rfl⟩
      clear hC
      have HB3 := Lib.hid (HB2.out.trans (xb.mono HB2.out.size))
      have HR3 := Lib.hid (HOWN2.out.below xb)
      clear xb
      rw [HN.out] at v0
      go_wp2_with fail
      go_at_call 74
      have hR := row_any w2.heap.size N' v (.slice A1 p.s.length c1) (.slice A2 p.o.length c2) A c (exps N' p.s) w3 n1 n6 HOKR.out hlt' (by omega) HR3.out
      rw [exps_length] at hR
      refine hR.mono ?_
      rintro e w4 ⟨A4, c4, rfl, hown4, hb4⟩
      clear hR
      have hs3 := HB3.out.size
      have HO4 := Lib.hid (hown4.base hs3)
      have HB4 := Lib.hid (HB3.out.trans (hb4.mono hs3))
      clear hown4 hb4
      go_wp2
      go_ret2
      exact ⟨A4, c4, by rw [EL.out, EA.out]; rfl, by rw [EL.out]; exact HO4.out, HB4.out⟩
  · rw [if_neg hg] at hpost
    simp only at hpost
    subst hpost
    have hg' : good p = false := by simpa using hg
    have ha : vxB p x = false := by simp [vxB, hg']
    have el : vxL p x = [] := by simp [vxL, ha]
    have EA := Lib.hid ha
    have EL := Lib.hid el
    clear hg hg' ha el
    go_wp2
    go_ret2
    exact ⟨none, 0, by rw [EL.out, EA.out]; rfl, by rw [EL.out]; exact OwI.nil _ _, HB2.out.alloc HB2.out.size _⟩
end Go.Proofs.Ytppfpdobdoaoiaa
