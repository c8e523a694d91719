/- RunResidues of the model. -/
import Derived.Test.YtbbfbccemonihaaMoj
import Derived.Test.YtbbfbccemonihaaMoh
namespace Go.Proofs.Ytbbfbccemonihaa
open Go.RowKit

/-- Whether a plan may run on residues; the residues of the outputs. -/
def rrG (p : Pl) (m : Int) (l : List Int) : Bool := good p && (inB m 2 10000 && (decide ((l.length : Int) = p.n) && allB l 0 (m - 1)))
def rrV (p : Pl) (m : Int) (l : List Int) : List Int := if rrG p m l then outs 0 ((runG (inR m) (mulR m.toNat) 0 l p.s).getD []) p.o else []
theorem rr_bad {p : Pl} {m : Int} {l : List Int} (h : rrG p m l = false) : rrV p m l = [] := by unfold rrV; rw [h]; rfl
theorem rr_len (p : Pl) (m : Int) (l : List Int) : (rrV p m l).length ≤ 1000 := by
  unfold rrV
  split
  · rename_i h
    unfold rrG at h
    rw [Bool.and_eq_true] at h
    obtain ⟨_, _, _, _, _, ho, _⟩ := good_facts h.1
    rw [outs_len]
    omega
  · simp
/-- What is known where a plan may run on residues. -/
theorem rr_good {p : Pl} {m : Int} {l : List Int} (h : rrG p m l = true) : ∃ (M N : Nat) (V : List Int), m = (M : Int) ∧ p.n = (N : Int) ∧ 2 ≤ M ∧ M ≤ 10000 ∧ 1 ≤ N ∧ N ≤ 6 ∧ p.s.length ≤ 40 ∧ p.o.length ≤ 6 ∧ OkS N p.s ∧ l.length = N ∧ (∀ x ∈ l, inR (M : Int) x = true) ∧ runG (inR M) (mulR M) 0 l p.s = some V ∧ V.length = N + p.s.length ∧ (∀ x ∈ V, inR (M : Int) x = true) ∧ (∀ x ∈ p.o, 0 ≤ x ∧ x < V.length) ∧ rrV p m l = outs 0 V p.o := by
  have h0 := h
  unfold rrG at h
  simp only [Bool.and_eq_true, decide_eq_true_eq] at h
  obtain ⟨h1, h2, h3, h4⟩ := h
  obtain ⟨N, hN, n1, n6, s40, o6, hok, ho, _⟩ := good_facts h1
  have hm : 2 ≤ m ∧ m ≤ 10000 := by simpa [inB] using h2
  obtain ⟨M, rfl⟩ : ∃ M : Nat, m = M := ⟨m.toNat, by omega⟩
  have hl : l.length = N := by omega
  have hall : ∀ x ∈ l, inR (M : Int) x = true := by
    have := all_inR (m := (M : Int)) (l := l) (by omega)
    rw [h2, h4] at this
    exact List.all_eq_true.1 (this.trans rfl)
  obtain ⟨V, hV, hVl, hVa⟩ := runG_all (has := inR (M : Int)) (mul := mulR M) (z := (0 : Int)) (N := N) (fun a b ha hb => mulR_in ha hb) p.s l hl hall hok
  refine ⟨M, N, V, rfl, hN, by omega, by omega, n1, n6, s40, o6, hok, hl, hall, hV, hVl, hVa, ?_, ?_⟩
  · intro x hx
    have := ho x hx
    omega
  · unfold rrV
    rw [if_pos h0, show (M : Int).toNat = M by omega, hV]
    rfl

set_option maxRecDepth 100000 in
set_option maxHeartbeats 4000000 in
theorem moTask_any (B : Nat) (A0 B0 : Option Addr) (c0 d0 : Nat) (p : Pl) (m : Int) (A2 : Option Addr) (c2 : Nat) (l : List Int) (w : World) (hB : B ≤ w.heap.size) (hs : p.s.length ≤ 1048576) (ho : p.o.length ≤ 1048576) (hl : l.length ≤ 1048576)
    (hr : RdP w B A0 B0 p) (hrl : Rd w B 1 A2 l.length (l.map I)) :
    Calls Try.prog 61 #[.agg #[.int .i64 p.n, .slice A0 p.s.length c0, .slice B0 p.o.length d0], .int .i64 m, .slice A2 l.length c2] w fun e w' => e = .returned (.bool (rrG p m l)) ∧ Below w.heap.size w w' := by
  have H := Lib.hid hr
  have HL := Lib.hid hrl
  have PG := Lib.hid (fun W hB hr => plGood_any B A0 B0 c0 d0 p W hB (by omega) (by omega) hr)
  clear hr hrl
  obtain ⟨t, ht⟩ : ∃ t, rrG p m l = t := ⟨_, rfl⟩
  have HT := Lib.hid ht
  rw [ht]
  clear ht
  cases h1 : good p with
  | false =>
    have E := Lib.hid (show t = false by rw [← HT.out]; simp [rrG, h1])
    rw [h1] at PG
    clear h1
    go_enter Try.func61, Try.ntmps61
    go_wp2_with fail
    go_at_call 83
    generalize hw1 : World.alloc w _ = w1
    obtain ⟨x0, x1, x2, xs, xb⟩ := box3 hw1
    clear hw1
    refine (PG.out w1 (by omega) (H.out.below' xb hB)).mono ?_
    rintro e w2 ⟨rfl, hb2⟩
    have HB := Lib.hid (xb.trans (hb2.mono (by omega)))
    clear hb2 xb x0 x1 x2
    go_wp2
    go_ret
    exact ⟨ret_bool E.out.symm, HB.out⟩
  | true =>
  rw [h1] at PG
  cases h2 : inB m 2 10000 with
  | false =>
    have E := Lib.hid (show t = false by rw [← HT.out]; simp [rrG, h2])
    have H2 := Lib.hid h2
    clear h1 h2
    go_enter Try.func61, Try.ntmps61
    go_wp2_with fail
    go_at_call 83
    generalize hw1 : World.alloc w _ = w1
    obtain ⟨x0, x1, x2, xs, xb⟩ := box3 hw1
    clear hw1
    refine (PG.out w1 (by omega) (H.out.below' xb hB)).mono ?_
    rintro e w2 ⟨rfl, hb2⟩
    have HB := Lib.hid (xb.trans (hb2.mono (by omega)))
    clear hb2 xb x0 x1 x2
    go_wp2_with fail
    go_at_call 68
    refine (moModulus_any _ _).mono ?_
    rw [H2.out]
    rintro e w3 ⟨rfl, rfl⟩
    go_wp2
    go_ret
    exact ⟨ret_bool E.out.symm, HB.out⟩
  | true =>
  have hm : 2 ≤ m ∧ m ≤ 10000 := by simpa [inB] using h2
  have hw : wrap64 (m - 1) = m - 1 := by unfold wrap64; omega
  have H2 := Lib.hid h2
  obtain ⟨N, hN⟩ : ∃ N, p.n = N := ⟨_, rfl⟩
  have HN := Lib.hid hN
  by_cases h3 : (l.length : Int) = N
  · have E := Lib.hid (show t = allB l 0 (m - 1) by rw [← HT.out]; simp only [rrG, h1, h2, hN, decide_eq_true h3]; rfl)
    have HA := Lib.hid (fun W hr => l1All_any B A2 c2 l 0 (m - 1) W (by omega) hr)
    obtain ⟨n, hn⟩ : ∃ n, l.length = n := ⟨_, rfl⟩
    rw [hn] at HA HL
    rw [hn] at h3
    rw [hn, HN.out, ← h3]
    rw [HN.out, ← h3] at PG
    clear h1 h2 hm h3 hN hn
    go_enter Try.func61, Try.ntmps61
    go_wp2_with fail
    go_at_call 83
    generalize hw1 : World.alloc w _ = w1
    obtain ⟨x0, x1, x2, xs, xb⟩ := box3 hw1
    clear hw1
    refine (PG.out w1 (by omega) (H.out.below' xb hB)).mono ?_
    rintro e w2 ⟨rfl, hb2⟩
    have y0 := (hb2.cell (p := ⟨w.heap.size, 0, none⟩) (by simp only []; omega)).trans x0
    have HB := Lib.hid (xb.trans (hb2.mono (by omega)))
    clear hb2 xb x0 x1 x2
    go_wp2_with fail
    go_at_call 68
    refine (moModulus_any _ _).mono ?_
    rw [H2.out]
    rintro e w3 ⟨rfl, rfl⟩
    go_wp2_with fail
    go_at_call 70
    refine (HA.out _ (HL.out.below' HB.out hB)).mono ?_
    rintro e w3 ⟨rfl, rfl⟩
    clear y0
    go_wp2
    go_ret
    exact ⟨ret_bool E.out.symm, HB.out⟩
  · have E := Lib.hid (show t = false by rw [← HT.out]; simp [rrG, hN, h3])
    rw [hN]
    rw [hN] at PG
    clear h1 h2 hm hN
    go_enter Try.func61, Try.ntmps61
    go_wp2_with fail
    go_at_call 83
    generalize hw1 : World.alloc w _ = w1
    obtain ⟨x0, x1, x2, xs, xb⟩ := box3 hw1
    clear hw1
    refine (PG.out w1 (by omega) (H.out.below' xb hB)).mono ?_
    rintro e w2 ⟨rfl, hb2⟩
    have y0 := (hb2.cell (p := ⟨w.heap.size, 0, none⟩) (by simp only []; omega)).trans x0
    have HB := Lib.hid (xb.trans (hb2.mono (by omega)))
    clear hb2 xb x0 x1 x2
    go_wp2_with fail
    go_at_call 68
    refine (moModulus_any _ _).mono ?_
    rw [H2.out]
    rintro e w3 ⟨rfl, rfl⟩
    go_wp2
    go_ret
    exact ⟨ret_bool E.out.symm, HB.out⟩

set_option maxRecDepth 100000 in
set_option maxHeartbeats 4000000 in
theorem specRunRes_any (B : Nat) (A0 B0 : Option Addr) (c0 d0 : Nat) (p : Pl) (m : Int) (A2 : Option Addr) (c2 : Nat) (l : List Int) (w : World) (hB : B ≤ w.heap.size) (hs : p.s.length ≤ 1048576) (ho : p.o.length ≤ 1048576) (hl : l.length ≤ 1048576) (_hc : l.length ≤ c2)
    (hr : RdP w B A0 B0 p) (hrl : Rd w B 1 A2 l.length (l.map I)) :
    Calls Try.prog 16 #[.agg #[.int .i64 p.n, .slice A0 p.s.length c0, .slice B0 p.o.length d0], .int .i64 m, .slice A2 l.length c2] w fun e w' =>
      ∃ A' c', e = .returned (.tuple #[.slice A' (rrV p m l).length c', .bool (rrG p m l)]) ∧ OwI w' w.heap.size (.slice A' (rrV p m l).length c') (rrV p m l) ∧ Below w.heap.size w w' := by
  have H := Lib.hid hr
  have HL := Lib.hid hrl
  have MT := Lib.hid (fun W hB hr hrl => moTask_any B A0 B0 c0 d0 p m A2 c2 l W hB hs ho hl hr hrl)
  clear hr hrl
  cases hg : rrG p m l with
  | false =>
    have EV := Lib.hid (rr_bad hg)
    rw [hg] at MT
    clear hg
    go_enter Try.func16, Try.ntmps16
    go_wp2_with fail
    go_at_call 61
    generalize hw1 : World.alloc w _ = w1
    obtain ⟨x0, x1, x2, xs, xb⟩ := box3 hw1
    clear hw1
    refine (MT.out w1 (by omega) (H.out.below' xb hB) (HL.out.below' xb hB)).mono ?_
    rintro e w2 ⟨rfl, hb2⟩
    have HB := Lib.hid (xb.trans (hb2.mono (by omega)))
    clear hb2 xb x0 x1 x2
    go_wp2
    go_ret2
    exact ⟨none, 0, by rw [EV.out]; rfl, by rw [EV.out]; exact OwI.nil _ _, HB.out⟩
  | true =>
    obtain ⟨M, N, V, rfl, hN, n2, n4, k1, k6, s40, o6, hok, hll, hall, hV, hVl, hVa, hoV, hE⟩ := rr_good hg
    rw [hg] at MT
    have MR := Lib.hid (fun W hB hr hrl => moResidues_any B N M A0 B0 c0 d0 p A2 c2 l V W s40 hB n2 n4 hll k6 hok hall hV hr hrl)
    have MP := Lib.hid (fun W A c hB (hr : Rd W W.heap.size 1 A V.length (V.map I)) (hr' : Rd W W.heap.size 1 B0 p.o.length (p.o.map I)) => moPick_any W.heap.size A B0 c d0 V p.o W (by omega) hB hoV hr hr')
    have EV := Lib.hid hE
    have OL := Lib.hid (outs_len 0 V p.o)
    clear hg hok hll hall hV hVl hVa hoV hE hN
    go_enter Try.func16, Try.ntmps16
    go_wp2_with fail
    go_at_call 61
    generalize hw1 : World.alloc w _ = w1
    obtain ⟨x0, x1, x2, xs, xb⟩ := box3 hw1
    clear hw1
    refine (MT.out w1 (by omega) (H.out.below' xb hB) (HL.out.below' xb hB)).mono ?_
    rintro e w2 ⟨rfl, hb2⟩
    have FS := Lib.hid (show ∀ x, Below w2.heap.size w2 x → x.cell? ⟨w.heap.size, 0, none⟩ = some (.int .i64 p.n) ∧ x.cell? ⟨w.heap.size, 1, none⟩ = some (.slice A0 p.s.length c0) ∧ x.cell? ⟨w.heap.size, 2, none⟩ = some (.slice B0 p.o.length d0) from fun x hx => by
      have hx1 := hb2.trans (hx.mono hb2.size)
      exact ⟨(hx1.cell (p := ⟨w.heap.size, 0, none⟩) (by simp only []; omega)).trans x0, (hx1.cell (p := ⟨w.heap.size, 1, none⟩) (by simp only []; omega)).trans x1, (hx1.cell (p := ⟨w.heap.size, 2, none⟩) (by simp only []; omega)).trans x2⟩)
    have HB := Lib.hid (xb.trans (hb2.mono (by omega)))
    have hs2 : w.heap.size < w2.heap.size := by have := hb2.size; omega
    have SD := Lib.hid (show Below w2.heap.size w2 w2.drew from (Below.refl _ _).drew)
    clear hb2 xb x0 x1 x2 xs
    go_wp2
    refine wp_region_T (fun x : World => Below w2.heap.size w2 x) [0, 1, 2, 4, 5, 7, 8] [0, 5] (.lp 1 (.lp 2 (.lp 4 (.ls 0 (.ls 5 (.hv 3 (.hv 6 (.lp 7 (.lp 8 (.done)))))))))) (by kernel_rfl) (by kernel_rfl) ?_
    (repeat (refine T_lp rfl (fun K hK => ?_); go_simp; refine hK _ ?_; clear hK K))
    refine T_ls1 (v := .agg #[.int .i64 p.n, .slice A0 p.s.length c0, .slice B0 p.o.length d0]) rfl rfl SD.out (fun x hx => (by obtain ⟨h1, h2, h3⟩ := FS.out x hx; go_simp)) (fun K hK => ?_)
    (go_simp; refine hK _ ?_; clear hK K)
    refine T_ls1 (v := .slice B0 p.o.length d0) rfl rfl SD.out (fun x hx => (by obtain ⟨h1, h2, h3⟩ := FS.out x hx; go_simp)) (fun K hK => ?_)
    (go_simp; refine hK _ ?_; clear hK K)
    refine T_hvS rfl (fun K hK => ?_)
    go_simp
    go_at_call 63
    generalize hwd : w2.drew = wd at SD ⊢
    clear hwd
    have hsd := SD.out.size
    refine (MR.out wd (by omega) (H.out.below' (HB.out.trans (SD.out.mono (by omega))) hB) (HL.out.below' (HB.out.trans (SD.out.mono (by omega))) hB)).mono ?_
    rintro e w3 ⟨A3, c3, rfl, ho3, hb3⟩
    have B23 := Lib.hid (SD.out.trans (hb3.mono hsd))
    have hs3 := B23.out.size
    have O3 := Lib.hid ho3
    clear hb3 ho3
    go_simp
    refine hK _ _ B23.out ?_
    clear hK K
    (refine T_hv rfl (by kernel_rfl) (fun K hK => ?_); go_simp)
    go_at_call 62
    have HB3 := Lib.hid (HB.out.trans (B23.out.mono (by omega)))
    refine (MP.out w3 A3 c3 (Nat.le_refl _) O3.out.rd ((H.out.2.below' HB3.out hB).more (by omega))).mono ?_
    rintro e w4 ⟨A4, c4, rfl, ho4, hb4⟩
    have HB4 := Lib.hid (HB3.out.trans (hb4.mono (by omega)))
    have O4 := Lib.hid (ho4.base (show w.heap.size ≤ w3.heap.size by omega))
    clear hb4 ho4
    (go_simp; refine hK _ _ ?_; clear hK K)
    (repeat (first | (refine T_lp rfl (fun K hK => ?_); go_simp; refine hK _ ?_; clear hK K) | (refine T_ls rfl rfl (fun K hK => ?_); go_simp; refine hK _ ?_; clear hK K)))
    refine T_done ?_
    go_wp2
    go_ret2
    exact ⟨A4, c4, by rw [EV.out, OL.out]; rfl, by rw [EV.out, OL.out]; exact O4.out, HB4.out⟩
end Go.Proofs.Ytbbfbccemonihaa
