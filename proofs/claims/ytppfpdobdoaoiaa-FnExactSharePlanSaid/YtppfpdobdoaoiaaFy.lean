/- FirstExponents, of the model and of the program. -/
import Derived.Test.YtppfpdobdoaoiaaFx
namespace Go.Proofs.Ytppfpdobdoaoiaa
open Go.RowKit

set_option maxRecDepth 100000 in
set_option maxHeartbeats 1000000 in
theorem firstLike_any (B g o v c : Nat) (A : Option Addr) (rows : List (List Int)) (w : World) (hm : rows.length ≤ 1000) (hB : B ≤ w.heap.size) (hs : Six rows) (hv : v < rows.length) (hc : w.cell? ⟨g, o, none⟩ = some (.slice A rows.length c)) (hr : Rd w B 6 A rows.length (fl6 rows)) :
    Calls Try.prog 109 #[.pointer (some ⟨g, o, none⟩), .int .i64 (v : Int)] w fun e w' => e = .returned (.int .i64 (fx rows rows[v] : Nat)) ∧ Below w.heap.size w w' := by
  obtain ⟨b, off, rfl, hb, hcs⟩ := six_cells hs hr hv
  obtain ⟨a0, a1, a2, a3, a4, a5, hal⟩ := six_form (hs _ (List.getElem_mem hv))
  rw [hal] at hcs
  have d0 : w.cell? ⟨b, off + v * 6, none⟩ = some (.int .i64 a0) := hcs 0 (by omega)
  have d1 : w.cell? ⟨b, off + v * 6 + 1, none⟩ = some (.int .i64 a1) := hcs 1 (by omega)
  have d2 : w.cell? ⟨b, off + v * 6 + 2, none⟩ = some (.int .i64 a2) := hcs 2 (by omega)
  have d3 : w.cell? ⟨b, off + v * 6 + 3, none⟩ = some (.int .i64 a3) := hcs 3 (by omega)
  have d4 : w.cell? ⟨b, off + v * 6 + 4, none⟩ = some (.int .i64 a4) := hcs 4 (by omega)
  have d5 : w.cell? ⟨b, off + v * 6 + 5, none⟩ = some (.int .i64 a5) := hcs 5 (by omega)
  have hI := fun W hBW hrW => index_any B (some ⟨b, off, none⟩) c rows v a0 a1 a2 a3 a4 a5 W hm hBW hs hv hal hrW
  obtain ⟨f, hf⟩ : ∃ f, fx rows rows[v] = f := ⟨_, rfl⟩
  rw [hf] at hI ⊢
  have HI := Lib.hid hI
  have H := Lib.hid hr
  have ivl : (v : Int) < (rows.length : Int) := by omega
  clear hI hs hr hal hcs hf
  go_enter Try.func109, Try.ntmps109
  go_wp2
  refine wp_region_Tw [0, 1, 2, 3, 4, 5, 6, 7, 8, 9, 10, 12] [3, 7, 10] (.lp 0 (.lp 1 (.lp 2 (.lp 4 (.lp 5 (.lp 6 (.lp 8 (.ls 3 (.ls 7 (.lp 9 (.ls 10 (.hv 11 (.lp 12 (.done)))))))))))))) (by kernel_rfl) (by kernel_rfl) ?_
  (repeat (first | (refine T_lp rfl (fun K hK => ?_); go_simp; refine hK _ ?_; clear hK K) | (refine T_ls rfl rfl (fun K hK => ?_); go_simp; refine hK _ ?_; clear hK K)))
  (refine T_hv rfl (by kernel_rfl) (fun K hK => ?_); go_simp)
  go_at_call 112
  refine (HI.out w.drew (by simp; omega) H.out.drew).mono ?_
  rintro e w2 ⟨rfl, hb2⟩
  have HB2 := Lib.hid (show Below w.heap.size w w2 from (Below.refl _ _).drew.trans (hb2.mono (by simp)))
  clear hb2
  (go_simp; refine hK _ _ ?_; clear hK K)
  (repeat (first | (refine T_lp rfl (fun K hK => ?_); go_simp; refine hK _ ?_; clear hK K) | (refine T_ls rfl rfl (fun K hK => ?_); go_simp; refine hK _ ?_; clear hK K)))
  refine T_done ?_
  go_wp2
  go_ret
  exact ⟨rfl, HB2.out⟩

/-- The numbers told for the first values. -/
def firstK (E : List (List Int)) (k : Nat) : List Int := (List.range k).map fun v : Nat => (fx E (E.getD v []) : Int)
theorem firstK_length (E : List (List Int)) (k : Nat) : (firstK E k).length = k := by simp [firstK]
theorem firstK_succ {E : List (List Int)} {k : Nat} (hk : k < E.length) : firstK E (k + 1) = firstK E k ++ [(fx E E[k] : Int)] := by
  unfold firstK
  rw [List.range_succ, List.map_append]
  simp [hk]

set_option maxRecDepth 100000 in
set_option maxHeartbeats 2000000 in
theorem firsts_any (B N : Nat) (z0 z1 z2 : Value) (A : Option Addr) (c : Nat) (E : List (List Int)) (w : World) (h6 : N ≤ 6) (hE : OkR N E) (hm : E.length ≤ 1000) (hB : B ≤ w.heap.size) (hr : Rd w B 6 A E.length (fl6 (E.map (pad N)))) :
    Calls Try.prog 87 #[.agg #[z0, z1, z2, .slice A E.length c]] w fun e w' => ∃ A' c', e = .returned (.slice A' E.length c') ∧ OwI w' w.heap.size (.slice A' E.length c') (firstK E E.length) ∧ Below w.heap.size w w' := by
  have hfl : ∀ (W : World) (g o v : Nat), v < E.length → B ≤ W.heap.size → W.cell? ⟨g, o, none⟩ = some (.slice A E.length c) → Rd W B 6 A E.length (fl6 (E.map (pad N))) →
      Calls Try.prog 109 #[.pointer (some ⟨g, o, none⟩), .int .i64 (v : Int)] W fun e w' => e = .returned (.int .i64 (fx E (E.getD v []) : Nat)) ∧ Below W.heap.size W w' := by
    intro W g o v hv hBW hc hrW
    have hv' : v < (E.map (pad N)).length := by simpa using hv
    have h := firstLike_any B g o v c A (E.map (pad N)) W (by simpa using hm) hBW (six_pad hE h6) hv' (by simpa using hc) (by simpa using hrW)
    rw [fx_pad N E hv] at h
    have e1 : E.getD v [] = E[v] := by simp [hv]
    rw [e1]
    exact h
  have HFL := Lib.hid hfl
  have H := Lib.hid hr
  clear hfl hr
  have hmk := run_make_row' (P := Try.prog) 25 3 (.int .i64 0) 8 Try.underlying25 info_int rfl .i64 .i64 E.length (by omega) (by omega)
  go_enter Try.func87, Try.ntmps87
  go_wp2
  clear hmk
  generalize hw1 : World.alloc w _ = w1
  obtain ⟨x0, x1, x2, x3, xs, xb⟩ := box4b hw1
  clear hw1
  rw [← xs]
  generalize hw2 : World.alloc w1 _ = w2
  have hmade : w2.ownsRow (w.heap.size + 1) 3 1 (.slice (some ⟨w1.heap.size, 0, none⟩) E.length E.length) E.length (List.replicate E.length (I 0)) := by rw [← hw2]; exact zeros_row E.length hm (by omega)
  have hb2 : Below (w.heap.size + 1) w1 w2 := by rw [← hw2]; exact (Below.refl _ _).alloc (by omega) _
  clear hw2
  have y3 := (hb2.cell (p := ⟨w.heap.size, 3, none⟩) (by simp)).trans x3
  have HM := Lib.hid hmade
  have HB2 := Lib.hid (xb.trans (hb2.mono (show w.heap.size ≤ w.heap.size + 1 by omega)))
  have hg : w.heap.size + 1 ≤ w1.heap.size := by omega
  have hs2 : w.heap.size + 1 ≤ w2.heap.size := by have := hb2.size; omega
  clear x0 x1 x2 x3 xs xb hmade hb2
  go_loopw [12] (fun i wr => ∃ k : Nat, k ≤ E.length ∧ i = .int .i64 k ∧ wr.ownsRow (w.heap.size + 1) 3 1 (.slice (some ⟨w1.heap.size, 0, none⟩) E.length E.length) E.length ((firstK E k).map I ++ List.replicate (E.length - k) (I 0)) ∧ Below (w.heap.size + 1) w2 wr) (fun i _ => E.length - (intOf i).toNat)
  case atStart => exact ⟨0, by omega, rfl, by simpa [firstK] using HM.out, Below.refl _ _⟩
  case round =>
    obtain ⟨k, hk, rfl, hown, hbel⟩ := hrel
    have OWN := Lib.hid hown
    have BEL := Lib.hid hbel
    have hsz : w.heap.size + 1 ≤ wr.heap.size := by have := hbel.size; omega
    have z3 := (hbel.cell (p := ⟨w.heap.size, 3, none⟩) (by simp)).trans y3
    by_cases hlt : k < E.length
    · clear hown hbel
      go_wp2_with fail
      go_at_call 109
      refine (HFL.out wr w.heap.size 3 k hlt (by omega) z3 (H.out.below' (HB2.out.trans (BEL.out.mono (by omega))) hB)).mono ?_
      rintro e w5 ⟨rfl, hb5⟩
      have hown5 := own_below OWN.out hb5
      have hc : w5.cell? ⟨w1.heap.size, k, none⟩ = some (I 0) := by
        rw [hown5.cellAt _ (by omega)]
        exact rep_at (by simp [firstK_length]) (by simp [firstK_length]; omega)
      have hf : w5.frozen? ⟨w1.heap.size, k, none⟩ = false := hown5.frozenAt _
      have OWN5 := Lib.hid hown5
      have HB5 := Lib.hid (BEL.out.trans (hb5.mono hsz))
      clear hown5 hb5
      go_wp2
      go_roundw
      case rel =>
        refine ⟨k + 1, by omega, by go_num, ?_, HB5.out.setCell hg _⟩
        have h := (OWN5.out.stored k (I (fx E (E.getD k []) : Nat))).1
        rw [fill_next (firstK E k) _ (firstK_length E k) hlt] at h
        have e : firstK E k ++ [((fx E (E.getD k []) : Nat) : Int)] = firstK E (k + 1) := by
          rw [firstK_succ hlt]
          simp [hlt]
        rw [e] at h
        have e2 : E.getD k [] = E[k] := by simp [hlt]
        rw [e2] at h
        exact h
      case measure => simp [intOf]; omega
    · have hk' : k = E.length := by omega
      subst hk'
      clear hown hbel
      go_wp2
      go_ret
      have h := OWN.out
      refine ⟨_, _, rfl, ?_, HB2.out.trans (BEL.out.mono (by omega))⟩
      show World.ownsRow _ _ _ _ _ _ _
      rw [firstK_length]
      refine own_base ?_ (show w.heap.size ≤ w.heap.size + 1 by omega)
      simpa using h

set_option maxRecDepth 100000 in
set_option maxHeartbeats 2000000 in
theorem plFirst_any (B N : Nat) (A1 A2 : Option Addr) (c1 c2 : Nat) (p : Pl) (w : World) (hpn : p.n = N) (n1 : 1 ≤ N) (h6 : N ≤ 6) (hs40 : p.s.length ≤ 40) (hB : B ≤ w.heap.size) (hok : OkS N p.s) (hr : RdP w B A1 A2 p) :
    Calls Try.prog 85 #[.agg #[.int .i64 p.n, .slice A1 p.s.length c1, .slice A2 p.o.length c2]] w fun e w' =>
      ∃ A c, e = .returned (.slice A (exps N p.s).length c) ∧ OwI w' w.heap.size (.slice A (exps N p.s).length c) (firstK (exps N p.s) (exps N p.s).length) ∧ Below w.heap.size w w' := by
  have hel := exps_length N p.s
  have hokr : OkR N (exps N p.s) := by have := exps_ok hok p.s.length (Nat.le_refl _); rwa [List.take_of_length_le (Nat.le_refl _)] at this
  have hpe := fun W hBW hrW => plExponents_any w.heap.size N A1 A2 c1 c2 p W hpn n1 h6 (by omega) hBW hok hrW
  obtain ⟨E, hE⟩ : ∃ E, exps N p.s = E := ⟨_, rfl⟩
  rw [hE] at hel hokr hpe ⊢
  have HPE := Lib.hid hpe
  have HOKR := Lib.hid hokr
  have H := Lib.hid hr
  have hEl : E.length ≤ 46 := by omega
  clear hr hok hpe hokr hE hel hpn
  go_enter Try.func85, Try.ntmps85
  go_wp2_with fail
  go_at_call 72
  generalize hw1 : World.alloc w _ = w1
  obtain ⟨x0, x1, x2, xs, xb⟩ := box3 hw1
  clear hw1
  refine (HPE.out w1 (by omega) ((H.out.below' xb hB).more hB)).mono ?_
  rintro e w2 ⟨A3, c3, rfl, hrows, hb2⟩
  have HR := Lib.hid hrows
  have HB2 := Lib.hid (xb.trans (hb2.mono (show w.heap.size ≤ w1.heap.size by omega)))
  have hs1 : w.heap.size ≤ w1.heap.size := by omega
  have hs2 : w1.heap.size ≤ w2.heap.size := hb2.size
  clear x0 x1 x2 xs xb hb2 hrows
  go_wp2
  go_loopw [4, 12] (fun ov iv wr => ∃ (v : Nat) (A4 : Option Addr) (c4 : Nat), v ≤ E.length ∧ iv = .int .i64 v ∧ ov = .slice A4 v c4 ∧ wr.ownsRow w2.heap.size 3 1 (.slice A4 v c4) v ((firstK E v).map I) ∧ Below w2.heap.size w2 wr) (fun _ i _ => E.length - (intOf i).toNat)
  case atStart => exact ⟨0, none, 0, by omega, rfl, rfl, World.ownsRow_nil _ _ _ _, Below.refl _ _⟩
  case round =>
    obtain ⟨v, A4, c4, hv, rfl, rfl, hown, hbel⟩ := hrel
    have hsz := hbel.size
    have OWN := Lib.hid hown
    have BEL := Lib.hid hbel
    have HRr := Lib.hid (HR.out.below hbel)
    clear hown hbel
    by_cases hlt : v < E.length
    · have hfl := fx_lt hlt
      have hfat := fx_at hlt
      have hfb := fun j hj => fx_before hlt (j := j) hj
      have hsuc := firstK_succ hlt
      obtain ⟨f, hf⟩ : ∃ f, fx E E[v] = f := ⟨_, rfl⟩
      have hfE : f < E.length := by omega
      have hfat' : E[f] = E[v] := by
        have : E[fx E E[v]]'(by omega) = E[f] := by congr 1
        rw [← this]; exact hfat
      rw [hf] at hfl hsuc
      have HFB := Lib.hid (show ∀ j (_ : j < f) (h : j < E.length), ¬ E[j] = E[v] from fun j hj _ => hfb j (by rw [hf]; exact hj))
      have HSUC := Lib.hid hsuc
      have HFAT := Lib.hid hfat'
      obtain ⟨g, B1, d1, rfl, hg, hcv, hov⟩ := HRr.out.at_ hlt
      have HOV := Lib.hid hov
      clear hfat hfb hsuc hf hfat' hov
      go_wp2
      go_loopw [7] (fun fv wr' => ∃ k n : Nat, k ≤ f ∧ fv = .int .i64 k ∧ wr' = wr.drewN n) (fun i _ => f - (intOf i).toNat)
      case atStart => exact ⟨0, 0, by omega, rfl, rfl⟩
      case round =>
        obtain ⟨k, n, hk, rfl, rfl⟩ := hrel
        have hkE : k < E.length := by omega
        obtain ⟨g', B2, d2, hg', _, hck, hok⟩ := HRr.out.at_ hkE
        obtain rfl : g = g' := by injection hg' with hg'; injection hg'
        have ikE : (k : Int) < (E.length : Int) := by omega
        have HOK := Lib.hid hok
        clear hok hg'
        have hC := fun W hr1 hr2 => l1Same_any wr.heap.size B2 B1 d2 d1 (E[k]'hkE) (E[v]'hlt) W (by rw [(HOKR.out _ (List.getElem_mem hkE)).1]; omega) (by rw [(HOKR.out _ (List.getElem_mem hlt)).1]; omega) hr1 hr2
        by_cases hkf : k = f
        · have heq : eqI E[k] E[v] = true := by
            unfold eqI
            have : E[k] = E[f] := by congr 1
            rw [this, HFAT.out]
            simp
          rw [heq] at hC
          have HC := Lib.hid hC
          have KF := Lib.hid hkf
          clear hC heq hkf
          go_wp2_with fail
          go_at_call 102
          refine (HC.out (wr.drewN n) (HOK.out.rd.drewN n) (HOV.out.rd.drewN n)).mono ?_
          rintro e w5 ⟨rfl, ⟨nd, rfl⟩⟩
          have hle : leastI (k : Int) (v : Int) = (k : Int) := by unfold leastI; split <;> omega
          have hC2 := fun W => l1Least_any (k : Int) (v : Int) W
          rw [hle] at hC2
          have HC2 := Lib.hid hC2
          clear hle hC2
          go_wp2_with (first
            | (go_at_call 55; refine (HC2.out _).mono ?_; rintro e w' ⟨rfl, rfl⟩)
            | (at_builtin; refine list_step (fun K hK => ?_); refine step_app1 Try.underlying25 info_int rfl (by omega) rfl (.tmp 26) (.tmp 30) rfl w2.heap.size v _ ((firstK E v).map I) rfl (World.ownsRow.alloc (own_below OWN.out (bDrewN (Below.refl _ _) (n + nd))) _) (wr.drewN (n + nd)).heap.size 1 (I (k : Int)) rfl (by rw [World.cell?_alloc_at _ _ _ _ rfl]; rfl) rfl (by omega) (by simp; omega) ?_; intro A5 c5 w6 hown6 hg6 hbel6; go_simp; refine hK _ _ ?_; clear hK K))
          go_roundw
          case rel =>
            refine ⟨v + 1, A5, c5, by omega, by go_num, rfl, ?_, ((bDrewN BEL.out _).alloc (by simp; omega) _).trans hbel6⟩
            rw [HSUC.out, List.map_append]
            have h := hown6
            rw [KF.out] at h
            exact h
          case measure => simp [intOf]; omega
        · have hne : eqI E[k] E[v] = false := by
            unfold eqI
            have := HFB.out k (by omega) hkE
            simpa using this
          rw [hne] at hC
          have HC := Lib.hid hC
          clear hC hne
          go_wp2_with fail
          go_at_call 102
          refine (HC.out (wr.drewN n) (HOK.out.rd.drewN n) (HOV.out.rd.drewN n)).mono ?_
          rintro e w5 ⟨rfl, ⟨nd, rfl⟩⟩
          go_wp2
          go_roundw
          case rel => exact ⟨k + 1, _, by omega, by go_num, rfl⟩
          case measure => simp [intOf]; omega
    · have hv' : v = E.length := by omega
      subst hv'
      go_wp2
      go_ret
      refine ⟨A4, c4, rfl, ?_, HB2.out.trans (BEL.out.mono (by omega))⟩
      show World.ownsRow _ _ _ _ _ _ _
      rw [firstK_length]
      exact own_base OWN.out (by omega)
end Go.Proofs.Ytppfpdobdoaoiaa
