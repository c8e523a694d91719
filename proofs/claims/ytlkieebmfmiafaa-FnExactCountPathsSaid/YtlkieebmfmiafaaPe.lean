/- Paths from a value, by the model. -/
import Derived.Test.YtlkieebmfmiafaaJp
import Derived.Test.YtlkieebmfmiafaaJc
namespace Go.Proofs.Ytlkieebmfmiafaa
open Go.RowKit

theorem okS_bfr {N : Nat} {s : List (Int × Int)} (h : OkS N s) : Bfr N s := by
  intro i hi
  obtain ⟨h1, h2, h3⟩ := h i hi
  have e : s.getD i (0, 0) = s[i] := by simp [hi]
  unfold st1 st2
  rw [e]
  omega

theorem dp_boxes {w w3 : World} {a b c : Value} {n : Nat} {cs : Array Value} (hn : n = w.heap.size) (h : (w.alloc (.cells #[a, b, c] 31)).alloc (.cells cs 3) = w3) :
    w3.heap[n]? = some (.cells #[a, b, c] 31 (0, 0)) ∧ w3.heap[n + 1]? = some (.cells cs 3 (0, 0)) ∧ w3.heap.size = n + 2 ∧ Below n w w3 := by
  subst hn
  have h1 := heap_alloc_new w (.cells #[a, b, c] 31)
  have h2 := heap_alloc_new (w.alloc (.cells #[a, b, c] 31)) (.cells cs 3)
  rw [h] at h2
  simp only [World.size_alloc] at h2
  have b2 := Below.heap_alloc (w.alloc (.cells #[a, b, c] 31)) (.cells cs 3)
  rw [h] at b2
  refine ⟨(b2 _ (by simp)).trans h1, h2, by rw [← h]; simp, ?_⟩
  rw [← h]
  exact ((Below.refl _ _).alloc (Nat.le_refl _) _).alloc (by simp) _

set_option maxRecDepth 100000 in
set_option maxHeartbeats 4000000 in
theorem duPaths_any (B N R e : Nat) (A1 A2 : Option Addr) (c1 c2 : Nat) (p : Pl) (w : World) (hpn : p.n = N) (h6 : N ≤ 6) (hs40 : p.s.length ≤ 40) (hR : R = N + p.s.length) (he : e < R) (hB : B ≤ w.heap.size) (hok : OkS N p.s) (hr : RdP w B A1 A2 p) :
    Calls Try.prog 74 #[.agg #[.int .i64 p.n, .slice A1 p.s.length c1, .slice A2 p.o.length c2], .int .i64 (e : Int)] w fun en w' =>
      ∃ A' c', en = .returned (.slice A' R c') ∧ w'.ownsRow w.heap.size 3 1 (.slice A' R c') R ((fw N R e p.s p.s.length).map I) ∧ Below w.heap.size w w' := by
  have H := Lib.hid hr
  have HOK := Lib.hid hok
  have HR := Lib.hid hR
  have hR46 : R ≤ 46 := by omega
  have ieR : (e : Int) < (R : Int) := by omega
  have hNR : (N : Int) + (p.s.length : Int) = (R : Int) := by omega
  clear hr hok hR
  rw [hpn]
  clear hpn
  have hmk := run_make_row' (P := Try.prog) 23 3 (.int .i64 0) 8 Try.underlying23 info_int rfl .i64 .i64 R (by omega) (by omega)
  obtain ⟨w3, hw3⟩ : ∃ w3, (w.alloc (.cells #[.int .i64 N, .slice A1 p.s.length c1, .slice A2 p.o.length c2] 31)).alloc (.cells (madeCells #[.int .i64 0] R) 3) = w3 := ⟨_, rfl⟩
  obtain ⟨b0, b1, bs, bb⟩ := dp_boxes rfl hw3
  have hrow : w3.ownsRow (w.heap.size + 1) 3 1 (.slice (some ⟨w.heap.size + 1, 0, none⟩) R R) R ((List.replicate R (0 : Int)).map I) := by
    have h := zeros_row (w := w.alloc (.cells #[.int .i64 N, .slice A1 p.s.length c1, .slice A2 p.o.length c2] 31)) (B := w.heap.size + 1) R (by omega) (by simp)
    simp only [World.size_alloc] at h
    rw [List.map_replicate, ← hw3]
    exact h
  have hce := OwI.cellD hrow he
  have hfe : w3.frozen? ⟨w.heap.size + 1, e, none⟩ = false := hrow.frozenAt _
  have hrow4 := OwI.set (a := e) hrow 1
  obtain ⟨w4, hw4⟩ : ∃ w4, w3.setCell ⟨w.heap.size + 1, e, none⟩ (.int .i64 1) = w4 := ⟨_, rfl⟩
  rw [hw4] at hrow4
  have d0 : w4.heap[w.heap.size]? = some (.cells #[.int .i64 N, .slice A1 p.s.length c1, .slice A2 p.o.length c2] 31 (0, 0)) := by rw [← hw4]; exact (Below.heap_setCell w3 ⟨w.heap.size + 1, e, none⟩ _ w.heap.size (by simp only []; omega)).trans b0
  have v1 : w4.cell? ⟨w.heap.size, 1, none⟩ = some (.slice A1 p.s.length c1) := by rw [cell_of_row w4 w.heap.size 1 _ _ (0, 0) d0]; rfl
  have hs4 : w4.heap.size = w.heap.size + 2 := by rw [← hw4]; simpa [World.setCell] using bs
  have hb4 : Below w.heap.size w w4 := by rw [← hw4]; exact bb.setCell (by simp) _
  have HB4 := Lib.hid hb4
  have ROW := Lib.hid hrow4
  have D0 := Lib.hid d0
  have hs4' : w.heap.size + 2 ≤ w4.heap.size := by omega
  have hce0 : w3.cell? ⟨w.heap.size + 1, e, none⟩ = some (.int .i64 ((List.replicate R (0 : Int)).getD e 0)) := hce
  clear b0 b1 bs bb hrow hce hrow4 d0 hb4 hs4
  go_enter Try.func74, Try.ntmps74
  go_wp2
  clear hmk hNR
  go_loopw [21] (fun i wr => ∃ k : Nat, k ≤ p.s.length ∧ i = .int .i64 k ∧ wr.ownsRow (w.heap.size + 1) 3 1 (.slice (some ⟨w.heap.size + 1, 0, none⟩) R R) R ((fw N R e p.s k).map I) ∧ Below (w.heap.size + 1) w4 wr) (fun i _ => p.s.length - (intOf i).toNat)
  case atStart => exact ⟨0, by omega, rfl, ROW.out, Below.refl _ _⟩
  case round =>
    obtain ⟨k, hk, rfl, hown, hbel⟩ := hrel
    have hsz : w.heap.size + 2 ≤ wr.heap.size := by have := hbel.size; omega
    have hd0 := (hbel.block w.heap.size (by omega)).trans D0.out
    by_cases hlt : k < p.s.length
    · obtain ⟨o1, o2, o3⟩ := HOK.out k hlt
      obtain ⟨a, ha⟩ : ∃ a : Nat, (p.s[k]).1 = a := ⟨(p.s[k]).1.toNat, by omega⟩
      obtain ⟨b, hb⟩ : ∃ b : Nat, (p.s[k]).2 = b := ⟨(p.s[k]).2.toNat, by omega⟩
      obtain ⟨sb, off, rfl, hsb, hc1, hc2⟩ := ((H.out.1.below' HB4.out hB).below' hbel (by omega)).stp hlt
      have hst : p.s.getD k (0, 0) = ((a : Int), (b : Int)) := by
        have e : p.s.getD k (0, 0) = p.s[k] := by simp [hlt]
        rw [e, ← ha, ← hb]
      have h1 : st1 p.s k = a := by unfold st1; rw [hst]; exact Int.toNat_natCast a
      have h2 : st2 p.s k = b := by unfold st2; rw [hst]; exact Int.toNat_natCast b
      rw [ha] at hc1
      rw [hb] at hc2
      have hRR := HR.out
      have haR : a < R := by omega
      have hbR : b < R := by omega
      have iaR : (a : Int) < (R : Int) := by omega
      have ibR : (b : Int) < (R : Int) := by omega
      obtain ⟨j, hj⟩ : ∃ j, N + k = j := ⟨_, rfl⟩
      have hwn : IntKind.i64.wrap ((N : Int) + (k : Int)) = (j : Int) := by rw [IntWalk.i64_in _ (by omega)]; omega
      have hjR : j < R := by omega
      have ijR : (j : Int) < (R : Int) := by omega
      obtain ⟨w5, hw5⟩ : ∃ w5, wr.alloc (.cells #[.int .i64 (a : Int), .int .i64 (b : Int)] 94) = w5 := ⟨_, rfl⟩
      obtain ⟨d0, d1, ds, db⟩ := box2 hw5
      have hown3 := own_below hown db
      have u1 := OwI.cellD hown3 haR
      have u2 := OwI.cellD hown3 hbR
      have u3 := OwI.cellD hown3 hjR
      have f3 : w5.frozen? ⟨w.heap.size + 1, j, none⟩ = false := hown3.frozenAt _
      have hbf := okS_bfr HOK.out
      have r1 := fw_at (a := e) hRR (Nat.le_of_lt hlt) (v := a) (by omega)
      have r2 := fw_at (a := e) hRR (Nat.le_of_lt hlt) (v := b) (by omega)
      have p1 := pa_big hRR hs40 hbf he haR
      have p2 := pa_big hRR hs40 hbf he hbR
      rw [← r1] at p1
      rw [← r2] at p2
      obtain ⟨x1, hx1⟩ : ∃ y, (fw N R e p.s k).getD a 0 = y := ⟨_, rfl⟩
      obtain ⟨x2, hx2⟩ : ∃ y, (fw N R e p.s k).getD b 0 = y := ⟨_, rfl⟩
      rw [hx1] at u1 p1
      rw [hx2] at u2 p2
      have hown5 := OwI.set (a := j) hown3 (x1 + x2)
      have hwx : IntKind.i64.wrap (x1 + x2) = x1 + x2 := IntWalk.i64_in _ (by omega)
      have hf : fw N R e p.s (k + 1) = if j = e then fw N R e p.s k else (fw N R e p.s k).set j (x1 + x2) := by
        simp only [fw]
        rw [h1, h2, hx1, hx2, hj]
      have hbox := (db.block w.heap.size (by omega)).trans hd0
      have v0 : w5.cell? ⟨w.heap.size, 0, none⟩ = some (.int .i64 N) := by rw [cell_of_row w5 w.heap.size 0 _ _ (0, 0) hbox]; rfl
      have O3 := Lib.hid hown3
      have O5 := Lib.hid hown5
      have BEL := Lib.hid hbel
      have DB := Lib.hid db
      have iqk : (k : Int) < (p.s.length : Int) := by omega
      by_cases hje : j = e
      · rw [if_pos hje] at hf
        have HF := Lib.hid hf
        have ije : (j : Int) = (e : Int) := by omega
        subst hje
        clear hown hbel hown3 hown5 hst ha hb o1 o2 o3 h1 h2 r1 r2 hx1 hx2 hf hbf hd0 hbox hRR hj db p1 p2
        go_wp2
        go_roundw
        case rel =>
          refine ⟨k + 1, by omega, by go_num, by rw [HF.out]; exact O3.out, ?_⟩
          exact BEL.out.trans (DB.out.mono (by omega))
        case measure => simp [intOf]; omega
      · rw [if_neg hje] at hf
        have ije : ¬ (j : Int) = (e : Int) := by omega
        rw [← hf] at O5
        clear hown hbel hown3 hown5 hst ha hb o1 o2 o3 h1 h2 r1 r2 hx1 hx2 hf hbf hd0 hbox hRR hj db hje
        go_wp2
        refine wp_region_Tw [0, 1, 2, 3, 4, 5, 6, 7, 8, 9, 10, 11, 12, 13, 14, 15, 16] [2, 7, 9, 12, 14] (.lp 0 (.lp 1 (.lp 3 (.lp 5 (.lp 6 (.lp 10 (.lp 11 (.ls 2 (.lp 4 (.ls 7 (.lp 8 (.ls 9 (.ls 12 (.lp 13 (.ls 14 (.lp 15 (.lp 16 (.hv 17 (.done))))))))))))))))))) (by kernel_rfl) (by kernel_rfl) ?_
        (repeat (first | (refine T_lp rfl (fun K hK => ?_); go_simp; refine hK _ ?_; clear hK K) | (refine T_ls rfl rfl (fun K hK => ?_); go_simp; refine hK _ ?_; clear hK K)))
        (refine T_hv rfl (by kernel_rfl) (fun K hK => ?_); go_simp; refine hK _ _ ?_; clear hK K)
        refine T_done ?_
        go_wp2
        go_roundw
        case rel =>
          refine ⟨k + 1, by omega, by go_num, O5.out, ?_⟩
          exact ((BEL.out.trans (DB.out.mono (by omega))).setCell (by simp) _).drew
        case measure => simp [intOf]; omega
    · have hk' : k = p.s.length := by omega
      subst hk'
      have HB5 := Lib.hid (HB4.out.trans (hbel.mono (show w.heap.size ≤ w.heap.size + 1 by omega)))
      have OWN := Lib.hid hown
      clear hown hbel hd0
      go_wp2
      go_ret
      exact ⟨_, _, rfl, own_base OWN.out (by omega), HB5.out⟩
end Go.Proofs.Ytlkieebmfmiafaa
