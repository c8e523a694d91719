/- How often values are used, by the model. -/
import Derived.Test.YtlkieebmfmiafaaJa
import Derived.Test.YtlkieebmfmiafaaKc
namespace Go.Proofs.Ytlkieebmfmiafaa
open Go.RowKit

set_option maxRecDepth 100000 in
set_option maxHeartbeats 2000000 in
theorem duUses_any (B N R : Nat) (A1 A2 : Option Addr) (c1 c2 : Nat) (p : Pl) (w : World) (hpn : p.n = N) (h6 : N ≤ 6) (hs40 : p.s.length ≤ 40) (ho6 : p.o.length ≤ 6) (hR : R = N + p.s.length) (hB : B ≤ w.heap.size) (hok : OkS N p.s)
    (hout : ∀ x ∈ p.o, 0 ≤ x ∧ x < (N : Int) + p.s.length) (hr : RdP w B A1 A2 p) :
    Calls Try.prog 59 #[.agg #[.int .i64 p.n, .slice A1 p.s.length c1, .slice A2 p.o.length c2]] w fun e w' =>
      ∃ A c, e = .returned (.slice A R c) ∧ w'.ownsRow w.heap.size 3 1 (.slice A R c) R ((cL p.s p.o R p.s.length p.o.length).map I) ∧ Below w.heap.size w w' := by
  have H := Lib.hid hr
  have HO := Lib.hid hok
  have HOUT := Lib.hid hout
  have HR := Lib.hid hR
  have hR46 : R ≤ 46 := by omega
  have hNR : (N : Int) + (p.s.length : Int) = (R : Int) := by omega
  clear hr hok hout hR
  rw [hpn]
  clear hpn
  have hmk := run_make_row' (P := Try.prog) 23 3 (.int .i64 0) 8 Try.underlying23 info_int rfl .i64 .i64 R (by omega) (by omega)
  go_enter Try.func59, Try.ntmps59
  go_wp2
  clear hmk
  generalize hw1 : World.alloc w _ = w1
  obtain ⟨x0, x1, x2, xs, xb⟩ := box3 hw1
  clear hw1
  rw [← xs]
  generalize hw2 : World.alloc w1 _ = w2
  have hmade : w2.ownsRow (w.heap.size + 1) 3 1 (.slice (some ⟨w1.heap.size, 0, none⟩) R R) R ((cL p.s p.o R 0 0).map I) := by
    rw [cL_zero, List.map_replicate, ← hw2]
    exact zeros_row R (by omega) (by omega)
  have hb2 : Below (w.heap.size + 1) w1 w2 := by rw [← hw2]; exact (Below.refl _ _).alloc (by omega) _
  clear hw2
  have y2 := (hb2.cell (p := ⟨w.heap.size, 2, none⟩) (by simp)).trans x2
  have HB2 := Lib.hid (xb.trans (hb2.mono (show w.heap.size ≤ w.heap.size + 1 by omega)))
  have HM := Lib.hid hmade
  have hg : w.heap.size + 1 ≤ w1.heap.size := by omega
  clear x0 x1 x2 xs xb hb2 hmade hNR
  go_loopw [18] (fun i wr => ∃ k : Nat, k ≤ p.s.length ∧ i = .int .i64 k ∧ wr.ownsRow (w.heap.size + 1) 3 1 (.slice (some ⟨w1.heap.size, 0, none⟩) R R) R ((cL p.s p.o R k 0).map I) ∧ Below (w.heap.size + 1) w2 wr) (fun i _ => p.s.length - (intOf i).toNat)
  case atStart => exact ⟨0, by omega, rfl, HM.out, Below.refl _ _⟩
  case round =>
    obtain ⟨k, hk, rfl, hown, hbel⟩ := hrel
    have hsz : w.heap.size + 1 ≤ wr.heap.size := by have := hbel.size; have := (own_block HM.out) _ rfl; omega
    by_cases hlt : k < p.s.length
    · obtain ⟨o1, o2, o3⟩ := HO.out k hlt
      obtain ⟨a, ha⟩ : ∃ a : Nat, (p.s[k]).1 = a := ⟨(p.s[k]).1.toNat, by omega⟩
      obtain ⟨b, hb⟩ : ∃ b : Nat, (p.s[k]).2 = b := ⟨(p.s[k]).2.toNat, by omega⟩
      obtain ⟨sb, off, rfl, hsb, hc1, hc2⟩ := ((H.out.1.below' HB2.out hB).below' hbel (by omega)).stp hlt
      have hst : p.s.getD k (0, 0) = ((a : Int), (b : Int)) := by
        have e : p.s.getD k (0, 0) = p.s[k] := by simp [hlt]
        rw [e, ← ha, ← hb]
      rw [ha] at hc1
      rw [hb] at hc2
      have haR : a < R := by have := HR.out; omega
      have hbR : b < R := by have := HR.out; omega
      have iaR : (a : Int) < (R : Int) := by omega
      have ibR : (b : Int) < (R : Int) := by omega
      obtain ⟨w3, hw3⟩ : ∃ w3, wr.alloc (.cells #[.int .i64 (a : Int), .int .i64 (b : Int)] 94) = w3 := ⟨_, rfl⟩
      obtain ⟨d0, d1, ds, db⟩ := box2 hw3
      have hown3 := own_below hown db
      have u1 := OwI.cellD hown3 haR
      rw [cL_at p.s p.o k 0 haR] at u1
      have f1 : w3.frozen? ⟨w1.heap.size, a, none⟩ = false := hown3.frozenAt _
      have hown4 := OwI.set (a := a) hown3 ((usC p.s p.o k 0 (a : Int) : Nat) + 1)
      have u2 := OwI.cellD hown4 hbR
      rw [cL_mid_at p.o haR hbR] at u2
      have f2 : (w3.setCell ⟨w1.heap.size, a, none⟩ (.int .i64 ((usC p.s p.o k 0 (a : Int) : Nat) + 1))).frozen? ⟨w1.heap.size, b, none⟩ = false := hown4.frozenAt _
      have hown5 := OwI.set (a := b) hown4 (((usC p.s p.o k 0 (b : Int) + (if b = a then 1 else 0) : Nat) : Int) + 1)
      rw [cL_step p.o haR hbR hst] at hown5
      have g1 : (w3.setCell ⟨w1.heap.size, a, none⟩ (.int .i64 ((usC p.s p.o k 0 (a : Int) : Nat) + 1))).cell? ⟨wr.heap.size, 1, none⟩ = some (.int .i64 (b : Int)) := by
        have hgw : w1.heap.size < wr.heap.size := ((own_block hown) _ rfl).2
        exact (World.cell?_of_block (a := ⟨wr.heap.size, 1, none⟩) (Below.heap_setCell w3 ⟨w1.heap.size, a, none⟩ _ wr.heap.size (by simp only []; omega))).trans d1
      have bc1 := usC_le p.s p.o k 0 (a : Int)
      have bc2 := usC_le p.s p.o k 0 (b : Int)
      obtain ⟨n1, hn1⟩ : ∃ n, usC p.s p.o k 0 (a : Int) = n := ⟨_, rfl⟩
      obtain ⟨n2, hn2⟩ : ∃ n, usC p.s p.o k 0 (b : Int) + (if b = a then 1 else 0) = n := ⟨_, rfl⟩
      have bn2 : n2 ≤ 2 * k + 1 := by rw [← hn2]; split <;> omega
      rw [hn1] at u1 f2 u2 g1 hown5 bc1
      rw [hn2] at u2 hown5
      have O5 := Lib.hid hown5
      have BEL := Lib.hid hbel
      have DB := Lib.hid db
      clear hown hbel hown3 hown4 hown5 hst ha hb o1 o2 o3 hn1 hn2 bc2 db
      have iqk : (k : Int) < (p.s.length : Int) := by omega
      go_wp2
      go_roundw
      case rel =>
        refine ⟨k + 1, by omega, by go_num, O5.out, ?_⟩
        exact ((BEL.out.trans (DB.out.mono hsz)).setCell hg _).setCell hg _
      case measure => simp [intOf]; omega
    · have hk' : k = p.s.length := by omega
      subst hk'
      have z2 := (hbel.cell (p := ⟨w.heap.size, 2, none⟩) (by simp)).trans y2
      have HB3 := Lib.hid (HB2.out.trans (hbel.mono (show w.heap.size ≤ w.heap.size + 1 by omega)))
      have OWN := Lib.hid hown
      clear hown hbel y2
      go_wp2
      go_loopw [40] (fun i wq => ∃ k : Nat, k ≤ p.o.length ∧ i = .int .i64 k ∧ wq.ownsRow (w.heap.size + 1) 3 1 (.slice (some ⟨w1.heap.size, 0, none⟩) R R) R ((cL p.s p.o R p.s.length k).map I) ∧ Below (w.heap.size + 1) wr wq) (fun i _ => p.o.length - (intOf i).toNat)
      case atStart => exact ⟨0, by omega, rfl, OWN.out, Below.refl _ _⟩
      case round =>
        obtain ⟨j, hj, rfl, hown, hbel⟩ := hrel
        by_cases hlt : j < p.o.length
        · obtain ⟨ob, oo, rfl, hob, hoc⟩ := ((H.out.2.below' HB3.out hB).below' hbel (by omega)).int hlt
          obtain ⟨q1, q2⟩ := HOUT.out _ (List.getElem_mem hlt)
          obtain ⟨v, hv⟩ : ∃ v : Nat, p.o[j] = v := ⟨(p.o[j]).toNat, by omega⟩
          have hvR : v < R := by have := HR.out; omega
          have ivR : (v : Int) < (R : Int) := by omega
          have hst : p.o.getD j 0 = (v : Int) := by simp [hlt, hv]
          rw [hv] at hoc
          have u1 := OwI.cellD hown hvR
          rw [cL_at p.s p.o p.s.length j hvR] at u1
          have f1 : wr.frozen? ⟨w1.heap.size, v, none⟩ = false := hown.frozenAt _
          have hown5 := OwI.set (a := v) hown ((usC p.s p.o p.s.length j (v : Int) : Nat) + 1)
          rw [cL_out p.s p.s.length hvR hst] at hown5
          have bc1 := usC_le p.s p.o p.s.length j (v : Int)
          obtain ⟨n1, hn1⟩ : ∃ n, usC p.s p.o p.s.length j (v : Int) = n := ⟨_, rfl⟩
          rw [hn1] at u1 hown5 bc1
          have O5 := Lib.hid hown5
          have BEL := Lib.hid hbel
          have iqj : (j : Int) < (p.o.length : Int) := by omega
          clear hown hbel hown5 hst hv q1 q2 hn1
          go_wp2
          go_roundw
          case rel => exact ⟨j + 1, by omega, by go_num, O5.out, BEL.out.setCell hg _⟩
          case measure => simp [intOf]; omega
        · have hj' : j = p.o.length := by omega
          subst hj'
          have O5 := Lib.hid hown
          have HB4 := Lib.hid (HB3.out.trans (hbel.mono (show w.heap.size ≤ w.heap.size + 1 by omega)))
          clear hown hbel
          go_wp2
          go_ret
          exact ⟨_, _, rfl, own_base O5.out (by omega), HB4.out⟩
end Go.Proofs.Ytlkieebmfmiafaa
