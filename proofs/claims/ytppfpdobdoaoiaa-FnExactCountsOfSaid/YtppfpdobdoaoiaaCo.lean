/- Squarings and other steps, of the model and of the program. -/
import Derived.Test.YtppfpdobdoaoiaaEa
namespace Go.Proofs.Ytppfpdobdoaoiaa
open Go.RowKit

def sqs (s : List (Int × Int)) (k : Nat) : Nat := (s.take k).countP fun st => st.1 == st.2
def cntA (p : Pl) : Int := if good p then (sqs p.s p.s.length : Int) else 0
def cntB (p : Pl) : Int := if good p then (p.s.length : Int) - (sqs p.s p.s.length : Int) else 0
theorem sqs_le (s : List (Int × Int)) (k : Nat) : sqs s k ≤ s.length := by
  unfold sqs
  exact Nat.le_trans List.countP_le_length (by simp; omega)
theorem sqs_hit {s : List (Int × Int)} {k : Nat} (hk : k < s.length) (h : (s[k]).1 = (s[k]).2) : sqs s (k + 1) = sqs s k + 1 := by
  unfold sqs
  rw [List.take_succ_eq_append_getElem hk, List.countP_append]
  simp [h]
theorem sqs_miss {s : List (Int × Int)} {k : Nat} (hk : k < s.length) (h : ¬ (s[k]).1 = (s[k]).2) : sqs s (k + 1) = sqs s k := by
  unfold sqs
  rw [List.take_succ_eq_append_getElem hk, List.countP_append]
  simp [h]

set_option maxRecDepth 100000 in
set_option maxHeartbeats 2000000 in
theorem specCounts_any (B : Nat) (A1 A2 : Option Addr) (c1 c2 : Nat) (p : Pl) (w : World) (hB : B ≤ w.heap.size) (hls : p.s.length ≤ 2000000) (hlo : p.o.length ≤ 2000000) (hr : RdP w B A1 A2 p) :
    Calls Try.prog 38 #[.agg #[.int .i64 p.n, .slice A1 p.s.length c1, .slice A2 p.o.length c2]] w fun e w' => e = .returned (.tuple #[.int .i64 (cntA p), .int .i64 (cntB p), .bool (good p)]) ∧ Below w.heap.size w w' := by
  have H := Lib.hid hr
  clear hr
  obtain ⟨gd, hgd⟩ : ∃ x, good p = x := ⟨_, rfl⟩
  have HG := Lib.hid hgd
  go_enter Try.func38, Try.ntmps38
  go_wp2_with fail
  go_at_call 59
  generalize hw1 : World.alloc w _ = w1
  obtain ⟨x0, x1, x2, xs, xb⟩ := box3 hw1
  clear hw1
  have hC := plGood_any w.heap.size A1 A2 c1 c2 p w1 (by omega) hls hlo ((H.out.below' xb hB).more hB)
  rw [hgd] at hC
  refine hC.mono ?_
  rintro e w2 ⟨rfl, hb2⟩
  clear hC hgd
  have y1 := (hb2.cell (p := ⟨w.heap.size, 1, none⟩) (by simp only []; omega)).trans x1
  have HB2 := Lib.hid (xb.trans (hb2.mono (show w.heap.size ≤ w1.heap.size by omega)))
  have hs2 : w.heap.size + 1 ≤ w2.heap.size := by have := hb2.size; omega
  clear x0 x1 x2 xs xb hb2
  cases gd with
  | false =>
    have ea : cntA p = 0 := by simp [cntA, HG.out]
    have eb : cntB p = 0 := by simp [cntB, HG.out]
    have EA := Lib.hid ea
    have EB := Lib.hid eb
    clear ea eb
    go_wp2
    go_ret3
    exact ⟨by rw [EA.out, EB.out, HG.out]; rfl, HB2.out⟩
  | true =>
    have ea : cntA p = sqs p.s p.s.length := by simp [cntA, HG.out]
    have eb : cntB p = IntKind.i64.wrap (p.s.length - sqs p.s p.s.length) := by
      have hq := sqs_le p.s p.s.length
      have hw : IntKind.i64.wrap ((p.s.length : Int) - (sqs p.s p.s.length : Int)) = (p.s.length : Int) - (sqs p.s p.s.length : Int) := by
        exact IntWalk.i64_in _ (by omega)
      rw [hw]
      simp [cntB, HG.out]
    have EA := Lib.hid ea
    have EB := Lib.hid eb
    clear ea eb
    go_wp2
    go_loopw [5, 14] (fun a i wr => ∃ k : Nat, k ≤ p.s.length ∧ i = .int .i64 k ∧ a = .int .i64 (sqs p.s k) ∧ Below (w.heap.size + 1) w2 wr) (fun _ i _ => p.s.length - (intOf i).toNat)
    case atStart => exact ⟨0, by omega, rfl, rfl, Below.refl _ _⟩
    case round =>
      obtain ⟨k, hk, rfl, rfl, hbel⟩ := hrel
      have bd := sqs_le p.s k
      by_cases hlt : k < p.s.length
      · obtain ⟨b, off, rfl, hb, hc1, hc2⟩ := ((H.out.below' HB2.out hB).below' hbel (show B ≤ w.heap.size + 1 by omega)).1.stp hlt
        have BEL := Lib.hid hbel
        clear hbel
        by_cases he : (p.s[k]).1 = (p.s[k]).2
        · have hq : ((p.s[k]).1 == (p.s[k]).2) = true := by simpa using he
          have hS := sqs_hit hlt he
          have HS := Lib.hid hS
          clear hS he
          go_wp2
          go_roundw
          case rel => exact ⟨k + 1, by omega, by go_num, by rw [HS.out]; go_num, BEL.out.alloc (by have := BEL.out.size; omega) _⟩
          case measure => simp [intOf]; omega
        · have hq : ((p.s[k]).1 == (p.s[k]).2) = false := by simpa using he
          have hS := sqs_miss hlt he
          have HS := Lib.hid hS
          clear hS he
          go_wp2
          go_roundw
          case rel => exact ⟨k + 1, by omega, by go_num, by rw [HS.out], BEL.out.alloc (by have := BEL.out.size; omega) _⟩
          case measure => simp [intOf]; omega
      · have hk' : k = p.s.length := by omega
        subst hk'
        have z1 := (hbel.cell (p := ⟨w.heap.size, 1, none⟩) (by simp)).trans y1
        have HB3 := Lib.hid (HB2.out.trans (hbel.mono (show w.heap.size ≤ w.heap.size + 1 by omega)))
        clear hbel y1
        go_wp2
        refine wp_region_Tw [0, 1, 2, 3, 4, 5, 6, 7, 8] [2] (.lp 0 (.lp 1 (.lp 4 (.lp 6 (.ls 2 (.lp 3 (.lp 5 (.lp 7 (.lp 8 (.done)))))))))) (by kernel_rfl) (by kernel_rfl) ?_
        (repeat (first | (refine T_lp rfl (fun K hK => ?_); go_simp; refine hK _ ?_; clear hK K) | (refine T_ls rfl rfl (fun K hK => ?_); go_simp; refine hK _ ?_; clear hK K)))
        refine T_done ?_
        go_wp2
        go_ret3
        exact ⟨by rw [EA.out, EB.out, HG.out]; rfl, HB3.out.drew⟩

set_option maxRecDepth 100000 in
set_option maxHeartbeats 2000000 in
theorem implCounts_any (B : Nat) (A1 A2 : Option Addr) (c1 c2 : Nat) (p : Pl) (w : World) (hB : B ≤ w.heap.size) (hls : p.s.length ≤ 2000000) (hlo : p.o.length ≤ 2000000) (hr : RdP w B A1 A2 p) :
    Calls Try.prog 39 #[.agg #[.int .i64 p.n, .slice A1 p.s.length c1, .slice A2 p.o.length c2]] w fun e w' => e = .returned (.tuple #[.int .i64 (cntA p), .int .i64 (cntB p), .bool (good p)]) ∧ Below w.heap.size w w' := by
  have H := Lib.hid hr
  clear hr
  obtain ⟨gd, hgd⟩ : ∃ x, good p = x := ⟨_, rfl⟩
  have HG := Lib.hid hgd
  go_enter Try.func39, Try.ntmps39
  go_wp2_with fail
  go_at_call 24
  generalize hw1 : World.alloc w _ = w1
  obtain ⟨x0, x1, x2, xs, xb⟩ := box3 hw1
  clear hw1
  have hC := implIsPlan_any w.heap.size A1 A2 c1 c2 p w1 (by omega) hls hlo ((H.out.below' xb hB).more hB)
  rw [hgd] at hC
  refine hC.mono ?_
  rintro e w2 ⟨rfl, hb2⟩
  clear hC hgd
  have y1 := (hb2.cell (p := ⟨w.heap.size, 1, none⟩) (by simp only []; omega)).trans x1
  have HB2 := Lib.hid (xb.trans (hb2.mono (show w.heap.size ≤ w1.heap.size by omega)))
  have hs2 : w.heap.size + 1 ≤ w2.heap.size := by have := hb2.size; omega
  clear x0 x1 x2 xs xb hb2
  cases gd with
  | false =>
    have ea : cntA p = 0 := by simp [cntA, HG.out]
    have eb : cntB p = 0 := by simp [cntB, HG.out]
    have EA := Lib.hid ea
    have EB := Lib.hid eb
    clear ea eb
    go_wp2
    go_ret3
    exact ⟨by rw [EA.out, EB.out, HG.out]; rfl, HB2.out⟩
  | true =>
    have ea : cntA p = sqs p.s p.s.length := by simp [cntA, HG.out]
    have eb : cntB p = IntKind.i64.wrap (p.s.length - sqs p.s p.s.length) := by
      have hq := sqs_le p.s p.s.length
      have hw : IntKind.i64.wrap ((p.s.length : Int) - (sqs p.s p.s.length : Int)) = (p.s.length : Int) - (sqs p.s p.s.length : Int) := by
        exact IntWalk.i64_in _ (by omega)
      rw [hw]
      simp [cntB, HG.out]
    have EA := Lib.hid ea
    have EB := Lib.hid eb
    clear ea eb
    go_wp2
    go_loopw [5, 14] (fun a i wr => ∃ k : Nat, k ≤ p.s.length ∧ i = .int .i64 k ∧ a = .int .i64 (sqs p.s k) ∧ Below (w.heap.size + 1) w2 wr) (fun _ i _ => p.s.length - (intOf i).toNat)
    case atStart => exact ⟨0, by omega, rfl, rfl, Below.refl _ _⟩
    case round =>
      obtain ⟨k, hk, rfl, rfl, hbel⟩ := hrel
      have bd := sqs_le p.s k
      by_cases hlt : k < p.s.length
      · obtain ⟨b, off, rfl, hb, hc1, hc2⟩ := ((H.out.below' HB2.out hB).below' hbel (show B ≤ w.heap.size + 1 by omega)).1.stp hlt
        have BEL := Lib.hid hbel
        clear hbel
        by_cases he : (p.s[k]).1 = (p.s[k]).2
        · have hq : ((p.s[k]).1 == (p.s[k]).2) = true := by simpa using he
          have hS := sqs_hit hlt he
          have HS := Lib.hid hS
          clear hS he
          go_wp2
          go_roundw
          case rel => exact ⟨k + 1, by omega, by go_num, by rw [HS.out]; go_num, BEL.out.alloc (by have := BEL.out.size; omega) _⟩
          case measure => simp [intOf]; omega
        · have hq : ((p.s[k]).1 == (p.s[k]).2) = false := by simpa using he
          have hS := sqs_miss hlt he
          have HS := Lib.hid hS
          clear hS he
          go_wp2
          go_roundw
          case rel => exact ⟨k + 1, by omega, by go_num, by rw [HS.out], BEL.out.alloc (by have := BEL.out.size; omega) _⟩
          case measure => simp [intOf]; omega
      · have hk' : k = p.s.length := by omega
        subst hk'
        have z1 := (hbel.cell (p := ⟨w.heap.size, 1, none⟩) (by simp)).trans y1
        have HB3 := Lib.hid (HB2.out.trans (hbel.mono (show w.heap.size ≤ w.heap.size + 1 by omega)))
        clear hbel y1
        go_wp2
        refine wp_region_Tw [0, 1, 2, 3, 4, 5, 6, 7, 8] [2] (.lp 0 (.lp 1 (.lp 4 (.lp 6 (.ls 2 (.lp 3 (.lp 5 (.lp 7 (.lp 8 (.done)))))))))) (by kernel_rfl) (by kernel_rfl) ?_
        (repeat (first | (refine T_lp rfl (fun K hK => ?_); go_simp; refine hK _ ?_; clear hK K) | (refine T_ls rfl rfl (fun K hK => ?_); go_simp; refine hK _ ?_; clear hK K)))
        refine T_done ?_
        go_wp2
        go_ret3
        exact ⟨by rw [EA.out, EB.out, HG.out]; rfl, HB3.out.drew⟩
end Go.Proofs.Ytppfpdobdoaoiaa
