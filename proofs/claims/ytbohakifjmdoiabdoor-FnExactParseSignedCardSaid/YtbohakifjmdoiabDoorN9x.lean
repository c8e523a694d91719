/- slices.Backward over numbers, told by their places alone: what comes is what stands in the list. -/
import Derived.Test.YtbohakifjmdoiabDoorBw
namespace Go.Proofs.YtbohakifjmdoiabDoor
open Go.RowKit Go.Shelf

attribute [local go_sem] Oper.semAt_some

def bwI (n k : Nat) : List Nat := bwd (fun j => j) n k
set_option maxRecDepth 100000 in
set_option maxHeartbeats 2000000 in
theorem backI1_in (F : Fence) (n : Nat) (h7 : F.fn 23) (hro : F.round = none) (hn : 1 ≤ n) (l Bs n₀ : Nat) (A : Option Addr) (cap : Nat) (zs : List Int) (hz : zs.length ≤ 1048576) (J Jx : List Nat → World → Prop)
    (hY : ∀ (pre : List Nat) (x : Nat) (W : World), J pre W → pre.length < zs.length → YieldAt F (n - 1) Tryd.prog l #[.int .i64 (x : Int), .int .i64 (zs.getD x 0)] W fun e W' =>
      (e = .returned (.bool true) ∧ J (pre ++ [x]) W' ∧ KpB n₀ Bs W W') ∨ (e = .returned (.bool false) ∧ Jx (pre ++ [x]) W'))
    (W : World) (hBs : W.heap[Bs]? = some (.cells #[.slice A zs.length cap] 22 (0, 0))) (hr : ∀ W', Below n₀ W W' → Rd W' n₀ 1 A zs.length (zs.map I)) (h0 : J [] W) :
    CallsIn F n Tryd.prog 23 #[.func (.yield l) #[] #[], .pointer (some ⟨Bs, 0, none⟩)] W fun e W' => (∃ v, e = .returned v) ∧
      ((∃ ys, ys = bwI zs.length zs.length ∧ J ys W') ∨ (∃ pre, (∃ k, k ≤ zs.length ∧ pre = bwI zs.length k) ∧ Jx pre W')) := by
  have HB := Lib.hid hBs
  have HR := Lib.hid hr
  have c0 : W.cell? ⟨Bs, 0, none⟩ = some (.slice A zs.length cap) := by rw [cell_of_row W Bs 0 _ _ (0, 0) hBs]; rfl
  clear hBs hr
  refine callsIn_of_wp Tryd.func23 rfl h7 ?_ hro
  simp only [Tryd.ntmps23, List.size_toArray, List.length_cons, List.length_nil, Nat.reduceAdd, Nat.reduceSub, Array.replicate_succ, Array.replicate_zero, List.push_toArray, List.append_toArray, List.nil_append, List.cons_append]
  gi_wp2
  gi_loopw [3] (fun i wr => ∃ k : Nat, k ≤ zs.length ∧ i = .int .i64 ((zs.length : Int) - 1 - k) ∧ J (bwI zs.length k) wr ∧ KpB n₀ Bs W wr)
    (fun i _ => (intOf i + 1).toNat)
  case atStart => exact ⟨0, Nat.zero_le _, by simp, h0, KpB.refl _ _ _⟩
  case round =>
    obtain ⟨k, hk, rfl, hJs, hkp⟩ := hrel
    have c1 : wr.cell? ⟨Bs, 0, none⟩ = some (.slice A zs.length cap) := by rw [cell_of_row wr Bs 0 _ _ (0, 0) (hkp.cell HB.out)]; rfl
    have KP := Lib.hid hkp
    clear hkp
    by_cases hlt : k < zs.length
    · obtain ⟨p, hp⟩ : ∃ p : Nat, zs.length - 1 - k = p := ⟨_, rfl⟩
      have ep : (zs.length : Int) - 1 - (k : Int) = (p : Int) := by omega
      have ip : (0 : Int) ≤ (p : Int) := by omega
      have ipl : (p : Int) < (zs.length : Int) := by omega
      have hpl : p < zs.length := by omega
      obtain ⟨b, off, rfl, hb, hcell⟩ := (HR.out wr KP.out.1).int hpl
      have hv : zs.getD p 0 = zs[p] := by simp [hpl]
      obtain ⟨fn, tmps, assign, body, hy, hR⟩ := hY _ p wr hJs (by unfold bwI; rw [bwd_length]; exact hlt)
      rw [hv] at hy
      have ES := Lib.hid (show bwI zs.length (k + 1) = bwI zs.length k ++ [p] by unfold bwI; rw [bwd_succ, hp])
      obtain ⟨z, hz⟩ : ∃ z, zs[p] = z := ⟨_, rfl⟩
      rw [hz] at hy hcell
      rw [ep]
      clear hv hz hp
      gi_wp2
      refine hR.mono ?_
      rintro e W3 (⟨rfl, hJ3, hk3⟩ | ⟨rfl, hJx3⟩)
      · gi_wp2
        go_roundw
        case rel => exact ⟨k + 1, by omega, by rw [← ep]; go_num, by rw [ES.out]; exact hJ3, KP.out.trans hk3⟩
        case measure => simp [intOf]
      · gi_wp2
        refine bodyPost_ret (results_none rfl _ _ _) rfl ?_
        exact ⟨⟨_, rfl⟩, .inr ⟨_, ⟨k + 1, by omega, ES.out.symm⟩, hJx3⟩⟩
    · obtain rfl : k = zs.length := by omega
      have ip : ¬ (0 : Int) ≤ (zs.length : Int) - 1 - (zs.length : Int) := by omega
      gi_wp2
      go_end0
      first | exact ⟨⟨_, rfl⟩, .inl ⟨_, rfl, hJs⟩⟩ | exact ⟨⟨_, rfl⟩, .inl hJs⟩

/-- What slices.Backward hands back: all pairs from the last one down, or the first k of them. -/
theorem backI_stops (F : Fence) (n : Nat) (h7 : F.fn 23) (hro : F.round = none) (hn : 1 ≤ n) (Bs n₀ : Nat) (A : Option Addr) (cap : Nat) (zs : List Int) (hz : zs.length ≤ 1048576) (w : World) (hn₀ : n₀ ≤ w.heap.size)
    (hc : w.heap[Bs]? = some (.cells #[.slice A zs.length cap] 22 (0, 0))) (hr : ∀ W', Below n₀ w W' → Rd W' n₀ 1 A zs.length (zs.map I)) :
    SeqStopsK F n Tryd.prog 23 #[.pointer (some ⟨Bs, 0, none⟩)] (fun x : Nat => #[Value.int .i64 (x : Int), Value.int .i64 (zs.getD x 0)]) (KpB n₀ Bs) (fun ys => ys = bwI zs.length zs.length)
      (fun pre => ∃ k, k ≤ zs.length ∧ pre = bwI zs.length k) zs.length w := fun l J Jx W hW _ _ hY h0 =>
  backI1_in F n h7 hro hn l Bs n₀ A cap zs hz J Jx hY W ((hW.block Bs (Array.getElem?_eq_some_iff.1 hc).1).trans hc) (fun W' h => hr W' ((hW.mono hn₀).trans h)) h0
end Go.Proofs.YtbohakifjmdoiabDoor
