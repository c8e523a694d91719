/- slices.Backward over numbers: what it hands back, and what comes out of it. -/
import Derived.RangeFuncBox
import Derived.RangeFuncLeaves
import Derived.Shelf.Abstract
import Derived.OwnWalkIn
import Derived.TacticsInMore
import Derived.LoopNIn
import Derived.LoopIn
import Derived.Test.YtbohakifjmdoiabDoorQj
namespace Go.Proofs.YtbohakifjmdoiabDoor
open Go.RowKit Go.Shelf

attribute [local go_sem] Oper.semAt_some

/-- What has come when k rounds are over: f of the last index, and on down. -/
def bwd {α : Type} (f : Nat → α) (n k : Nat) : List α := (List.range k).map fun j => f (n - 1 - j)
theorem bwd_succ {α : Type} (f : Nat → α) (n k : Nat) : bwd f n (k + 1) = bwd f n k ++ [f (n - 1 - k)] := by simp [bwd, List.range_succ]
theorem bwd_length {α : Type} (f : Nat → α) (n k : Nat) : (bwd f n k).length = k := by simp [bwd]
/-- The pairs of slices.Backward. -/
def bwZ (zs : List Int) (k : Nat) : List (Nat × Int) := bwd (fun j => (j, zs[j]?.getD 0)) zs.length k
/-- What a round keeps: the blocks below n, and the box of the slice. -/
def KpB (n Bs : Nat) (W W' : World) : Prop := Below n W W' ∧ (Bs < W.heap.size → W'.heap[Bs]? = W.heap[Bs]?)
theorem KpB.refl (n Bs : Nat) (W : World) : KpB n Bs W W := ⟨Below.refl _ _, fun _ => rfl⟩
theorem KpB.trans {n Bs : Nat} {A B C : World} (h : KpB n Bs A B) (h' : KpB n Bs B C) : KpB n Bs A C :=
  ⟨h.1.trans h'.1, fun hl => (h'.2 (Nat.lt_of_lt_of_le hl h.1.size)).trans (h.2 hl)⟩
theorem KpB.cell {n Bs : Nat} {W W' : World} {v : Value} (h : KpB n Bs W W') (hc : W.heap[Bs]? = some (.cells #[v] 22 (0, 0))) : W'.heap[Bs]? = some (.cells #[v] 22 (0, 0)) :=
  (h.2 (Array.getElem?_eq_some_iff.1 hc).1).trans hc

set_option maxRecDepth 100000 in
set_option maxHeartbeats 2000000 in
theorem backward1_in (F : Fence) (n : Nat) (h7 : F.fn 23) (hro : F.round = none) (hn : 1 ≤ n) (l Bs n₀ : Nat) (A : Option Addr) (cap : Nat) (zs : List Int) (hz : zs.length ≤ 1048576) (J Jx : List (Nat × Int) → World → Prop)
    (hY : ∀ pre x W, J pre W → pre.length < zs.length → YieldAt F (n - 1) Tryd.prog l #[.int .i64 (x.1 : Int), .int .i64 x.2] W fun e W' =>
      (e = .returned (.bool true) ∧ J (pre ++ [x]) W' ∧ KpB n₀ Bs W W') ∨ (e = .returned (.bool false) ∧ Jx (pre ++ [x]) W'))
    (W : World) (hBs : W.heap[Bs]? = some (.cells #[.slice A zs.length cap] 22 (0, 0))) (hr : ∀ W', Below n₀ W W' → Rd W' n₀ 1 A zs.length (zs.map I)) (h0 : J [] W) :
    CallsIn F n Tryd.prog 23 #[.func (.yield l) #[] #[], .pointer (some ⟨Bs, 0, none⟩)] W fun e W' => (∃ v, e = .returned v) ∧
      ((∃ ys, ys = bwZ zs zs.length ∧ J ys W') ∨ (∃ pre, (∃ k, k ≤ zs.length ∧ pre = bwZ zs k) ∧ Jx pre W')) := by
  have HB := Lib.hid hBs
  have HR := Lib.hid hr
  have c0 : W.cell? ⟨Bs, 0, none⟩ = some (.slice A zs.length cap) := by rw [cell_of_row W Bs 0 _ _ (0, 0) hBs]; rfl
  clear hBs hr
  refine callsIn_of_wp Tryd.func23 rfl h7 ?_ hro
  simp only [Tryd.ntmps23, List.size_toArray, List.length_cons, List.length_nil, Nat.reduceAdd, Nat.reduceSub, Array.replicate_succ, Array.replicate_zero, List.push_toArray, List.append_toArray, List.nil_append, List.cons_append]
  gi_wp2
  gi_loopw [3] (fun i wr => ∃ k : Nat, k ≤ zs.length ∧ i = .int .i64 ((zs.length : Int) - 1 - k) ∧ J (bwZ zs k) wr ∧ KpB n₀ Bs W wr)
    (fun i _ => (intOf i + 1).toNat)
  case atStart => exact ⟨0, Nat.zero_le _, by simp, h0, KpB.refl _ _ _⟩
  case round =>
    obtain ⟨k, hk, rfl, hJs, hkp⟩ := hrel
    have c1 : wr.cell? ⟨Bs, 0, none⟩ = some (.slice A zs.length cap) := by rw [cell_of_row wr Bs 0 _ _ (0, 0) (hkp.cell HB.out)]; rfl
    have KP := Lib.hid hkp
    clear hkp
    by_cases hlt : k < zs.length
    · obtain ⟨p, hp⟩ : ∃ p : Nat, zs.length - 1 - k = p := ⟨_, rfl⟩
      have ep : (zs.length : Int) - 1 - (k : Int) = (p : Int) := by omega
      have ip : (0 : Int) ≤ (p : Int) := by omega
      have ipl : (p : Int) < (zs.length : Int) := by omega
      have hpl : p < zs.length := by omega
      obtain ⟨b, off, rfl, hb, hcell⟩ := (HR.out wr KP.out.1).int hpl
      have hv : zs[p]?.getD 0 = zs[p] := by simp [hpl]
      obtain ⟨fn, tmps, assign, body, hy, hR⟩ := hY _ (p, zs[p]?.getD 0) wr hJs (by unfold bwZ; rw [bwd_length]; exact hlt)
      dsimp only at hy
      rw [hv] at hy
      have ES := Lib.hid (show bwZ zs (k + 1) = bwZ zs k ++ [(p, zs[p]?.getD 0)] by unfold bwZ; rw [bwd_succ, hp])
      obtain ⟨z, hz⟩ : ∃ z, zs[p] = z := ⟨_, rfl⟩
      rw [hz] at hy hcell
      rw [ep]
      clear hv hz hp
      gi_wp2
      refine hR.mono ?_
      rintro e W3 (⟨rfl, hJ3, hk3⟩ | ⟨rfl, hJx3⟩)
      · gi_wp2
        go_roundw
        case rel => exact ⟨k + 1, by omega, by rw [← ep]; go_num, by rw [ES.out]; exact hJ3, KP.out.trans hk3⟩
        case measure => simp [intOf]
      · gi_wp2
        refine bodyPost_ret (results_none rfl _ _ _) rfl ?_
        exact ⟨⟨_, rfl⟩, .inr ⟨_, ⟨k + 1, by omega, ES.out.symm⟩, hJx3⟩⟩
    · obtain rfl : k = zs.length := by omega
      have ip : ¬ (0 : Int) ≤ (zs.length : Int) - 1 - (zs.length : Int) := by omega
      gi_wp2
      go_end0
      first | exact ⟨⟨_, rfl⟩, .inl ⟨_, rfl, hJs⟩⟩ | exact ⟨⟨_, rfl⟩, .inl hJs⟩

set_option maxHeartbeats 1000000 in
theorem backward_in (F : Fence) (n : Nat) (h5 : F.fn 15) (hro : F.round = none) (a : Option Addr) (len cap : Nat) (w : World) :
    CallsIn F n Tryd.prog 15 #[.slice a len cap] w fun e w' => e = .returned (.func (.func 23) #[] #[.pointer (some ⟨w.heap.size, 0, none⟩)]) ∧ w' = w.alloc (.cells #[.slice a len cap] 22) := by
  refine callsIn_of_wp Tryd.func15 rfl h5 ?_ hro
  simp only [Tryd.ntmps15, List.size_toArray, List.length_cons, List.length_nil, Nat.reduceAdd, Nat.reduceSub, Array.replicate_succ, Array.replicate_zero, List.push_toArray, List.append_toArray, List.nil_append, List.cons_append]
  gi_wp2
  go_ret
  exact ⟨rfl, rfl⟩

/-- What slices.Backward hands back: all pairs from the last one down, or the first k of them. -/
theorem backward_stops (F : Fence) (n : Nat) (h7 : F.fn 23) (hro : F.round = none) (hn : 1 ≤ n) (Bs n₀ : Nat) (A : Option Addr) (cap : Nat) (zs : List Int) (hz : zs.length ≤ 1048576) (w : World) (hn₀ : n₀ ≤ w.heap.size)
    (hc : w.heap[Bs]? = some (.cells #[.slice A zs.length cap] 22 (0, 0))) (hr : ∀ W', Below n₀ w W' → Rd W' n₀ 1 A zs.length (zs.map I)) :
    SeqStopsK F n Tryd.prog 23 #[.pointer (some ⟨Bs, 0, none⟩)] (fun x : Nat × Int => #[Value.int .i64 (x.1 : Int), Value.int .i64 x.2]) (KpB n₀ Bs) (fun ys => ys = bwZ zs zs.length)
      (fun pre => ∃ k, k ≤ zs.length ∧ pre = bwZ zs k) zs.length w := fun l J Jx W hW _ _ hY h0 =>
  backward1_in F n h7 hro hn l Bs n₀ A cap zs hz J Jx hY W ((hW.block Bs (Array.getElem?_eq_some_iff.1 hc).1).trans hc) (fun W' h => hr W' ((hW.mono hn₀).trans h)) h0
theorem kpB_t {n Bs : Nat} : ∀ {A B C : World}, KpB n Bs A B → KpB n Bs B C → KpB n Bs A C := fun h h' => h.trans h'
theorem kpB_b {w : World} {n Bs : Nat} (hn : n ≤ w.heap.size) (hB : Bs < w.heap.size) : ∀ (W : World) (l : Nat) (o o' : Obj), w.heap.size ≤ l → W.heap[l]? = some o → o.isCells = false → o.isWalk = false → KpB n Bs W (W.putObj l o') := fun W l o o' hl ho h1 h2 =>
  ⟨belowK_b hn W l o o' hl ho h1 h2, fun _ => World.putObj_heap_other (by omega)⟩
end Go.Proofs.YtbohakifjmdoiabDoor
