/- slices.Backward over bytes, told by their places alone: what comes is what stands in the list. -/
import Derived.Test.YtbohakifjmdoiabDoorN9x
namespace Go.Proofs.YtbohakifjmdoiabDoor
open Go.RowKit Go.Shelf

attribute [local go_sem] Oper.semAt_some

/-- What a round keeps: the blocks below n, the row and the box of the slice. -/
def Kp2 (n Rb Bs : Nat) (W W' : World) : Prop := Below n W W' ∧ (Rb < W.heap.size → W'.heap[Rb]? = W.heap[Rb]?) ∧ (Bs < W.heap.size → W'.heap[Bs]? = W.heap[Bs]?)
theorem Kp2.refl (n Rb Bs : Nat) (W : World) : Kp2 n Rb Bs W W := ⟨Below.refl _ _, fun _ => rfl, fun _ => rfl⟩
theorem Kp2.trans {n Rb Bs : Nat} {A B C : World} (h : Kp2 n Rb Bs A B) (h' : Kp2 n Rb Bs B C) : Kp2 n Rb Bs A C :=
  ⟨h.1.trans h'.1, fun hl => (h'.2.1 (Nat.lt_of_lt_of_le hl h.1.size)).trans (h.2.1 hl), fun hl => (h'.2.2 (Nat.lt_of_lt_of_le hl h.1.size)).trans (h.2.2 hl)⟩
theorem kp2_t {n Rb Bs : Nat} : ∀ {A B C : World}, Kp2 n Rb Bs A B → Kp2 n Rb Bs B C → Kp2 n Rb Bs A C := fun h h' => h.trans h'
theorem kp2_b {w : World} {n Rb Bs : Nat} (hn : n ≤ w.heap.size) (hR : Rb < w.heap.size) (hB : Bs < w.heap.size) : ∀ (W : World) (l : Nat) (o o' : Obj), w.heap.size ≤ l → W.heap[l]? = some o → o.isCells = false → o.isWalk = false → Kp2 n Rb Bs W (W.putObj l o') := fun W l o o' hl ho h1 h2 =>
  ⟨belowK_b hn W l o o' hl ho h1 h2, fun _ => World.putObj_heap_other (by omega), fun _ => World.putObj_heap_other (by omega)⟩
theorem Rd.u8 {w : World} {B : Nat} {A : Option Addr} {l : List Int} (h : Rd w B 1 A l.length (l.map (Value.int .u8))) {k : Nat} (hk : k < l.length) :
    ∃ b off, A = some ⟨b, off, none⟩ ∧ b < B ∧ w.cell? ⟨b, off + k, none⟩ = some (.int .u8 l[k]) := by
  obtain ⟨b, off, hA, hb, hc⟩ := h.2 (by omega)
  refine ⟨b, off, hA, hb, ?_⟩
  rw [hc k (by omega)]
  simp [hk]
theorem backwardU_in (F : Fence) (n : Nat) (h5 : F.fn 18) (hro : F.round = none) (a : Option Addr) (len cap : Nat) (w : World) :
    CallsIn F n Tryd.prog 18 #[.slice a len cap] w fun e w' => e = .returned (.func (.func 24) #[] #[.pointer (some ⟨w.heap.size, 0, none⟩)]) ∧ w' = w.alloc (.cells #[.slice a len cap] 33) := by
  refine callsIn_of_wp Tryd.func18 rfl h5 ?_ hro
  simp only [Tryd.ntmps18, List.size_toArray, List.length_cons, List.length_nil, Nat.reduceAdd, Nat.reduceSub, Array.replicate_succ, Array.replicate_zero, List.push_toArray, List.append_toArray, List.nil_append, List.cons_append]
  gi_wp2
  go_ret
  exact ⟨rfl, rfl⟩

set_option maxRecDepth 100000 in
set_option maxHeartbeats 2000000 in
theorem backU1_in (F : Fence) (n : Nat) (h7 : F.fn 24) (hro : F.round = none) (hn : 1 ≤ n) (l Rb Bs n₀ : Nat) (A : Option Addr) (cap : Nat) (zs : List Int) (hz : zs.length ≤ 1048576) (J Jx : List Nat → World → Prop)
    (hY : ∀ (pre : List Nat) (x : Nat) (W : World), J pre W → pre.length < zs.length → YieldAt F (n - 1) Tryd.prog l #[.int .i64 (x : Int), .int .u8 (zs.getD x 0)] W fun e W' =>
      (e = .returned (.bool true) ∧ J (pre ++ [x]) W' ∧ Kp2 n₀ Rb Bs W W') ∨ (e = .returned (.bool false) ∧ Jx (pre ++ [x]) W'))
    (W : World) (hBs : W.heap[Bs]? = some (.cells #[.slice A zs.length cap] 33 (0, 0))) (hRb : Rb < W.heap.size) (hr : ∀ W', W'.heap[Rb]? = W.heap[Rb]? → Rd W' (Rb + 1) 1 A zs.length (zs.map (Value.int .u8))) (h0 : J [] W) :
    CallsIn F n Tryd.prog 24 #[.func (.yield l) #[] #[], .pointer (some ⟨Bs, 0, none⟩)] W fun e W' => (∃ v, e = .returned v) ∧
      ((∃ ys, ys = bwI zs.length zs.length ∧ J ys W') ∨ (∃ pre, (∃ k, k ≤ zs.length ∧ pre = bwI zs.length k) ∧ Jx pre W')) := by
  have HB := Lib.hid hBs
  have HR := Lib.hid hr
  have HBl := Lib.hid (Array.getElem?_eq_some_iff.1 hBs).1
  have c0 : W.cell? ⟨Bs, 0, none⟩ = some (.slice A zs.length cap) := by rw [cell_of_row W Bs 0 _ _ (0, 0) hBs]; rfl
  clear hBs hr
  refine callsIn_of_wp Tryd.func24 rfl h7 ?_ hro
  simp only [Tryd.ntmps24, List.size_toArray, List.length_cons, List.length_nil, Nat.reduceAdd, Nat.reduceSub, Array.replicate_succ, Array.replicate_zero, List.push_toArray, List.append_toArray, List.nil_append, List.cons_append]
  gi_wp2
  gi_loopw [3] (fun i wr => ∃ k : Nat, k ≤ zs.length ∧ i = .int .i64 ((zs.length : Int) - 1 - k) ∧ J (bwI zs.length k) wr ∧ Kp2 n₀ Rb Bs W wr)
    (fun i _ => (intOf i + 1).toNat)
  case atStart => exact ⟨0, Nat.zero_le _, by simp, h0, Kp2.refl _ _ _ _⟩
  case round =>
    obtain ⟨k, hk, rfl, hJs, hkp⟩ := hrel
    have c1 : wr.cell? ⟨Bs, 0, none⟩ = some (.slice A zs.length cap) := by rw [cell_of_row wr Bs 0 _ _ (0, 0) ((hkp.2.2 HBl.out).trans HB.out)]; rfl
    have KP := Lib.hid hkp
    clear hkp
    by_cases hlt : k < zs.length
    · obtain ⟨p, hp⟩ : ∃ p : Nat, zs.length - 1 - k = p := ⟨_, rfl⟩
      have ep : (zs.length : Int) - 1 - (k : Int) = (p : Int) := by omega
      have ip : (0 : Int) ≤ (p : Int) := by omega
      have ipl : (p : Int) < (zs.length : Int) := by omega
      have hpl : p < zs.length := by omega
      obtain ⟨b, off, rfl, hb, hcell⟩ := (HR.out wr (KP.out.2.1 hRb)).u8 hpl
      have hv : zs.getD p 0 = zs[p] := by simp [hpl]
      obtain ⟨fn, tmps, assign, body, hy, hR⟩ := hY _ p wr hJs (by unfold bwI; rw [bwd_length]; exact hlt)
      rw [hv] at hy
      have ES := Lib.hid (show bwI zs.length (k + 1) = bwI zs.length k ++ [p] by unfold bwI; rw [bwd_succ, hp])
      obtain ⟨z, hz⟩ : ∃ z, zs[p] = z := ⟨_, rfl⟩
      rw [hz] at hy hcell
      rw [ep]
      clear hv hz hp
      gi_wp2
      refine hR.mono ?_
      rintro e W3 (⟨rfl, hJ3, hk3⟩ | ⟨rfl, hJx3⟩)
      · gi_wp2
        go_roundw
        case rel => exact ⟨k + 1, by omega, by rw [← ep]; go_num, by rw [ES.out]; exact hJ3, KP.out.trans hk3⟩
        case measure => simp [intOf]
      · gi_wp2
        refine bodyPost_ret (results_none rfl _ _ _) rfl ?_
        exact ⟨⟨_, rfl⟩, .inr ⟨_, ⟨k + 1, by omega, ES.out.symm⟩, hJx3⟩⟩
    · obtain rfl : k = zs.length := by omega
      have ip : ¬ (0 : Int) ≤ (zs.length : Int) - 1 - (zs.length : Int) := by omega
      gi_wp2
      go_end0
      first | exact ⟨⟨_, rfl⟩, .inl ⟨_, rfl, hJs⟩⟩ | exact ⟨⟨_, rfl⟩, .inl hJs⟩

/-- What slices.Backward hands back: all pairs from the last one down, or the first k of them. -/
theorem backU_stops (F : Fence) (n : Nat) (h7 : F.fn 24) (hro : F.round = none) (hn : 1 ≤ n) (Rb Bs n₀ : Nat) (A : Option Addr) (cap : Nat) (zs : List Int) (hz : zs.length ≤ 1048576) (w : World) (_hn₀ : n₀ ≤ w.heap.size)
    (hc : w.heap[Bs]? = some (.cells #[.slice A zs.length cap] 33 (0, 0))) (hRb : Rb < w.heap.size) (hr : ∀ W', W'.heap[Rb]? = w.heap[Rb]? → Rd W' (Rb + 1) 1 A zs.length (zs.map (Value.int .u8))) :
    SeqStopsK F n Tryd.prog 24 #[.pointer (some ⟨Bs, 0, none⟩)] (fun x : Nat => #[Value.int .i64 (x : Int), Value.int .u8 (zs.getD x 0)]) (Kp2 n₀ Rb Bs) (fun ys => ys = bwI zs.length zs.length)
      (fun pre => ∃ k, k ≤ zs.length ∧ pre = bwI zs.length k) zs.length w := fun l J Jx W hW _ _ hY h0 =>
  backU1_in F n h7 hro hn l Rb Bs n₀ A cap zs hz J Jx hY W ((hW.block Bs (Array.getElem?_eq_some_iff.1 hc).1).trans hc) (Nat.lt_of_lt_of_le hRb hW.size) (fun W' h => hr W' (h.trans (hW.block Rb hRb))) h0
end Go.Proofs.YtbohakifjmdoiabDoor
