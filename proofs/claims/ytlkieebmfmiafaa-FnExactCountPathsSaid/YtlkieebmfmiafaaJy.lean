/- slices.Backward over steps: what it hands back, and what comes out of it. -/
import Derived.RangeFuncBox
import Derived.RangeFuncLeaves
import Derived.RangeFuncNested
import Derived.Shelf.Abstract
import Derived.OwnWalkIn
import Derived.TacticsInMore
import Derived.LoopNIn
import Derived.LoopIn
import Derived.Test.YtlkieebmfmiafaaJp
namespace Go.Proofs.Ytlkieebmfmiafaa
open Go.RowKit Go.Shelf

attribute [local go_sem] Oper.semAt_some

/-- The last indices, from the greatest one down. -/
def dwn (n k : Nat) : List (Fin n) := ((List.finRange n).reverse).take k
theorem dwn_succ {n k : Nat} (h : k < n) : dwn n (k + 1) = dwn n k ++ [⟨n - 1 - k, by omega⟩] := by
  unfold dwn
  have hl : k < (List.finRange n).reverse.length := by simpa using h
  rw [List.take_succ_eq_append_getElem hl]
  congr 1
  rw [List.getElem_reverse]
  simp
theorem dwn_len {n k : Nat} (h : k ≤ n) : (dwn n k).length = k := by
  unfold dwn
  simp
  omega
def stE (s : List (Int × Int)) (i : Fin s.length) : Array Value := #[Value.int .i64 ((i.val : Nat) : Int), .agg #[.int .i64 (s[i.val]).1, .int .i64 (s[i.val]).2]]
/-- What a round keeps: the blocks below n, and the box of the slice. -/
def KpD (n Bs : Nat) (W W' : World) : Prop := Below n W W' ∧ (Bs < W.heap.size → W'.heap[Bs]? = W.heap[Bs]?)
theorem KpD.refl (n Bs : Nat) (W : World) : KpD n Bs W W := ⟨Below.refl _ _, fun _ => rfl⟩
theorem KpD.trans {n Bs : Nat} {A B C : World} (h : KpD n Bs A B) (h' : KpD n Bs B C) : KpD n Bs A C :=
  ⟨h.1.trans h'.1, fun hl => (h'.2 (Nat.lt_of_lt_of_le hl h.1.size)).trans (h.2 hl)⟩
theorem KpD.cell {n Bs : Nat} {W W' : World} {v : Value} {t : TypeId} (h : KpD n Bs W W') (hc : W.heap[Bs]? = some (.cells #[v] t (0, 0))) : W'.heap[Bs]? = some (.cells #[v] t (0, 0)) :=
  (h.2 (Array.getElem?_eq_some_iff.1 hc).1).trans hc
theorem kpD_t {n Bs : Nat} : ∀ {A B C : World}, KpD n Bs A B → KpD n Bs B C → KpD n Bs A C := fun h h' => h.trans h'
theorem kpD_b {w : World} {n Bs : Nat} (hn : n ≤ w.heap.size) (hB : Bs < w.heap.size) : ∀ (W : World) (l : Nat) (o o' : Obj), w.heap.size ≤ l → W.heap[l]? = some o → o.isCells = false → o.isWalk = false → KpD n Bs W (W.putObj l o') := fun W l o o' hl ho h1 h2 =>
  ⟨belowK_b hn W l o o' hl ho h1 h2, fun _ => World.putObj_heap_other (by omega)⟩

set_option maxRecDepth 100000 in
set_option maxHeartbeats 2000000 in
theorem backStep1_in (F : Fence) (n : Nat) (h7 : F.fn 133) (hro : F.round = none) (hn : 1 ≤ n) (l Bs n₀ : Nat) (A : Option Addr) (cap : Nat) (s : List (Int × Int)) (hz : s.length ≤ 1048576) (J Jx : List (Fin s.length) → World → Prop)
    (hY : ∀ pre x W, J pre W → pre.length < s.length → YieldAt F (n - 1) Try.prog l (stE s x) W fun e W' =>
      (e = .returned (.bool true) ∧ J (pre ++ [x]) W' ∧ KpD n₀ Bs W W') ∨ (e = .returned (.bool false) ∧ Jx (pre ++ [x]) W'))
    (W : World) (hBs : W.heap[Bs]? = some (.cells #[.slice A s.length cap] 29 (0, 0))) (hr : ∀ W', Below n₀ W W' → Rd W' n₀ 2 A s.length (fl s)) (h0 : J [] W) :
    CallsIn F n Try.prog 133 #[.func (.yield l) #[] #[], .pointer (some ⟨Bs, 0, none⟩)] W fun e W' => (∃ v, e = .returned v) ∧
      ((∃ ys, ys = dwn s.length s.length ∧ J ys W') ∨ (∃ pre, (∃ k, k ≤ s.length ∧ pre = dwn s.length k) ∧ Jx pre W')) := by
  have HB := Lib.hid hBs
  have HR := Lib.hid hr
  have c0 : W.cell? ⟨Bs, 0, none⟩ = some (.slice A s.length cap) := by rw [cell_of_row W Bs 0 _ _ (0, 0) hBs]; rfl
  clear hBs hr
  refine callsIn_of_wp Try.func133 rfl h7 ?_ hro
  simp only [Try.ntmps133, List.size_toArray, List.length_cons, List.length_nil, Nat.reduceAdd, Nat.reduceSub, Array.replicate_succ, Array.replicate_zero, List.push_toArray, List.append_toArray, List.nil_append, List.cons_append]
  gi_wp2
  gi_loopw [3] (fun i wr => ∃ k : Nat, k ≤ s.length ∧ i = .int .i64 ((s.length : Int) - 1 - k) ∧ J (dwn s.length k) wr ∧ KpD n₀ Bs W wr)
    (fun i _ => (intOf i + 1).toNat)
  case atStart => exact ⟨0, Nat.zero_le _, by simp, h0, KpD.refl _ _ _⟩
  case round =>
    obtain ⟨k, hk, rfl, hJs, hkp⟩ := hrel
    have c1 : wr.cell? ⟨Bs, 0, none⟩ = some (.slice A s.length cap) := by rw [cell_of_row wr Bs 0 _ _ (0, 0) (hkp.cell HB.out)]; rfl
    have KP := Lib.hid hkp
    clear hkp
    by_cases hlt : k < s.length
    · obtain ⟨p, hp⟩ : ∃ p : Nat, s.length - 1 - k = p := ⟨_, rfl⟩
      have ep : (s.length : Int) - 1 - (k : Int) = (p : Int) := by omega
      have ip : (0 : Int) ≤ (p : Int) := by omega
      have ipl : (p : Int) < (s.length : Int) := by omega
      have hpl : p < s.length := by omega
      obtain ⟨b, off, rfl, hb, hc1, hc2⟩ := (HR.out wr KP.out.1).stp hpl
      obtain ⟨fn, tmps, assign, body, hy, hR⟩ := hY _ ⟨p, hpl⟩ wr hJs (by rw [dwn_len hk]; exact hlt)
      simp only [stE] at hy
      have ES := Lib.hid (show dwn s.length (k + 1) = dwn s.length k ++ [⟨p, hpl⟩] by rw [dwn_succ hlt]; congr 2; exact Fin.ext hp)
      obtain ⟨z1, hz1⟩ : ∃ z, (s[p]).1 = z := ⟨_, rfl⟩
      obtain ⟨z2, hz2⟩ : ∃ z, (s[p]).2 = z := ⟨_, rfl⟩
      rw [hz1] at hy hc1
      rw [hz2] at hy hc2
      rw [ep]
      clear hz1 hz2 hp
      gi_wp2
      refine hR.mono ?_
      rintro e W3 (⟨rfl, hJ3, hk3⟩ | ⟨rfl, hJx3⟩)
      · gi_wp2
        go_roundw
        case rel => exact ⟨k + 1, by omega, by rw [← ep]; go_num, by rw [ES.out]; exact hJ3, KP.out.trans hk3⟩
        case measure => simp [intOf]
      · gi_wp2
        refine bodyPost_ret (results_none rfl _ _ _) rfl ?_
        exact ⟨⟨_, rfl⟩, .inr ⟨_, ⟨k + 1, by omega, ES.out.symm⟩, hJx3⟩⟩
    · obtain rfl : k = s.length := by omega
      have ip : ¬ (0 : Int) ≤ (s.length : Int) - 1 - (s.length : Int) := by omega
      gi_wp2
      go_end0
      first | exact ⟨⟨_, rfl⟩, .inl ⟨_, rfl, hJs⟩⟩ | exact ⟨⟨_, rfl⟩, .inl hJs⟩

set_option maxHeartbeats 1000000 in
theorem backStep_in (F : Fence) (n : Nat) (h5 : F.fn 117) (hro : F.round = none) (a : Option Addr) (len cap : Nat) (w : World) :
    CallsIn F n Try.prog 117 #[.slice a len cap] w fun e w' => e = .returned (.func (.func 133) #[] #[.pointer (some ⟨w.heap.size, 0, none⟩)]) ∧ w' = w.alloc (.cells #[.slice a len cap] 29) := by
  refine callsIn_of_wp Try.func117 rfl h5 ?_ hro
  simp only [Try.ntmps117, List.size_toArray, List.length_cons, List.length_nil, Nat.reduceAdd, Nat.reduceSub, Array.replicate_succ, Array.replicate_zero, List.push_toArray, List.append_toArray, List.nil_append, List.cons_append]
  gi_wp2
  go_ret
  exact ⟨rfl, rfl⟩

/-- What slices.Backward hands back. -/
theorem backStep_stops (F : Fence) (n : Nat) (h7 : F.fn 133) (hro : F.round = none) (hn : 1 ≤ n) (Bs n₀ : Nat) (A : Option Addr) (cap : Nat) (s : List (Int × Int)) (hz : s.length ≤ 1048576) (w : World) (hn₀ : n₀ ≤ w.heap.size)
    (hc : w.heap[Bs]? = some (.cells #[.slice A s.length cap] 29 (0, 0))) (hr : ∀ W', Below n₀ w W' → Rd W' n₀ 2 A s.length (fl s)) :
    SeqStopsK F n Try.prog 133 #[.pointer (some ⟨Bs, 0, none⟩)] (stE s) (KpD n₀ Bs) (fun ys => ys = dwn s.length s.length)
      (fun pre => ∃ k, k ≤ s.length ∧ pre = dwn s.length k) s.length w := fun l J Jx W hW _ _ hY h0 =>
  backStep1_in F n h7 hro hn l Bs n₀ A cap s hz J Jx hY W ((hW.block Bs (Array.getElem?_eq_some_iff.1 hc).1).trans hc) (fun W' h => hr W' ((hW.mono hn₀).trans h)) h0
end Go.Proofs.Ytlkieebmfmiafaa
