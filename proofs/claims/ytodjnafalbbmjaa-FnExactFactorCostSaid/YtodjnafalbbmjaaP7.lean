/- Joined: Bw Fe0 Wd Wt Wu Wx Wy Wz Wm Wn Wo. -/
import Derived.RangeFuncBox
import Derived.RangeFuncLeaves
import Derived.Shelf.Abstract
import Derived.OwnWalkIn
import Derived.TacticsInMore
import Derived.LoopNIn
import Derived.LoopIn
import Derived.Test.YtodjnafalbbmjaaP2
import Derived.Test.YtodjnafalbbmjaaP1
import Derived.RangeFuncNested
import Derived.RangeFuncBound
import Derived.RangeFuncCalls
import Derived.Shelf.RegionOpen
import Derived.Test.YtodjnafalbbmjaaP6
import Derived.Maps.AppendAt
import Derived.Test.YtodjnafalbbmjaaP5
import Derived.Test.YtodjnafalbbmjaaP3
/- slices.Backward over numbers: what it hands back, and what comes out of it. -/
namespace Go.Proofs.Ytodjnafalbbmjaa
open Go.RowKit Go.Shelf

attribute [local go_sem] Oper.semAt_some

/-- What has come when k rounds are over: f of the last index, and on down. -/
def bwd {α : Type} (f : Nat → α) (n k : Nat) : List α := (List.range k).map fun j => f (n - 1 - j)
theorem bwd_succ {α : Type} (f : Nat → α) (n k : Nat) : bwd f n (k + 1) = bwd f n k ++ [f (n - 1 - k)] := by simp [bwd, List.range_succ]
theorem bwd_length {α : Type} (f : Nat → α) (n k : Nat) : (bwd f n k).length = k := by simp [bwd]
/-- The pairs of slices.Backward. -/
def bwZ (zs : List Int) (k : Nat) : List (Nat × Int) := bwd (fun j => (j, zs[j]?.getD 0)) zs.length k
/-- What a round keeps: the blocks below n, and the box of the slice. -/
def KpB (n Bs : Nat) (W W' : World) : Prop := Below n W W' ∧ (Bs < W.heap.size → W'.heap[Bs]? = W.heap[Bs]?)
theorem KpB.refl (n Bs : Nat) (W : World) : KpB n Bs W W := ⟨Below.refl _ _, fun _ => rfl⟩
theorem KpB.trans {n Bs : Nat} {A B C : World} (h : KpB n Bs A B) (h' : KpB n Bs B C) : KpB n Bs A C :=
  ⟨h.1.trans h'.1, fun hl => (h'.2 (Nat.lt_of_lt_of_le hl h.1.size)).trans (h.2 hl)⟩
theorem KpB.cell {n Bs : Nat} {W W' : World} {v : Value} (h : KpB n Bs W W') (hc : W.heap[Bs]? = some (.cells #[v] 22 (0, 0))) : W'.heap[Bs]? = some (.cells #[v] 22 (0, 0)) :=
  (h.2 (Array.getElem?_eq_some_iff.1 hc).1).trans hc

set_option maxRecDepth 100000 in
set_option maxHeartbeats 2000000 in
theorem backward1_in (F : Fence) (n : Nat) (h7 : F.fn 109) (hro : F.round = none) (hn : 1 ≤ n) (l Bs n₀ : Nat) (A : Option Addr) (cap : Nat) (zs : List Int) (hz : zs.length ≤ 1048576) (J Jx : List (Nat × Int) → World → Prop)
    (hY : ∀ pre x W, J pre W → pre.length < zs.length → YieldAt F (n - 1) Try.prog l #[.int .i64 (x.1 : Int), .int .i64 x.2] W fun e W' =>
      (e = .returned (.bool true) ∧ J (pre ++ [x]) W' ∧ KpB n₀ Bs W W') ∨ (e = .returned (.bool false) ∧ Jx (pre ++ [x]) W'))
    (W : World) (hBs : W.heap[Bs]? = some (.cells #[.slice A zs.length cap] 22 (0, 0))) (hr : ∀ W', Below n₀ W W' → Rd W' n₀ 1 A zs.length (zs.map I)) (h0 : J [] W) :
    CallsIn F n Try.prog 109 #[.func (.yield l) #[] #[], .pointer (some ⟨Bs, 0, none⟩)] W fun e W' => (∃ v, e = .returned v) ∧
      ((∃ ys, ys = bwZ zs zs.length ∧ J ys W') ∨ (∃ pre, (∃ k, k ≤ zs.length ∧ pre = bwZ zs k) ∧ Jx pre W')) := by
  have HB := Lib.hid hBs
  have HR := Lib.hid hr
  have c0 : W.cell? ⟨Bs, 0, none⟩ = some (.slice A zs.length cap) := by rw [cell_of_row W Bs 0 _ _ (0, 0) hBs]; rfl
  clear hBs hr
  refine callsIn_of_wp Try.func109 rfl h7 ?_ hro
  simp only [Try.ntmps109, List.size_toArray, List.length_cons, List.length_nil, Nat.reduceAdd, Nat.reduceSub, Array.replicate_succ, Array.replicate_zero, List.push_toArray, List.append_toArray, List.nil_append, List.cons_append]
  gi_wp2
  gi_loopw [3] (fun i wr => ∃ k : Nat, k ≤ zs.length ∧ i = .int .i64 ((zs.length : Int) - 1 - k) ∧ J (bwZ zs k) wr ∧ KpB n₀ Bs W wr)
    (fun i _ => (intOf i + 1).toNat)
  case atStart => exact ⟨0, Nat.zero_le _, by simp, h0, KpB.refl _ _ _⟩
  case round =>
    obtain ⟨k, hk, rfl, hJs, hkp⟩ := hrel
    have c1 : wr.cell? ⟨Bs, 0, none⟩ = some (.slice A zs.length cap) := by rw [cell_of_row wr Bs 0 _ _ (0, 0) (hkp.cell HB.out)]; rfl
    have KP := Lib.hid hkp
    clear hkp
    by_cases hlt : k < zs.length
    · obtain ⟨p, hp⟩ : ∃ p : Nat, zs.length - 1 - k = p := ⟨_, rfl⟩
      have ep : (zs.length : Int) - 1 - (k : Int) = (p : Int) := by omega
      have ip : (0 : Int) ≤ (p : Int) := by omega
      have ipl : (p : Int) < (zs.length : Int) := by omega
      have hpl : p < zs.length := by omega
      obtain ⟨b, off, rfl, hb, hcell⟩ := (HR.out wr KP.out.1).int hpl
      have hv : zs[p]?.getD 0 = zs[p] := by simp [hpl]
      obtain ⟨fn, tmps, assign, body, hy, hR⟩ := hY _ (p, zs[p]?.getD 0) wr hJs (by unfold bwZ; rw [bwd_length]; exact hlt)
      dsimp only at hy
      rw [hv] at hy
      have ES := Lib.hid (show bwZ zs (k + 1) = bwZ zs k ++ [(p, zs[p]?.getD 0)] by unfold bwZ; rw [bwd_succ, hp])
      obtain ⟨z, hz⟩ : ∃ z, zs[p] = z := ⟨_, rfl⟩
      rw [hz] at hy hcell
      rw [ep]
      clear hv hz hp
      gi_wp2
      refine hR.mono ?_
      rintro e W3 (⟨rfl, hJ3, hk3⟩ | ⟨rfl, hJx3⟩)
      · gi_wp2
        go_roundw
        case rel => exact ⟨k + 1, by omega, by rw [← ep]; go_num, by rw [ES.out]; exact hJ3, KP.out.trans hk3⟩
        case measure => simp [intOf]
      · gi_wp2
        refine bodyPost_ret (results_none rfl _ _ _) rfl ?_
        exact ⟨⟨_, rfl⟩, .inr ⟨_, ⟨k + 1, by omega, ES.out.symm⟩, hJx3⟩⟩
    · obtain rfl : k = zs.length := by omega
      have ip : ¬ (0 : Int) ≤ (zs.length : Int) - 1 - (zs.length : Int) := by omega
      gi_wp2
      go_end0
      first | exact ⟨⟨_, rfl⟩, .inl ⟨_, rfl, hJs⟩⟩ | exact ⟨⟨_, rfl⟩, .inl hJs⟩

set_option maxHeartbeats 1000000 in
theorem backward_in (F : Fence) (n : Nat) (h5 : F.fn 105) (hro : F.round = none) (a : Option Addr) (len cap : Nat) (w : World) :
    CallsIn F n Try.prog 105 #[.slice a len cap] w fun e w' => e = .returned (.func (.func 109) #[] #[.pointer (some ⟨w.heap.size, 0, none⟩)]) ∧ w' = w.alloc (.cells #[.slice a len cap] 22) := by
  refine callsIn_of_wp Try.func105 rfl h5 ?_ hro
  simp only [Try.ntmps105, List.size_toArray, List.length_cons, List.length_nil, Nat.reduceAdd, Nat.reduceSub, Array.replicate_succ, Array.replicate_zero, List.push_toArray, List.append_toArray, List.nil_append, List.cons_append]
  gi_wp2
  go_ret
  exact ⟨rfl, rfl⟩

/-- What slices.Backward hands back: all pairs from the last one down, or the first k of them. -/
theorem backward_stops (F : Fence) (n : Nat) (h7 : F.fn 109) (hro : F.round = none) (hn : 1 ≤ n) (Bs n₀ : Nat) (A : Option Addr) (cap : Nat) (zs : List Int) (hz : zs.length ≤ 1048576) (w : World) (hn₀ : n₀ ≤ w.heap.size)
    (hc : w.heap[Bs]? = some (.cells #[.slice A zs.length cap] 22 (0, 0))) (hr : ∀ W', Below n₀ w W' → Rd W' n₀ 1 A zs.length (zs.map I)) :
    SeqStopsK F n Try.prog 109 #[.pointer (some ⟨Bs, 0, none⟩)] (fun x : Nat × Int => #[Value.int .i64 (x.1 : Int), Value.int .i64 x.2]) (KpB n₀ Bs) (fun ys => ys = bwZ zs zs.length)
      (fun pre => ∃ k, k ≤ zs.length ∧ pre = bwZ zs k) zs.length w := fun l J Jx W hW _ _ hY h0 =>
  backward1_in F n h7 hro hn l Bs n₀ A cap zs hz J Jx hY W ((hW.block Bs (Array.getElem?_eq_some_iff.1 hc).1).trans hc) (fun W' h => hr W' ((hW.mono hn₀).trans h)) h0
theorem kpB_t {n Bs : Nat} : ∀ {A B C : World}, KpB n Bs A B → KpB n Bs B C → KpB n Bs A C := fun h h' => h.trans h'
theorem kpB_b {w : World} {n Bs : Nat} (hn : n ≤ w.heap.size) (hB : Bs < w.heap.size) : ∀ (W : World) (l : Nat) (o o' : Obj), w.heap.size ≤ l → W.heap[l]? = some o → o.isCells = false → o.isWalk = false → KpB n Bs W (W.putObj l o') := fun W l o o' hl ho h1 h2 =>
  ⟨belowK_b hn W l o o' hl ho h1 h2, fun _ => World.putObj_heap_other (by omega)⟩
end Go.Proofs.Ytodjnafalbbmjaa
/- Boxes of one cell behind rounds of a range over a function. -/
namespace Go.Proofs.Ytodjnafalbbmjaa
open Go.RowKit Go.Shelf

theorem blk_own {W W' : World} {row : Option Nat} {x : Nat} {cs : Array Value} {t : TypeId} (h : W.heap[x]? = some (.cells cs t (0, 0))) (hg : W.grownBy W' row) (hr : ∀ r, row = some r → ∃ o : Obj, W.heap[r]? = some o ∧ o.isCells = false) :
    W'.heap[x]? = some (.cells cs t (0, 0)) :=
  (hg.block x (Array.getElem?_eq_some_iff.1 h).1 (fun e => by obtain ⟨o, ho, hc⟩ := hr x e.symm; rw [h] at ho; cases ho; cases hc)).trans h
theorem one_set {w w' : World} {g : Nat} {a u : Value} {t : TypeId} (hb : w.heap[g]? = some (.cells #[a] t (0, 0))) (h : w.setCell ⟨g, 0, none⟩ u = w') : w'.heap[g]? = some (.cells #[u] t (0, 0)) := by
  subst h
  rw [heap_setCell_same w g 0 _ t u hb]
  rfl
theorem one_cell {w : World} {g : Nat} {v : Value} {t : TypeId} (hb : w.heap[g]? = some (.cells #[v] t (0, 0))) : w.cell? ⟨g, 0, none⟩ = some v ∧ w.frozen? ⟨g, 0, none⟩ = false :=
  ⟨by rw [cell_of_row w g 0 _ _ (0, 0) hb]; rfl, frozen_of_row w g 0 _ _ hb⟩
theorem set_other {w : World} {g h : Nat} {u : Value} {k : Nat} (hne : h ≠ g) : (w.setCell ⟨g, k, none⟩ u).heap[h]? = w.heap[h]? := by
  exact heap_setCell_other w ⟨g, k, none⟩ h u hne

end Go.Proofs.Ytodjnafalbbmjaa
/- The windows of a number at places: as data; by the program, at one digit. -/
namespace Go.Proofs.Ytodjnafalbbmjaa
open Go.RowKit Go.Shelf

attribute [local go_sem] Oper.semAt_some

/-- An own slice of windows. -/
def OwW (w : World) (B : Nat) (v : Value) (l : List (Int × Int)) : Prop := w.ownsRow B 119 2 v l.length (fl l)
theorem OwW.below {w w' : World} {B : Nat} {v : Value} {l : List (Int × Int)} (h : OwW w B v l) (hb : Below w.heap.size w w') : OwW w' B v l := own_below h hb
def wnS (k : Int) (acc : List (Int × Int)) (x : Nat × Int) : List (Int × Int) := if x.2 = 0 then acc else acc ++ [(wrap64 ((x.1 : Int) * k), x.2)]
def wnF (k : Int) (p : List (Nat × Int)) : List (Int × Int) := p.foldl (wnS k) []
theorem wnF_snoc (k : Int) (p : List (Nat × Int)) (x : Nat × Int) : wnF k (p ++ [x]) = wnS k (wnF k p) x := by simp [wnF]
theorem wnF_len (k : Int) (p : List (Nat × Int)) : (wnF k p).length ≤ p.length := by
  suffices h : ∀ (p : List (Nat × Int)) (acc : List (Int × Int)), (p.foldl (wnS k) acc).length ≤ acc.length + p.length by
    have := h p []
    simpa [wnF] using this
  intro p
  induction p with
  | nil => intro acc; exact Nat.le_refl _
  | cons x p ih =>
    intro acc
    have h1 := ih (wnS k acc x)
    have h2 : (wnS k acc x).length ≤ acc.length + 1 := by
      unfold wnS
      split <;> simp
    simp only [List.foldl_cons, List.length_cons]
    omega
theorem info_window : (Try.prog.info? 119).map (fun i => (i.zero, i.size, i.bytes)) = some (some (.agg #[I 0, I 0]), 2, 16) := by kernel_rfl
theorem cell_two_at (w : World) (a b : Value) (t : TypeId) : ∀ j u, [a, b][j]? = some u → (w.alloc (.cells #[a, b] t)).cell? ((⟨w.heap.size, 0, none⟩ : Addr).add j) = some u := by
  intro j u hj
  match j, hj with
  | 0, hj => simp at hj; subst hj; rw [show ((⟨w.heap.size, 0, none⟩ : Addr).add 0) = ⟨w.heap.size, 0, none⟩ from rfl, cell_of_row _ _ 0 _ _ (0, 0) (heap_alloc_new w _)]; rfl
  | 1, hj => simp at hj; subst hj; rw [show ((⟨w.heap.size, 0, none⟩ : Addr).add 1) = ⟨w.heap.size, 1, none⟩ from rfl, cell_of_row _ _ 1 _ _ (0, 0) (heap_alloc_new w _)]; rfl

theorem row_form {w : World} {B k n : Nat} {e : TypeId} {v : Value} {xs : List Value} (h : w.ownsRow B e k v n xs) : ∃ A c, v = .slice A n c := by
  rcases h.2 with ⟨rfl, h0⟩ | ⟨g, cap, cur, rfl, _⟩
  · exact ⟨none, 0, by rw [h0]⟩
  · exact ⟨some _, cap, rfl⟩

/-- The windows of a number. -/
def wins (k : Int) (b n : Nat) : List (Int × Int) := wnF k (bwZ (dgs b n) (dgs b n).length)

set_option maxRecDepth 100000 in
set_option maxHeartbeats 4000000 in
theorem windows1_any (n : Nat) (w : World) (hn1 : 1 ≤ n) (hn : n ≤ 1000000) :
    Calls Try.prog 101 #[.int .i64 (n : Int), .int .i64 1] w fun e w' =>
      ∃ A c, e = .returned (.slice A (wins 1 2 n).length c) ∧ OwW w' w.heap.size (.slice A (wins 1 2 n).length c) (wins 1 2 n) ∧ Below w.heap.size w w' := by
  have hD := fun W => implDigits_any (n : Int) 2 W
  have hB : dgB (n : Int) 2 = true := by
    unfold dgB isNum inB
    rw [decide_eq_true (show (1 : Int) ≤ (n : Int) by omega), decide_eq_true (show (n : Int) ≤ 1000000 by omega)]
    rfl
  have hR := dgR_true hB
  rw [show ((2 : Int)).toNat = 2 from rfl, show ((n : Int)).toNat = n by omega] at hR
  rw [hR, hB] at hD
  have hdl := dgs_len 2 n
  obtain ⟨D, hDD⟩ : ∃ D, dgs 2 n = D := ⟨_, rfl⟩
  have EW := Lib.hid (show wins 1 2 n = wnF 1 (bwZ D D.length) by unfold wins; rw [hDD])
  rw [hDD] at hD hdl
  have HDG := Lib.hid hD
  clear hD hB hR hDD
  refine (callsIn_wide (n := 3)).1 ?_
  refine callsIn_of_wp_marks Try.func101 rfl trivial ?_ rfl
  simp only [Try.ntmps101, List.size_toArray, List.length_cons, List.length_nil, Nat.reduceAdd, Nat.reduceSub, Array.replicate_succ, Array.replicate_zero, List.push_toArray, List.append_toArray, List.nil_append, List.cons_append]
  gi_wp2_with fail
  refine ⟨trivial, ?_⟩
  gi_at_call 14
  generalize hw1 : World.alloc w _ = w1
  have q0 : w1.heap[w.heap.size]? = some (.cells #[.int .i64 1] 3 (0, 0)) := by subst hw1; exact heap_alloc_new w _
  have xs : w1.heap.size = w.heap.size + 1 := by subst hw1; simp
  have xb : Below w.heap.size w w1 := by subst hw1; exact (Below.refl _ _).alloc (Nat.le_refl _) _
  clear hw1
  refine (callsIn_wide.2 (HDG.out w1)).mono ?_
  rintro e w2 ⟨A, c, rfl, ho2, hb2⟩
  have z0 := (hb2.block w.heap.size (by omega)).trans q0
  have hs2 := hb2.size
  have XB := Lib.hid (xb.trans (hb2.mono (by omega)))
  have HO2 := Lib.hid (ho2.rd)
  clear q0 xb hb2 ho2
  gi_wp2_with fail
  refine ⟨trivial, ?_⟩
  gi_at_call 105
  refine (backward_in Fence.wide _ trivial rfl _ _ _ _).mono ?_
  rintro e w' ⟨rfl, hww⟩
  subst hww
  gi_wp2_with fail
  obtain ⟨w3, hw3⟩ : ∃ w3, (w2.alloc (.cells #[.slice none 0 0] 110)).alloc (.cells #[.slice A D.length c] 22) = w3 := ⟨_, rfl⟩
  rw [hw3]
  have hb3 : Below w2.heap.size w2 w3 := by subst hw3; exact ((Below.refl _ _).alloc (Nat.le_refl _) _).alloc (by simp) _
  have z7 : Boxed w3 w2.heap.size 110 (.slice none 0 0) := by
    subst hw3
    exact (Boxed.new w2 _ _).alloc _
  have z4 : w3.heap[w2.heap.size + 1]? = some (.cells #[.slice A D.length c] 22 (0, 0)) := by
    subst hw3
    have := heap_alloc_new (w2.alloc (.cells #[.slice none 0 0] 110)) (.cells #[.slice A D.length c] 22)
    rw [World.size_alloc] at this
    exact this
  have s3 : w3.heap.size = w2.heap.size + 2 := by subst hw3; simp
  have HB3 := Lib.hid hb3
  have HR := Lib.hid (show ∀ W', Below w2.heap.size w3 W' → Rd W' w2.heap.size 1 A D.length (D.map I) from fun W' h => (HO2.out.below' (hb3.trans h) (Nat.le_refl _)))
  have Z0 := Lib.hid z0
  have hlt2 : w.heap.size < w2.heap.size := by omega
  obtain ⟨i0, hi, hz0, hz1, hz2⟩ := info_parts info_window
  have HI := Lib.hid hi
  have HI0 := Lib.hid hz0
  have HI1 := Lib.hid hz1
  have HI2 := Lib.hid hz2
  clear hw3 hb3 z0 xs hi hz0 hz1 hz2
  refine wpIn_rangeFunc_ownG (w0 := w3) rfl (by omega) (gf := 109) (lb := #[.pointer (some ⟨w2.heap.size + 1, 0, none⟩)]) rfl trivial (enters_of Try.func109 (by kernel_rfl) rfl)
    (backward_stops Fence.wide _ trivial rfl (by omega) (w2.heap.size + 1) w2.heap.size A c D (by omega) w3 (by omega) z4 HR.out) kpB_t (kpB_b (by omega) (by omega)) (Below.refl _ _) (fun _ => rfl)
    (fun pre W => (∃ v, Boxed W w2.heap.size 110 v ∧ W.ownsRow w2.heap.size 119 2 v (wnF 1 pre).length (fl (wnF 1 pre)) ∧ True) ∧ (Boxed W (w2.heap.size + 1) 22 (.slice A D.length c) ∧ Below w2.heap.size w2 W))
    (fun _ _ _ => False)
    (OwnFrom.and (Own.from (holdsRow_own w2.heap.size w2.heap.size 110 119 2 (fun pre => (wnF 1 pre).length) (fun pre => fl (wnF 1 pre)) (fun _ _ => True)) _) (OwnFrom.and (Own.from (fun s A B row hs hg hr => blk_own hs hg hr) _) (ownFrom_below (Nat.le_refl _) (by omega))))
    (fun _ _ _ _ _ hs _ _ => hs)
    ⟨⟨_, z7, World.ownsRow_nil _ _ _ _, trivial⟩, z4, HB3.out⟩
    (fun x => { tmps := #[.int .i64 (n : Int), .int .i64 1, undef, .pointer (some ⟨w.heap.size, 0, none⟩), .slice none 0 0, .slice A D.length c, .bool true, .pointer (some ⟨w2.heap.size, 0, none⟩), .int .i64 (x.1 : Int), .int .i64 x.2, .tuple #[.slice A D.length c, .bool true], .int .i64 (n : Int), .int .i64 1, .int .i64 2, .tuple #[.slice A D.length c, .bool true], .slice A D.length c, .bool true, .slice A D.length c, .func (.func 109) #[] #[.pointer (some ⟨w2.heap.size + 1, 0, none⟩)], .int .i64 (x.1 : Int), .int .i64 x.2, undef, undef, undef, undef, undef, undef, undef, undef, undef, undef, undef], defers := [] }) ?assign ?body ?done ?stop
  case assign =>
    intro l x W K hK
    gi_wp2
    exact hK
  case body =>
    rintro lr pre ⟨i, d⟩ W ⟨⟨v, hbx, hrow, _⟩, hbs, hbel⟩ hlen
    have BS := Lib.hid hbs
    have hwl := wnF_len 1 pre
    have EF := Lib.hid (wnF_snoc 1 pre (i, d))
    have BEL := Lib.hid hbel
    have BX := Lib.hid hbx
    obtain ⟨z, hz⟩ : ∃ z, wnF 1 pre = z := ⟨_, rfl⟩
    rw [hz] at hrow EF hwl
    have ROW := Lib.hid hrow
    have EL := Lib.hid (show z.length ≤ 20 by omega)
    have hs := hbel.size
    have xb := hbx.cell
    obtain ⟨x0, f0⟩ := one_cell ((hbel.block w.heap.size (by omega)).trans Z0.out)
    clear hbx hbel hrow hz hbs
    dsimp only
    by_cases h0 : d = 0
    · have i0' : (d != 0) = false := by simpa using h0
      have EN := Lib.hid (show wnF 1 (pre ++ [(i, d)]) = z by rw [EF.out]; unfold wnS; rw [if_pos h0])
      clear h0
      gi_wp2
      exact ⟨(KeepsOthers.refl _).from _, KpB.refl _ _ _, ⟨_, BX.out, by rw [EN.out]; exact ROW.out, trivial⟩, BS.out, BEL.out⟩
    · have i0' : (d != 0) = true := by simpa using h0
      have EN := Lib.hid (show wnF 1 (pre ++ [(i, d)]) = z ++ [(wrap64 (i : Int), d)] by rw [EF.out]; unfold wnS; rw [if_neg h0, Int.mul_one])
      clear h0
      gi_wp2_with (gi_at_builtin; refine wpListIn_append_own _ rfl _ _ 110 rfl w2.heap.size 119 i0 (.agg #[I 0, I 0]) 2 16 Try.underlying110 HI.out HI0.out HI1.out HI2.out rfl (by decide) _ _ _ rfl (ROW.out.alloc _) ⟨W.heap.size, 0, none⟩ 1 1 [.int .i64 (wrap64 (i : Int)), .int .i64 d] rfl rfl (cell_two_at _ _ _ _) (by simp [Value.oneCell']) (by unfold maxLen; have := EL.out; omega) (by have := EL.out; omega) (by simp; omega) ?_; intro v' w1 hown' hgrow _; obtain ⟨g', cap', rfl⟩ := ownsRow_succ hown'; obtain ⟨hv1, hv2, hr2, hk2, hb2⟩ := BX.out.appended (by decide) ROW.out hs (Nat.le_refl _) hown' hgrow; have hc1 := hv1.cell; have hf1 := hv1.frozen)
      have hb1 : Boxed w1 (w2.heap.size + 1) 22 (.slice A D.length c) := (Boxed.alloc BS.out _).kept hgrow (Boxed.not_row BS.out (by decide) ROW.out)
      have hb4 : Boxed (w1.setCell ⟨w2.heap.size, 0, none⟩ (.slice (some ⟨g', 0, none⟩) (z.length + 1) cap')) (w2.heap.size + 1) 22 (.slice A D.length c) := (set_other (by omega)).trans hb1
      exact ⟨hk2.from _, ⟨hb2, fun _ => Eq.trans hb4 (Eq.symm BS.out)⟩, ⟨_, hv2, by rw [EN.out, fl_snoc, List.length_append, List.length_singleton]; exact hr2, trivial⟩, hb4, BEL.out.trans hb2⟩
  case done =>
    rintro D' ys W hD' rfl ⟨⟨v, hbx, hrow, _⟩, _, hbel⟩ hK
    rw [← EW.out] at hrow
    obtain ⟨A', c', rfl⟩ := row_form hrow
    have xb := hbx.cell
    have BEL := Lib.hid hbel
    have ROW := Lib.hid hrow
    clear hbel hrow hbx
    gi_wp2
    refine ⟨by simp, .inl ⟨_, _, rfl, run_takeDeferred hK, ?_⟩⟩
    exact ⟨_, results_tmp rfl _ _ _, A', c', rfl, ownsRow_putObj (own_base ROW.out (by omega)) _ hK rfl, XB.out.trans ((BEL.out.mono (by omega)).trans (belowK_b (w := w) (Nat.le_refl _) W D' _ _ (by omega) hK rfl rfl))⟩
  case stop =>
    rintro D' c' pre W _ _ h _
    exact h.elim
end Go.Proofs.Ytodjnafalbbmjaa
/- Plans through windows: the greatest number, the first powers, the squares between. -/
namespace Go.Proofs.Ytodjnafalbbmjaa
open Go.RowKit

theorem zeros2_own {w : World} {B : Nat} (n : Nat) (hn : n ≤ 1000) (hB : B ≤ w.heap.size) :
    OwI (w.alloc (.cells (madeCells #[Value.int .i64 0] n) 3)) B (.slice (some ⟨w.heap.size, 0, none⟩) n n) (List.replicate n (0 : Int)) := by
  have h := World.ownsRow_lit (base := B) (e := 3) (size := 1) w (madeCells #[Value.int .i64 0] n) n hB (by unfold maxLen; omega) (by simp [size_madeCells])
  unfold OwI
  simp only [List.length_replicate]
  rw [toList_madeCells_one] at h
  rw [List.map_replicate]
  exact h

def grW (l : List (Int × Int)) (k : Nat) : Int := (l.take k).foldl (fun a x => max a x.2) 0
theorem grW_succ (l : List (Int × Int)) {k : Nat} (hk : k < l.length) : grW l (k + 1) = max (grW l k) (l[k]).2 := by
  unfold grW
  rw [List.take_succ_eq_append_getElem hk, List.foldl_append]
  rfl

set_option maxRecDepth 100000 in
set_option maxHeartbeats 1000000 in
theorem greatestOf_any (B : Nat) (A : Option Addr) (c : Nat) (l : List (Int × Int)) (w : World) (hB : B ≤ w.heap.size) (hl : l.length ≤ 1000) (hr : Rd w B 2 A l.length (fl l)) :
    Calls Try.prog 104 #[.slice A l.length c] w fun e w' => e = .returned (.int .i64 (grW l l.length)) ∧ Below w.heap.size w w' := by
  have H := Lib.hid hr
  clear hr
  go_enter Try.func104, Try.ntmps104
  go_wp2
  go_loopw [3, 8] (fun m i wr => ∃ k : Nat, k ≤ l.length ∧ i = .int .i64 k ∧ m = .int .i64 (grW l k) ∧ Below w.heap.size w wr) (fun _ i _ => l.length - (intOf i).toNat)
  case atStart => exact ⟨0, by omega, rfl, rfl, Below.refl _ _⟩
  case round =>
    obtain ⟨k, hk, rfl, rfl, hbel⟩ := hrel
    have BEL := Lib.hid hbel
    have hs := hbel.size
    by_cases hlt : k < l.length
    · have ik : (k : Int) < (l.length : Int) := by omega
      obtain ⟨b, off, rfl, hb, hc1, hc2⟩ := (H.out.below' hbel hB).stp hlt
      obtain ⟨m, hm⟩ : ∃ m, grW l k = m := ⟨_, rfl⟩
      have E := Lib.hid (grW_succ l hlt)
      obtain ⟨p, hp⟩ : ∃ p, l[k] = p := ⟨_, rfl⟩
      rw [hp] at hc1 hc2
      rw [hm, hp] at E
      rw [hm]
      clear hm hp hbel
      go_wp2
      go_roundw
      case rel => exact ⟨k + 1, by omega, by go_num, by rw [E.out], by first | exact BEL.out.alloc hs _ | exact ((BEL.out.alloc hs _).setCell (by simpa using hs) _) | exact (((BEL.out.alloc hs _).setCell (by simpa using hs) _).setCell (by simpa using hs) _)⟩
      case measure => simp [intOf]; omega
    · have e : k = l.length := by omega
      subst e
      go_wp2
      go_ret
      exact ⟨rfl, BEL.out⟩

set_option maxRecDepth 100000 in
set_option maxHeartbeats 1000000 in
theorem allPowers1_any (g : Nat) (w : World) : Calls Try.prog 103 #[.pointer (some ⟨g, 0, none⟩), .int .i64 1] w fun e w' =>
    ∃ A c, e = .returned (.slice A 2 c) ∧ OwI w' w.heap.size (.slice A 2 c) [0, 0] ∧ Below w.heap.size w w' := by
  have hmk : ∀ W : World, (Instr.makeSlice 22 (.int .i64 2) (.int .i64 2)).run Try.prog W = .ok (.slice (some ⟨W.heap.size, 0, none⟩) 2 2) (W.alloc (.cells (madeCells #[.int .i64 0] 2) 3)) := run_make_row' (P := Try.prog) 22 3 (.int .i64 0) 8 Try.underlying22 info_int rfl .i64 .i64 2 (by omega) (by omega)
  have hz := zeros2_own (w := w) (B := w.heap.size) 2 (by omega) (Nat.le_refl _)
  have HZ := Lib.hid hz
  clear hz
  go_enter Try.func103, Try.ntmps103
  go_wp2
  clear hmk
  generalize hw1 : World.alloc w _ = w1
  have hm : OwI w1 w.heap.size (.slice (some ⟨w.heap.size, 0, none⟩) 2 2) [0, 0] := by rw [← hw1]; exact HZ.out
  have hb : Below w.heap.size w w1 := by rw [← hw1]; exact (Below.refl _ _).alloc (Nat.le_refl _) _
  have HM := Lib.hid hm
  have HB := Lib.hid hb
  clear hw1 hm hb
  go_loopw [6] (fun i wr => i = .int .i64 2 ∧ wr = w1) (fun _ _ => 0)
  case atStart => exact ⟨rfl, rfl⟩
  case round =>
    obtain ⟨rfl, rfl⟩ := hrel
    go_wp2
    go_ret
    exact ⟨_, 2, rfl, HM.out, HB.out⟩

def thF (pw : List Int) (s : (List (Int × Int) × Int) × Int) (w : Int × Int) : (List (Int × Int) × Int) × Int := (muS 1 (sqN 1 s.1 (s.2 - w.1).toNat) (pw.getD w.2.toNat 0), w.1)
def thI (pw : List Int) (x0 : List (Int × Int)) (W : List (Int × Int)) (i : Nat) : (List (Int × Int) × Int) × Int :=
  ((W.drop 1).take i).foldl (thF pw) ((x0, pw.getD (W.getD 0 (0, 0)).2.toNat 0), (W.getD 0 (0, 0)).1)
def thE (pw : List Int) (x0 : List (Int × Int)) (W : List (Int × Int)) : List (Int × Int) × Int :=
  sqN 1 (thI pw x0 W (W.length - 1)).1 (thI pw x0 W (W.length - 1)).2.toNat
def thP (pw : List Int) (x0 : List (Int × Int)) (W : List (Int × Int)) : Pl := ⟨1, (thE pw x0 W).1, [(thE pw x0 W).2]⟩
theorem thI_succ (pw : List Int) (x0 : List (Int × Int)) {W : List (Int × Int)} {i : Nat} (hi : i + 1 < W.length) : thI pw x0 W (i + 1) = thF pw (thI pw x0 W i) W[i + 1] := by
  unfold thI
  rw [List.take_succ_eq_append_getElem (by simp; omega), List.foldl_append]
  simp
/-- Windows that go down. -/
structure WinOk (n : Nat) (W : List (Int × Int)) : Prop where
  pos : 1 ≤ W.length
  few : W.length ≤ 20
  rng : ∀ i (h : i < W.length), 0 ≤ (W[i]).1 ∧ (W[i]).1 ≤ 20 ∧ 0 ≤ (W[i]).2 ∧ (W[i]).2 < n
  dec : ∀ i (h : i + 1 < W.length), (W[i + 1]).1 ≤ (W[i]'(by omega)).1
theorem thI_low (pw : List Int) (x0 : List (Int × Int)) {W : List (Int × Int)} {i : Nat} (hi : i < W.length) : (thI pw x0 W i).2 = (W[i]).1 := by
  cases i with
  | zero => simp [thI, hi]
  | succ i => rw [thI_succ pw x0 hi]; rfl
theorem thI_len (pw : List Int) (x0 : List (Int × Int)) {n : Nat} {W : List (Int × Int)} (hW : WinOk n W) : ∀ i, i < W.length → (thI pw x0 W i).1.1.length ≤ x0.length + 21 * i := by
  intro i
  induction i with
  | zero => intro _; simp [thI]
  | succ i ih =>
    intro hi
    rw [thI_succ pw x0 hi]
    have h1 := ih (by omega)
    have h2 := hW.rng i (by omega)
    have h3 := hW.rng (i + 1) hi
    show ((sqN 1 (thI pw x0 W i).1 ((thI pw x0 W i).2 - (W[i + 1]).1).toNat).1 ++ [_]).length ≤ _
    rw [List.length_append, sqN_len, thI_low pw x0 (by omega)]
    simp only [List.length_singleton]
    omega

/-- A box of two cells is kept by the maker. -/
theorem Kp.box {w w' : World} (h : Kp w w') {k : Nat} {u0 u1 : Value} (hb : w.heap[k]? = some (.cells #[u0, u1] 119 (0, 0))) : w'.cell? ⟨k, 0, none⟩ = some u0 ∧ w'.cell? ⟨k, 1, none⟩ = some u1 := by
  have ho : w.ownsRow k 119 2 (.slice (some ⟨k, 0, none⟩) 1 1) 1 [u0, u1] :=
    ⟨rfl, .inr ⟨k, 1, #[u0, u1], rfl, Nat.le_refl _, hb, Nat.le_refl _, by decide, rfl, rfl⟩⟩
  have h2 := h _ _ _ _ _ _ (by decide) (by decide) ho
  have h3 := Rd.of_own h2
  obtain ⟨b, off, e, _, hc⟩ := h3.2 (by omega)
  cases e
  exact ⟨hc 0 (by simp), hc 1 (by simp)⟩
theorem Kp.win {a b : World} (h : Kp a b) {B : Nat} {v : Value} {l : List (Int × Int)} (ho : OwW a B v l) : OwW b B v l := h _ _ _ _ _ _ (by decide) (by decide) ho
theorem Kp.alloc (w : World) (o : Obj) : Kp w (w.alloc o) := fun _ _ _ _ _ _ _ _ h => h.alloc o
end Go.Proofs.Ytodjnafalbbmjaa
/- Plans through windows, by the program. -/
namespace Go.Proofs.Ytodjnafalbbmjaa
open Go.RowKit

/-- A block of another type is kept by the maker. -/
theorem Kp.blk {w w' : World} (h : Kp w w') {k : Nat} {cs : Array Value} {t : TypeId} (hb : w.heap[k]? = some (.cells cs t (0, 0))) (h1 : t ≠ 68 := by decide) (h2 : t ≠ 109 := by decide) : w'.heap[k]? = some (.cells cs t (0, 0)) := by
  have ho : w.ownsRow k t cs.size (.slice (some ⟨k, 0, none⟩) 1 1) 1 cs.toList :=
    ⟨by simp, .inr ⟨k, 1, cs, rfl, Nat.le_refl _, hb, Nat.le_refl _, by decide, by simp, List.take_of_length_le (by simp)⟩⟩
  obtain ⟨_, ⟨e, _⟩ | ⟨g, cap, cur, e, _, hb', _, _, hs, ht⟩⟩ := h _ _ _ _ _ _ h1 h2 ho
  · cases e
  · cases e
    rw [hb']
    have : cur = cs := by
      apply Array.ext'
      rw [← ht, List.take_of_length_le (by simp; omega)]
    rw [this]
theorem row_cap {w : World} {B k n c : Nat} {e : TypeId} {A : Option Addr} {xs : List Value} (h : w.ownsRow B e k (.slice A n c) n xs) (h1 : 1 ≤ n) : n ≤ c := by
  rcases h.2 with ⟨_, h0⟩ | ⟨g, cap, cur, e, _, _, hc, _⟩
  · omega
  · cases e; exact hc

set_option maxRecDepth 100000 in
set_option maxHeartbeats 4000000 in
theorem through_any (B g : Nat) (A AP : Option Addr) (c cp B1 B2 : Nat) (W : List (Int × Int)) (pw : List Int) (x0 : List (Int × Int)) (w : World) (hB : B ≤ g) (hm : MkS w B g 1 x0) (hW : WinOk pw.length W) (hx0 : x0.length ≤ 100) (_hp : pw.length ≤ 1000)
    (ho : OwW w B1 (.slice A W.length c) W) (hop : OwI w B2 (.slice AP pw.length cp) pw) :
    Calls Try.prog 102 #[.pointer (some ⟨g, 0, none⟩), .slice A W.length c, .slice AP pw.length cp] w fun e w' =>
      ∃ R1 R2 v1 v2, e = .returned (.tuple #[.agg #[.int .i64 (trimR (thP pw x0 W)).n, .slice R1 (trimR (thP pw x0 W)).s.length v1, .slice R2 (trimR (thP pw x0 W)).o.length v2], .bool (good (thP pw x0 W))]) ∧ OwP w' w.heap.size R1 R2 v1 v2 (trimR (thP pw x0 W)) ∧ Below B w w' := by
  have hgl := hm.lt
  have h1 := hW.pos
  have h20 := hW.few
  obtain ⟨r1, r2, r3, r4⟩ := hW.rng 0 (by omega)
  have MK := Lib.hid hm
  have OW := Lib.hid ho
  have OP := Lib.hid hop
  have HW := Lib.hid hW
  obtain ⟨b, off, hA, hb, hc1, hc2⟩ := (Rd.of_own ho).stp (k := 0) (by omega)
  have hbw := hb
  obtain ⟨p0, hp0⟩ : ∃ p, W[0] = p := ⟨_, rfl⟩
  rw [hp0] at hc1 hc2 r1 r2 r3 r4
  obtain ⟨i0, hi0⟩ : ∃ i : Nat, p0.2 = (i : Int) := ⟨p0.2.toNat, by omega⟩
  have hi0l : i0 < pw.length := by omega
  obtain ⟨pb, poff, hAP, hpb, hpc⟩ := hop.rd.int hi0l
  have ii0 : (i0 : Int) < (pw.length : Int) := by omega
  have iw0 : (0 : Int) < (W.length : Int) := by omega
  rw [hi0] at hc2
  have E0 := Lib.hid (show thI pw x0 W 0 = ((x0, pw[i0]), p0.1) by
    unfold thI
    have hd : W.getD 0 (0, 0) = p0 := by rw [← hp0]; simp [List.getElem?_eq_getElem (show 0 < W.length by omega)]
    rw [hd, hi0]
    simp [hi0l])
  simp only [Nat.zero_mul, Nat.add_zero] at hc1 hc2
  clear hm ho hop hW hp0
  subst hA
  subst hAP
  by_cases hce : c = 1
  case pos =>
    subst hce
    go_enter Try.func102, Try.ntmps102
    go_wp2_with fail
    generalize hw1 : World.alloc w _ = w1
    obtain ⟨q0, xs, xb⟩ := zero_box hw1
    have hk1 : Kp w w1 := by subst hw1; exact Kp.alloc _ _
    have M1 := Lib.hid (MK.out.below xb)
    have OW1 := Lib.hid (hk1.win OW.out)
    have OP1 := Lib.hid (hk1.ints OP.out)
    have Q0 := Lib.hid q0
    have XB := Lib.hid xb
    clear hw1 q0 xb hc1 hc2 hpc hk1
    go_loopw [8, 9, 26] (fun vv lv iv wr => ∃ i : Nat, i + 1 ≤ W.length ∧ iv = .int .i64 i ∧ vv = .int .i64 (thI pw x0 W i).1.2 ∧ lv = .int .i64 (thI pw x0 W i).2 ∧ MkS wr B g 1 (thI pw x0 W i).1.1 ∧ OwW wr B1 (.slice (some ⟨b, off, none⟩) W.length 1) W ∧ OwI wr B2 (.slice (some ⟨pb, poff, none⟩) pw.length cp) pw ∧ wr.heap[w.heap.size]? = some (.cells #[.int .i64 0, .slice none 0 0, .slice none 0 0] 33 (0, 0)) ∧ Below B w wr) (fun _ _ iv _ => W.length - (intOf iv).toNat)
    case atStart => exact ⟨0, by omega, rfl, by rw [E0.out], by rw [E0.out], by rw [E0.out]; exact M1.out, OW1.out, OP1.out, Q0.out, XB.out.mono (by omega)⟩
    case round =>
      obtain ⟨i, hi, rfl, rfl, rfl, hmk, how, hoi, hq, hbel⟩ := hrel
      have MR := Lib.hid hmk
      have WR := Lib.hid how
      have PR := Lib.hid hoi
      have QR := Lib.hid hq
      have BEL := Lib.hid hbel
      have hlen := thI_len pw x0 HW.out i (by omega)
      have hlow := thI_low pw x0 (W := W) (i := i) (by omega)
      have hri := HW.out.rng i (by omega)
      clear hmk how hoi hq hbel
      by_cases hlt : i + 1 < W.length
      · exfalso
        have := row_cap OW.out (by omega)
        omega
      · have ei : i = W.length - 1 := by omega
        have il : ¬ (i : Int) < ((W.length - 1 : Nat) : Int) := by omega
        have EE := Lib.hid (show thP pw x0 W = ⟨1, (sqN 1 (thI pw x0 W i).1 (thI pw x0 W i).2.toNat).1, [(sqN 1 (thI pw x0 W i).1 (thI pw x0 W i).2.toNat).2]⟩ by unfold thP thE; rw [ei])
        rw [← hlow] at hri
        obtain ⟨y, hy⟩ : ∃ y, thI pw x0 W i = y := ⟨_, rfl⟩
        rw [hy] at MR hlen hri EE
        rw [hy]
        obtain ⟨d, hd⟩ : ∃ d : Nat, y.2 = (d : Int) := ⟨y.2.toNat, by omega⟩
        have hgr : g < wr.heap.size := MR.out.lt
        rw [show y.2.toNat = d by omega] at EE
        have hS := makerSquare_any B g 1 y.1 d wr hB MR.out (by omega) (by omega) (by omega)
        have hsl : (sqN 1 y.1 d).1.length ≤ 1000 := by rw [sqN_len]; omega
        obtain ⟨z, hz⟩ : ∃ z, sqN 1 y.1 d = z := ⟨_, rfl⟩
        rw [hz] at hS hsl EE
        have HS := Lib.hid hS
        clear hlow hy hS hz
        go_wp2_with fail
        go_at_call 106
        refine HS.out.mono ?_
        rintro e w3 ⟨rfl, hm3, hb3, hk3⟩
        have M3 := Lib.hid hm3
        have Q3 := Lib.hid (Kp.blk hk3 QR.out)
        have B3 := Lib.hid (BEL.out.trans hb3)
        clear hm3 hb3 hk3
        go_wp2_with fail
        obtain ⟨A4, c4, hblk, hown⟩ := M3.out
        have hg3 : g < w3.heap.size := M3.out.lt
        have y0 : w3.cell? ⟨g, 0, none⟩ = some (.int .i64 1) := by rw [cell_of_row w3 g 0 _ _ (0, 0) hblk]; rfl
        have y1 : w3.cell? ⟨g, 1, none⟩ = some (.slice A4 z.1.length c4) := by rw [cell_of_row w3 g 1 _ _ (0, 0) hblk]; rfl
        have HOW := Lib.hid hown
        have FS := Lib.hid (show ∀ x, Below w3.heap.size w3 x → x.cell? ⟨g, 0, none⟩ = some (.int .i64 1) ∧ x.cell? ⟨g, 1, none⟩ = some (.slice A4 z.1.length c4) from fun x hx =>
          ⟨(hx.cell (p := ⟨g, 0, none⟩) hg3).trans y0, (hx.cell (p := ⟨g, 1, none⟩) hg3).trans y1⟩)
        have HC := Lib.hid (show Below w3.heap.size w3 w3.drew from (Below.refl _ _).drew)
        clear hblk hown y0 y1
        refine wp_region_T (fun x : World => Below w3.heap.size w3 x) [0, 1, 2, 3, 4, 5, 6, 7, 8, 10, 12, 13, 15] [3, 7] (.lp 0 (.lp 1 (.lp 2 (.lp 4 (.lp 5 (.lp 6 (.lp 8 (.ls 3 (.ls 7 (.hv 9 (.lp 10 (.hv 11 (.lp 12 (.lp 13 (.hv 14 (.lp 15 (.done))))))))))))))))) (by kernel_rfl) (by kernel_rfl) ?_
        (repeat (refine T_lp rfl (fun K hK => ?_); go_simp; refine hK _ ?_; clear hK K))
        refine T_ls1 (v := .int .i64 1) rfl rfl HC.out (fun x hx => (by obtain ⟨h0, h1⟩ := FS.out x hx; go_simp)) (fun K hK => ?_)
        (go_simp; refine hK _ ?_; clear hK K)
        refine T_ls1 (v := .slice A4 z.1.length c4) rfl rfl HC.out (fun x hx => (by obtain ⟨h0, h1⟩ := FS.out x hx; go_simp)) (fun K hK => ?_)
        (go_simp; refine hK _ ?_; clear hK K)
        generalize World.drew w3 = wd at HC ⊢
        have hbd := HC.out
        have hsd := hbd.size
        refine T_hvS rfl (fun K hK => ?_)
        go_simp
        refine hK _ _ (HC.out.alloc HC.out.size _) ?_
        clear hK K
        (repeat (refine T_lp rfl (fun K hK => ?_); go_simp; refine hK _ ?_; clear hK K))
        refine T_hv rfl (by kernel_rfl) (fun K hK => ?_)
        go_simp
        go_at_call 108
        generalize hw5 : World.alloc wd _ = w5
        obtain ⟨ho5, hb5⟩ := one_new hw5
        clear hw5
        have hb35 : Below w3.heap.size w3 w5 := hbd.trans (hb5.mono hsd)
        have RD := Lib.hid (show RdP w5 w5.heap.size A4 (some ⟨wd.heap.size, 0, none⟩) ⟨1, z.1, [z.2]⟩ from ⟨Rd.of_own (own_below HOW.out hb35), Rd.of_own ho5⟩)
        have q5 := (hb35.block w.heap.size (by have := (Array.getElem?_eq_some_iff.1 Q3.out).1; omega)).trans Q3.out
        have Q5 := Lib.hid q5
        have B5 := Lib.hid (B3.out.trans (hb35.mono (by omega)))
        clear ho5 hb5 hb35 q5 hbd
        refine (implTrim_any w5.heap.size A4 (some ⟨wd.heap.size, 0, none⟩) c4 1 ⟨1, z.1, [z.2]⟩ w5 (Nat.le_refl _) (by show z.1.length ≤ 2000000; omega) (by simp) RD.out).mono ?_
        rw [← EE.out]
        rintro e w6 ⟨R1, R2, v1, v2, rfl, ho6, hb6⟩
        have q6 := (hb6.block w.heap.size (by have := (Array.getElem?_eq_some_iff.1 Q5.out).1; omega)).trans Q5.out
        obtain ⟨t0, t1, t2, g0, g1, g2⟩ := cells3 q6
        have hs5 : w.heap.size ≤ w5.heap.size := by have := (Array.getElem?_eq_some_iff.1 Q5.out).1; omega
        have O6 := Lib.hid (show OwP w6 w.heap.size R1 R2 v1 v2 (trimR (thP pw _ W)) from OwP.base ho6 hs5)
        have Q6 := Lib.hid q6
        have B6 := Lib.hid (B5.out.trans (hb6.mono (show B ≤ w5.heap.size by omega)))
        clear ho6 hb6 q6
        (go_simp; refine hK _ _ ?_; clear hK K)
        (repeat (first | (refine T_lp rfl (fun K hK => ?_); go_simp; refine hK _ ?_; clear hK K) | (refine T_ls rfl rfl (fun K hK => ?_); go_simp; refine hK _ ?_; clear hK K)))
        (refine T_hv rfl (by kernel_rfl) (fun K hK => ?_); go_simp; refine hK _ _ ?_; clear hK K)
        (repeat (first | (refine T_lp rfl (fun K hK => ?_); go_simp; refine hK _ ?_; clear hK K) | (refine T_ls rfl rfl (fun K hK => ?_); go_simp; refine hK _ ?_; clear hK K)))
        refine T_done ?_
        go_wp2
        refine bodyPost_ret (v := .tuple #[.agg #[.int .i64 (trimR (thP pw _ W)).n, .slice R1 (trimR (thP pw _ W)).s.length v1, .slice R2 (trimR (thP pw _ W)).o.length v2], .bool (good (thP pw _ W))]) (by simp [results, Try.results102, go_sem, t0, t1, t2]) rfl ⟨R1, R2, v1, v2, rfl, ?_, ?_⟩
        · exact owP_of3 O6.out.1 O6.out.2 Q6.out (by decide) (by decide) rfl rfl _ _ _
        · exact ((B6.out.setCell (show B ≤ w.heap.size by omega) _).setCell (show B ≤ w.heap.size by omega) _).setCell (show B ≤ w.heap.size by omega) _
  case neg =>
    go_enter Try.func102, Try.ntmps102
    go_wp2_with fail
    generalize hw1 : World.alloc w _ = w1
    obtain ⟨q0, xs, xb⟩ := zero_box hw1
    have hk1 : Kp w w1 := by subst hw1; exact Kp.alloc _ _
    have M1 := Lib.hid (MK.out.below xb)
    have OW1 := Lib.hid (hk1.win OW.out)
    have OP1 := Lib.hid (hk1.ints OP.out)
    have Q0 := Lib.hid q0
    have XB := Lib.hid xb
    clear hw1 q0 xb hc1 hc2 hpc hk1
    go_loopw [8, 9, 26] (fun vv lv iv wr => ∃ i : Nat, i + 1 ≤ W.length ∧ iv = .int .i64 i ∧ vv = .int .i64 (thI pw x0 W i).1.2 ∧ lv = .int .i64 (thI pw x0 W i).2 ∧ MkS wr B g 1 (thI pw x0 W i).1.1 ∧ OwW wr B1 (.slice (some ⟨b, off, none⟩) W.length c) W ∧ OwI wr B2 (.slice (some ⟨pb, poff, none⟩) pw.length cp) pw ∧ wr.heap[w.heap.size]? = some (.cells #[.int .i64 0, .slice none 0 0, .slice none 0 0] 33 (0, 0)) ∧ Below B w wr) (fun _ _ iv _ => W.length - (intOf iv).toNat)
    case atStart => exact ⟨0, by omega, rfl, by rw [E0.out], by rw [E0.out], by rw [E0.out]; exact M1.out, OW1.out, OP1.out, Q0.out, XB.out.mono (by omega)⟩
    case round =>
      obtain ⟨i, hi, rfl, rfl, rfl, hmk, how, hoi, hq, hbel⟩ := hrel
      have MR := Lib.hid hmk
      have WR := Lib.hid how
      have PR := Lib.hid hoi
      have QR := Lib.hid hq
      have BEL := Lib.hid hbel
      have hlen := thI_len pw x0 HW.out i (by omega)
      have hlow := thI_low pw x0 (W := W) (i := i) (by omega)
      have hri := HW.out.rng i (by omega)
      clear hmk how hoi hq hbel
      by_cases hlt : i + 1 < W.length
      · have il : (i : Int) < ((W.length - 1 : Nat) : Int) := by omega
        obtain ⟨b2, off2, hA2, hb2, hc1, hc2⟩ := (Rd.of_own WR.out).stp hlt
        cases hA2
        have hr2 := HW.out.rng (i + 1) hlt
        have hde := HW.out.dec i hlt
        rw [← hlow] at hri hde
        have ES := Lib.hid (thI_succ pw x0 hlt)
        obtain ⟨p, hp1⟩ : ∃ p, W[i + 1] = p := ⟨_, rfl⟩
        obtain ⟨y, hy⟩ : ∃ y, thI pw x0 W i = y := ⟨_, rfl⟩
        rw [hp1, hy] at ES
        rw [hp1] at hc1 hc2 hr2 hde
        rw [hy] at MR hlen hri hde
        rw [hy]
        obtain ⟨d, hd⟩ : ∃ d : Nat, y.2 - p.1 = (d : Int) := ⟨(y.2 - p.1).toNat, by omega⟩
        obtain ⟨j, hj⟩ : ∃ j : Nat, p.2 = (j : Int) := ⟨p.2.toNat, by omega⟩
        rw [hj] at hc2
        rw [show off + (i + 1) * 2 = off + 2 + i * 2 by omega] at hc1 hc2
        have hjl : j < pw.length := by omega
        have ij : (j : Int) < (pw.length : Int) := by omega
        clear hlow hp1 hy
        go_wp2_with fail
        go_at_call 106
        generalize hwb : World.alloc wr _ = wb
        have bx : wb.heap[wr.heap.size]? = some (.cells #[.int .i64 p.1, .int .i64 (j : Int)] 119 (0, 0)) := by subst hwb; exact heap_alloc_new wr _
        have kb : Kp wr wb := by subst hwb; exact Kp.alloc _ _
        have bb : Below wr.heap.size wr wb := by subst hwb; exact (Below.refl _ _).alloc (Nat.le_refl _) _
        have hgr : g < wr.heap.size := MR.out.lt
        have MB := Lib.hid (MR.out.below bb)
        have BB := Lib.hid (BEL.out.trans (bb.mono (show B ≤ wr.heap.size by omega)))
        clear hwb bb hc1 hc2
        refine (makerSquare_any B g 1 y.1 d wb hB MB.out (by omega) (by omega) (by omega)).mono ?_
        rintro e w3 ⟨rfl, hm3, hb3, hk3⟩
        have k3 := kb.trans hk3
        obtain ⟨v0, v1⟩ := Kp.box hk3 bx
        obtain ⟨pb2, poff2, hA3, hpb2, hpc⟩ := (show OwI w3 B2 (.slice (some ⟨pb, poff, none⟩) pw.length cp) pw from k3.ints PR.out).rd.int hjl
        cases hA3
        have hsl : (sqN 1 y.1 d).1.length ≤ 1000 := by rw [sqN_len]; omega
        obtain ⟨z, hz⟩ : ∃ z, sqN 1 y.1 d = z := ⟨_, rfl⟩
        obtain ⟨q, hq⟩ : ∃ q, pw[j] = q := ⟨_, rfl⟩
        have ES2 := Lib.hid (show thI pw x0 W (i + 1) = (muS 1 z q, p.1) by
          rw [ES.out]
          unfold thF
          rw [show (y.2 - p.1).toNat = d by omega, hz, hj]
          simp [hjl, hq])
        rw [hz] at hm3 hsl
        rw [hz]
        rw [hq] at hpc
        have M3 := Lib.hid hm3
        have B3 := Lib.hid (BB.out.trans hb3)
        have K3 := Lib.hid k3
        have BX3 := Lib.hid (Kp.blk hk3 bx)
        clear hm3 hb3 hk3 k3 kb bx hz hq
        go_wp2_with (go_at_call 107; refine (makerMul_any B g 1 z.1 z.2 q w3 hB M3.out hsl (by omega) (by omega)).mono ?_; rintro e w4 ⟨rfl, hm4, hb4, hk4⟩; obtain ⟨v2, v3⟩ := Kp.box hk4 BX3.out)
        go_roundw
        case rel => exact ⟨i + 1, by omega, by go_num, by rw [ES2.out]; rfl, by rw [ES2.out], by rw [ES2.out]; exact hm4, (K3.out.trans hk4).win WR.out, (K3.out.trans hk4).ints PR.out, (K3.out.trans hk4).blk QR.out, B3.out.trans hb4⟩
        case measure => simp [intOf]; omega
      · have ei : i = W.length - 1 := by omega
        have il : ¬ (i : Int) < ((W.length - 1 : Nat) : Int) := by omega
        have EE := Lib.hid (show thP pw x0 W = ⟨1, (sqN 1 (thI pw x0 W i).1 (thI pw x0 W i).2.toNat).1, [(sqN 1 (thI pw x0 W i).1 (thI pw x0 W i).2.toNat).2]⟩ by unfold thP thE; rw [ei])
        rw [← hlow] at hri
        obtain ⟨y, hy⟩ : ∃ y, thI pw x0 W i = y := ⟨_, rfl⟩
        rw [hy] at MR hlen hri EE
        rw [hy]
        obtain ⟨d, hd⟩ : ∃ d : Nat, y.2 = (d : Int) := ⟨y.2.toNat, by omega⟩
        have hgr : g < wr.heap.size := MR.out.lt
        rw [show y.2.toNat = d by omega] at EE
        have hS := makerSquare_any B g 1 y.1 d wr hB MR.out (by omega) (by omega) (by omega)
        have hsl : (sqN 1 y.1 d).1.length ≤ 1000 := by rw [sqN_len]; omega
        obtain ⟨z, hz⟩ : ∃ z, sqN 1 y.1 d = z := ⟨_, rfl⟩
        rw [hz] at hS hsl EE
        have HS := Lib.hid hS
        clear hlow hy hS hz
        go_wp2_with fail
        go_at_call 106
        refine HS.out.mono ?_
        rintro e w3 ⟨rfl, hm3, hb3, hk3⟩
        have M3 := Lib.hid hm3
        have Q3 := Lib.hid (Kp.blk hk3 QR.out)
        have B3 := Lib.hid (BEL.out.trans hb3)
        clear hm3 hb3 hk3
        go_wp2_with fail
        obtain ⟨A4, c4, hblk, hown⟩ := M3.out
        have hg3 : g < w3.heap.size := M3.out.lt
        have y0 : w3.cell? ⟨g, 0, none⟩ = some (.int .i64 1) := by rw [cell_of_row w3 g 0 _ _ (0, 0) hblk]; rfl
        have y1 : w3.cell? ⟨g, 1, none⟩ = some (.slice A4 z.1.length c4) := by rw [cell_of_row w3 g 1 _ _ (0, 0) hblk]; rfl
        have HOW := Lib.hid hown
        have FS := Lib.hid (show ∀ x, Below w3.heap.size w3 x → x.cell? ⟨g, 0, none⟩ = some (.int .i64 1) ∧ x.cell? ⟨g, 1, none⟩ = some (.slice A4 z.1.length c4) from fun x hx =>
          ⟨(hx.cell (p := ⟨g, 0, none⟩) hg3).trans y0, (hx.cell (p := ⟨g, 1, none⟩) hg3).trans y1⟩)
        have HC := Lib.hid (show Below w3.heap.size w3 w3.drew from (Below.refl _ _).drew)
        clear hblk hown y0 y1
        refine wp_region_T (fun x : World => Below w3.heap.size w3 x) [0, 1, 2, 3, 4, 5, 6, 7, 8, 10, 12, 13, 15] [3, 7] (.lp 0 (.lp 1 (.lp 2 (.lp 4 (.lp 5 (.lp 6 (.lp 8 (.ls 3 (.ls 7 (.hv 9 (.lp 10 (.hv 11 (.lp 12 (.lp 13 (.hv 14 (.lp 15 (.done))))))))))))))))) (by kernel_rfl) (by kernel_rfl) ?_
        (repeat (refine T_lp rfl (fun K hK => ?_); go_simp; refine hK _ ?_; clear hK K))
        refine T_ls1 (v := .int .i64 1) rfl rfl HC.out (fun x hx => (by obtain ⟨h0, h1⟩ := FS.out x hx; go_simp)) (fun K hK => ?_)
        (go_simp; refine hK _ ?_; clear hK K)
        refine T_ls1 (v := .slice A4 z.1.length c4) rfl rfl HC.out (fun x hx => (by obtain ⟨h0, h1⟩ := FS.out x hx; go_simp)) (fun K hK => ?_)
        (go_simp; refine hK _ ?_; clear hK K)
        generalize World.drew w3 = wd at HC ⊢
        have hbd := HC.out
        have hsd := hbd.size
        refine T_hvS rfl (fun K hK => ?_)
        go_simp
        refine hK _ _ (HC.out.alloc HC.out.size _) ?_
        clear hK K
        (repeat (refine T_lp rfl (fun K hK => ?_); go_simp; refine hK _ ?_; clear hK K))
        refine T_hv rfl (by kernel_rfl) (fun K hK => ?_)
        go_simp
        go_at_call 108
        generalize hw5 : World.alloc wd _ = w5
        obtain ⟨ho5, hb5⟩ := one_new hw5
        clear hw5
        have hb35 : Below w3.heap.size w3 w5 := hbd.trans (hb5.mono hsd)
        have RD := Lib.hid (show RdP w5 w5.heap.size A4 (some ⟨wd.heap.size, 0, none⟩) ⟨1, z.1, [z.2]⟩ from ⟨Rd.of_own (own_below HOW.out hb35), Rd.of_own ho5⟩)
        have q5 := (hb35.block w.heap.size (by have := (Array.getElem?_eq_some_iff.1 Q3.out).1; omega)).trans Q3.out
        have Q5 := Lib.hid q5
        have B5 := Lib.hid (B3.out.trans (hb35.mono (by omega)))
        clear ho5 hb5 hb35 q5 hbd
        refine (implTrim_any w5.heap.size A4 (some ⟨wd.heap.size, 0, none⟩) c4 1 ⟨1, z.1, [z.2]⟩ w5 (Nat.le_refl _) (by show z.1.length ≤ 2000000; omega) (by simp) RD.out).mono ?_
        rw [← EE.out]
        rintro e w6 ⟨R1, R2, v1, v2, rfl, ho6, hb6⟩
        have q6 := (hb6.block w.heap.size (by have := (Array.getElem?_eq_some_iff.1 Q5.out).1; omega)).trans Q5.out
        obtain ⟨t0, t1, t2, g0, g1, g2⟩ := cells3 q6
        have hs5 : w.heap.size ≤ w5.heap.size := by have := (Array.getElem?_eq_some_iff.1 Q5.out).1; omega
        have O6 := Lib.hid (show OwP w6 w.heap.size R1 R2 v1 v2 (trimR (thP pw _ W)) from OwP.base ho6 hs5)
        have Q6 := Lib.hid q6
        have B6 := Lib.hid (B5.out.trans (hb6.mono (show B ≤ w5.heap.size by omega)))
        clear ho6 hb6 q6
        (go_simp; refine hK _ _ ?_; clear hK K)
        (repeat (first | (refine T_lp rfl (fun K hK => ?_); go_simp; refine hK _ ?_; clear hK K) | (refine T_ls rfl rfl (fun K hK => ?_); go_simp; refine hK _ ?_; clear hK K)))
        (refine T_hv rfl (by kernel_rfl) (fun K hK => ?_); go_simp; refine hK _ _ ?_; clear hK K)
        (repeat (first | (refine T_lp rfl (fun K hK => ?_); go_simp; refine hK _ ?_; clear hK K) | (refine T_ls rfl rfl (fun K hK => ?_); go_simp; refine hK _ ?_; clear hK K)))
        refine T_done ?_
        go_wp2
        refine bodyPost_ret (v := .tuple #[.agg #[.int .i64 (trimR (thP pw _ W)).n, .slice R1 (trimR (thP pw _ W)).s.length v1, .slice R2 (trimR (thP pw _ W)).o.length v2], .bool (good (thP pw _ W))]) (by simp [results, Try.results102, go_sem, t0, t1, t2]) rfl ⟨R1, R2, v1, v2, rfl, ?_, ?_⟩
        · exact owP_of3 O6.out.1 O6.out.2 Q6.out (by decide) (by decide) rfl rfl _ _ _
        · exact ((B6.out.setCell (show B ≤ w.heap.size by omega) _).setCell (show B ≤ w.heap.size by omega) _).setCell (show B ≤ w.heap.size by omega) _
end Go.Proofs.Ytodjnafalbbmjaa
/- The plan by binary digits, as data: it is good, all of it is used, and the windows of one digit make it. -/
namespace Go.Proofs.Ytodjnafalbbmjaa
open Go.RowKit

def bnX (n L : Nat) : Nat → List (Int × Int) × Int
  | 0 => ([], 0)
  | j + 1 => if bitB n (L - 2 - j) then muS 1 (muS 1 (bnX n L j) (bnX n L j).2) 0 else muS 1 (bnX n L j) (bnX n L j).2
def bnP (n : Nat) : Pl := ⟨1, (bnX n (Lib.bitLen n) (Lib.bitLen n - 1)).1, [(bnX n (Lib.bitLen n) (Lib.bitLen n - 1)).2]⟩
/-- Each step uses the value just before it, with itself or with the input. -/
def StarL (x : List (Int × Int) × Int) : Prop := x.2 = x.1.length ∧ ∀ i (h : i < x.1.length), (x.1[i]).2 = i ∧ ((x.1[i]).1 = i ∨ (x.1[i]).1 = 0)
theorem star_mu {x : List (Int × Int) × Int} {b : Int} (h : StarL x) (hb : b = x.2 ∨ b = 0) : StarL (muS 1 x b) := by
  obtain ⟨h1, h2⟩ := h
  refine ⟨?_, fun i hi => ?_⟩
  · show (1 : Int) + (x.1.length : Int) = ((x.1 ++ [stI x.2 b]).length : Int)
    rw [List.length_append, List.length_singleton]
    omega
  · have hi' : i < x.1.length + 1 := by
      have : (muS 1 x b).1.length = x.1.length + 1 := by simp [muS]
      omega
    show ((x.1 ++ [stI x.2 b])[i]'(by simpa using hi')).2 = i ∧ (((x.1 ++ [stI x.2 b])[i]'(by simpa using hi')).1 = i ∨ ((x.1 ++ [stI x.2 b])[i]'(by simpa using hi')).1 = 0)
    rcases Nat.lt_or_ge i x.1.length with hl | hl
    · rw [List.getElem_append_left hl]
      exact h2 i hl
    · have e : i = x.1.length := by omega
      subst e
      rw [List.getElem_append_right (Nat.le_refl _)]
      simp only [Nat.sub_self, List.getElem_singleton]
      rw [stI_min, h1]
      rcases hb with hb | hb
      · rw [hb, h1]; simp
      · rw [hb]
        show max (x.1.length : Int) 0 = _ ∧ (min (x.1.length : Int) 0 = _ ∨ min (x.1.length : Int) 0 = 0)
        omega
theorem bnX_star (n L j : Nat) : StarL (bnX n L j) := by
  induction j with
  | zero => exact ⟨rfl, fun i h => absurd h (by simp [bnX])⟩
  | succ j ih =>
    unfold bnX
    split
    · exact star_mu (star_mu ih (.inl rfl)) (.inr rfl)
    · exact star_mu ih (.inl rfl)
theorem bnX_len (n L j : Nat) : (bnX n L j).1.length ≤ 2 * j := by
  induction j with
  | zero => exact Nat.le_refl _
  | succ j ih =>
    unfold bnX
    split
    · simp [muS]; omega
    · simp [muS]; omega

/-- The exponents, the last one m. -/
def ExpL (x : List (Int × Int) × Int) (m : Int) : Prop :=
  ∃ E : List Int, exps 1 x.1 = E.map (fun e => [e]) ∧ E.length = x.1.length + 1 ∧ E.getD 0 0 = 1 ∧ E.getD x.1.length 0 = m ∧ ∀ e ∈ E, 0 ≤ e ∧ e ≤ 1000000
theorem exp_one : ExpL ([], 0) 1 := ⟨[1], rfl, rfl, rfl, rfl, fun e he => by simp at he; omega⟩
theorem getD_row (E : List Int) {a : Nat} (ha : a < E.length) : (E.map fun e => [e]).getD a [] = [E.getD a 0] := by simp [ha]
theorem exp_mu {x : List (Int × Int) × Int} {m : Int} {b : Int} (h : StarL x) (hE : ExpL x m) {a : Int} (hm : 0 ≤ m ∧ 0 ≤ a ∧ m + a ≤ 1000000) (hb : b = x.2 ∧ a = m ∨ b = 0 ∧ a = 1) : ExpL (muS 1 x b) (m + a) := by
  obtain ⟨E, e1, e2, e3, e4, e5⟩ := hE
  have hl : (muS 1 x b).1.length = x.1.length + 1 := by simp [muS]
  have hx : x.2 = x.1.length := h.1
  refine ⟨E ++ [m + a], ?_, by simp [hl, e2], ?_, ?_, ?_⟩
  · show exps 1 (x.1 ++ [stI x.2 b]) = _
    have hf : exps 1 (x.1 ++ [stI x.2 b]) = expStep (exps 1 x.1) (stI x.2 b) := by simp [exps]
    rw [hf, e1]
    unfold expStep
    rw [List.map_append, stI_min]
    congr 1
    have hs : sumL [E.getD (min x.2 b).toNat 0] [E.getD (max x.2 b).toNat 0] = [m + a] := by
      show [leastI (E.getD (min x.2 b).toNat 0 + E.getD (max x.2 b).toNat 0) 1000001] = _
      have hv : E.getD (min x.2 b).toNat 0 + E.getD (max x.2 b).toNat 0 = m + a := by
        rcases hb with ⟨rfl, rfl⟩ | ⟨rfl, rfl⟩
        · rw [hx, show (min (x.1.length : Int) x.1.length).toNat = x.1.length by omega, show (max (x.1.length : Int) x.1.length).toNat = x.1.length by omega, e4]
        · rw [hx, show (min (x.1.length : Int) 0).toNat = 0 by omega, show (max (x.1.length : Int) 0).toNat = x.1.length by omega, e3, e4]
          omega
      rw [hv]
      unfold leastI
      rw [if_pos (by omega)]
    show [sumL ((E.map fun e => [e]).getD (min x.2 b).toNat []) ((E.map fun e => [e]).getD (max x.2 b).toNat [])] = _
    rw [getD_row E (by rcases hb with ⟨rfl, rfl⟩ | ⟨rfl, rfl⟩ <;> omega), getD_row E (by rcases hb with ⟨rfl, rfl⟩ | ⟨rfl, rfl⟩ <;> omega), hs]
    rfl
  · rw [List.getD_eq_getElem?_getD, List.getElem?_append_left (by omega), ← List.getD_eq_getElem?_getD, e3]
  · rw [hl, List.getD_eq_getElem?_getD, List.getElem?_append_right (by omega), e2]
    simp
  · intro e he
    rcases List.mem_append.1 he with h | h
    · exact e5 e h
    · simp at h; omega

theorem top_bit {n : Nat} (hn1 : 1 ≤ n) (hn : n ≤ 1000000) : 1 ≤ Lib.bitLen n ∧ n / 2 ^ (Lib.bitLen n - 1) = 1 := by
  have h1 : 1 ≤ Lib.bitLen n := bl_more (n := n) (b := 0) hn (by simp; omega)
  refine ⟨h1, ?_⟩
  have h2 : 2 ^ (Lib.bitLen n - 1) ≤ n := by
    rcases Nat.lt_or_ge n (2 ^ (Lib.bitLen n - 1)) with h | h
    · have := Lib.bitLen_le n (Lib.bitLen n - 1) (by have := bl_bd hn; omega) h
      omega
    · exact h
  have h3 : n < 2 ^ (Lib.bitLen n - 1 + 1) := by
    rcases Nat.lt_or_ge n (2 ^ (Lib.bitLen n)) with h | h
    · rwa [show Lib.bitLen n - 1 + 1 = Lib.bitLen n by omega]
    · have := bl_more hn h
      omega
  rw [Nat.pow_succ] at h3
  have h4 := Nat.div_lt_of_lt_mul h3
  have h5 := Nat.div_pos h2 (Nat.two_pow_pos _)
  omega
theorem half_bit (n q : Nat) : n / 2 ^ q = 2 * (n / 2 ^ (q + 1)) + (if bitB n q then 1 else 0) := by
  have e : n / 2 ^ (q + 1) = n / 2 ^ q / 2 := by rw [Nat.pow_succ, Nat.div_div_eq_div_mul]
  rw [e]
  unfold bitB
  rcases Nat.mod_two_eq_zero_or_one (n / 2 ^ q) with h | h <;> rw [h] <;> simp <;> omega
theorem bnX_exp {n : Nat} (hn1 : 1 ≤ n) (hn : n ≤ 1000000) : ∀ j, j + 1 ≤ Lib.bitLen n → ExpL (bnX n (Lib.bitLen n) j) ((n / 2 ^ (Lib.bitLen n - 1 - j) : Nat) : Int) := by
  obtain ⟨h1, h2⟩ := top_bit hn1 hn
  intro j
  induction j with
  | zero => intro _; rw [Nat.sub_zero, h2]; exact exp_one
  | succ j ih =>
    intro hj
    have ih := ih (by omega)
    have hb := half_bit n (Lib.bitLen n - 2 - j)
    rw [show Lib.bitLen n - 2 - j + 1 = Lib.bitLen n - 1 - j by omega] at hb
    have hle : n / 2 ^ (Lib.bitLen n - 2 - j) ≤ 1000000 := Nat.le_trans (Nat.div_le_self _ _) hn
    rw [show Lib.bitLen n - 1 - (j + 1) = Lib.bitLen n - 2 - j by omega, hb]
    rw [hb] at hle
    obtain ⟨M, hM⟩ : ∃ M, n / 2 ^ (Lib.bitLen n - 1 - j) = M := ⟨_, rfl⟩
    rw [hM] at ih hle
    rw [hM]
    have hs := bnX_star n (Lib.bitLen n) j
    unfold bnX
    cases hbit : bitB n (Lib.bitLen n - 2 - j) with
    | true =>
      rw [hbit] at hle
      rw [if_pos rfl] at hle ⊢
      have e1 := exp_mu (b := (bnX n (Lib.bitLen n) j).2) hs ih (a := (M : Int)) (by omega) (.inl ⟨rfl, rfl⟩)
      have e2 := exp_mu (b := 0) (star_mu hs (.inl rfl)) e1 (a := 1) (by omega) (.inr ⟨rfl, rfl⟩)
      rw [show ((2 * M + (if true = true then 1 else 0) : Nat) : Int) = (M : Int) + (M : Int) + 1 by simp; omega]
      exact e2
    | false =>
      rw [hbit] at hle
      rw [if_neg (by decide)] at hle ⊢
      have e1 := exp_mu (b := (bnX n (Lib.bitLen n) j).2) hs ih (a := (M : Int)) (by omega) (.inl ⟨rfl, rfl⟩)
      rw [show ((2 * M + (if false = true then 1 else 0) : Nat) : Int) = (M : Int) + (M : Int) by simp; omega]
      exact e1

theorem star_okS {x : List (Int × Int) × Int} (h : StarL x) : OkS 1 x.1 := by
  intro i hi
  obtain ⟨h1, h2⟩ := h.2 i hi
  omega
theorem okPre_ofS {n : Nat} {s : List (Int × Int)} (h : OkS n s) : ∀ k, k ≤ s.length → okPre n s k = true := by
  intro k
  induction k with
  | zero => intro _; rfl
  | succ k ih =>
    intro hk
    rw [okPre_succ _ _ _ (by omega), ih (by omega)]
    obtain ⟨h1, h2, h3⟩ := h k (by omega)
    unfold stepOk inB
    simp only [Bool.true_and, Bool.and_eq_true, decide_eq_true_eq]
    omega
theorem star_good {x : List (Int × Int) × Int} {m : Int} (h : StarL x) (hE : ExpL x m) (hl : x.1.length ≤ 40) : good ⟨1, x.1, [x.2]⟩ = true := by
  have h1 : okPre 1 x.1 x.1.length = true := okPre_ofS (n := 1) (star_okS h) _ (Nat.le_refl _)
  obtain ⟨E, e1, _, _, _, e5⟩ := hE
  have h2 : expsB (exps 1 x.1) = true := by
    rw [e1]
    unfold expsB
    rw [List.all_eq_true]
    intro r hr
    obtain ⟨e, he, rfl⟩ := List.mem_map.1 hr
    have := e5 e he
    simp [allB, inB]
    omega
  have h3 : allB [x.2] 0 (1 + (x.1.length : Int) - 1) = true := by
    simp [allB, inB, h.1]
    omega
  unfold good
  simp only [show ((1 : Int)).toNat = 1 from rfl]
  rw [h1, h2, h3]
  simp [inB, hl]
theorem star_need {x : List (Int × Int) × Int} (h : StarL x) : ∀ j, j < x.1.length → hasI (needI 1 x.1 [x.2] j) (1 + ((x.1.length - 1 - j : Nat) : Int)) = true := by
  intro j
  induction j with
  | zero =>
    intro hj
    unfold hasI needI
    rw [h.1]
    simp
    omega
  | succ j ih =>
    intro hj
    have h1 := ih (by omega)
    rw [need_hit (i := x.1.length - 1 - j) (by omega) rfl (by exact_mod_cast h1), hasI_two]
    have h2 := (h.2 (x.1.length - 1 - j) (by omega)).1
    rw [h2]
    have e : (1 + ((x.1.length - 1 - (j + 1) : Nat) : Int)) = ((x.1.length - 1 - j : Nat) : Int) := by omega
    rw [e]
    simp
theorem star_usd {x : List (Int × Int) × Int} (h : StarL x) : usd 1 x.1 [x.2] = (List.range x.1.length).map fun i : Nat => (i : Int) := by
  unfold usd usT
  rw [Nat.sub_self, List.range_eq_range']
  congr 1
  rw [List.filter_eq_self]
  intro i hi
  rw [List.mem_range'_1] at hi
  have h1 := star_need h (x.1.length - 1 - i) (by omega)
  rw [show x.1.length - 1 - (x.1.length - 1 - i) = i by omega] at h1
  exact fin_of_has (j := x.1.length - 1 - i) (by omega) h1 (by omega)
theorem plc_range {m k : Nat} (hk : k < m) : plc ((List.range m).map fun i : Nat => (i : Int)) (k : Int) 0 = k := by
  refine plc_hit (k := k) (by simpa using hk) ?_ (by simp)
  unfold hasI
  simp only [List.contains_eq_mem, decide_eq_false_iff_not]
  intro hm
  obtain ⟨i, hi, e⟩ := List.mem_iff_getElem.1 hm
  simp at hi e
  omega
theorem numI_range {m : Nat} {v : Int} (_h0 : 0 ≤ v) (hv : v < 1 + m) : numI 1 ((List.range m).map fun i : Nat => (i : Int)) v = v := by
  unfold numI
  split
  · rfl
  · obtain ⟨k, hk⟩ : ∃ k : Nat, v - 1 = (k : Int) := ⟨(v - 1).toNat, by omega⟩
    rw [show v - ((1 : Nat) : Int) = (k : Int) by omega, plc_range (by omega)]
    omega
theorem star_trim {x : List (Int × Int) × Int} {m : Int} (h : StarL x) (hE : ExpL x m) (hl : x.1.length ≤ 40) : trimR ⟨1, x.1, [x.2]⟩ = ⟨1, x.1, [x.2]⟩ := by
  have hg := star_good h hE hl
  rw [trimR_good (N := 1) hg rfl]
  simp only [star_usd h]
  have hS : keepS ⟨1, x.1, [x.2]⟩ 1 ((List.range x.1.length).map fun i : Nat => (i : Int)) ((List.range x.1.length).map fun i : Nat => (i : Int)).length = x.1 := by
    unfold keepS
    rw [List.take_of_length_le (Nat.le_refl _)]
    apply List.ext_getElem
    · simp
    · intro i h1 h2
      obtain ⟨a1, a2⟩ := h.2 i h2
      simp only [List.getElem_map, List.getElem_range, Int.toNat_natCast]
      have e : x.1.getD i (0, 0) = x.1[i] := by simp [h2]
      rw [e, numI_range (by omega) (by omega), numI_range (by omega) (by omega), stI_min]
      have : min (x.1[i]).1 (x.1[i]).2 = (x.1[i]).1 := by omega
      have : max (x.1[i]).1 (x.1[i]).2 = (x.1[i]).2 := by omega
      rw [‹min _ _ = _›, ‹max _ _ = _›]
  have hO : keepO ⟨1, x.1, [x.2]⟩ 1 ((List.range x.1.length).map fun i : Nat => (i : Int)) 1 = [x.2] := by
    unfold keepO
    show [numI 1 _ x.2] = _
    rw [numI_range (by have := h.1; omega) (by have := h.1; omega)]
  rw [hS]
  show (⟨1, x.1, keepO ⟨1, x.1, [x.2]⟩ 1 _ 1⟩ : Pl) = _
  rw [hO]
theorem bnP_good {n : Nat} (hn1 : 1 ≤ n) (hn : n ≤ 1000000) : good (bnP n) = true ∧ trimR (bnP n) = bnP n ∧ (bnP n).s.length ≤ 38 := by
  obtain ⟨h1, h2⟩ := top_bit hn1 hn
  have hs := bnX_star n (Lib.bitLen n) (Lib.bitLen n - 1)
  have he := bnX_exp hn1 hn (Lib.bitLen n - 1) (by omega)
  have hl := bnX_len n (Lib.bitLen n) (Lib.bitLen n - 1)
  have hb := bl_bd hn
  exact ⟨star_good hs he (by omega), star_trim hs he (by omega), by show (bnX _ _ _).1.length ≤ 38; omega⟩
end Go.Proofs.Ytodjnafalbbmjaa
/- Windows of one digit make the plan by binary digits; the method of the program. -/
namespace Go.Proofs.Ytodjnafalbbmjaa
open Go.RowKit

def wk (n k : Nat) : List (Int × Int) := wnF 1 (bwZ (dgs 2 n) k)
theorem dgs2_len {n : Nat} (hn : n ≤ 1000000) : (dgs 2 n).length = Lib.bitLen n := by unfold dgs; rw [digL_len, lenD_bl hn]
theorem wk_succ {n k : Nat} (hn : n ≤ 1000000) (hk : k < Lib.bitLen n) : wk n (k + 1) = if bitB n (Lib.bitLen n - 1 - k) then wk n k ++ [(((Lib.bitLen n - 1 - k : Nat) : Int), 1)] else wk n k := by
  have hl := dgs2_len hn
  have hb := bl_bd hn
  obtain ⟨h1, h2⟩ := dgs_at (n := n) (j := Lib.bitLen n - 1 - k) hn (by omega)
  unfold wk
  rw [show bwZ (dgs 2 n) (k + 1) = bwZ (dgs 2 n) k ++ [((dgs 2 n).length - 1 - k, (dgs 2 n)[(dgs 2 n).length - 1 - k]?.getD 0)] from bwd_succ _ _ _, wnF_snoc, hl]
  rw [List.getElem?_eq_getElem h1, h2]
  unfold wnS
  cases hbit : bitB n (Lib.bitLen n - 1 - k) with
  | true =>
    simp only [if_true, Option.getD_some]
    rw [if_neg (by decide)]
    have e : wrap64 (((Lib.bitLen n - 1 - k : Nat) : Int) * 1) = ((Lib.bitLen n - 1 - k : Nat) : Int) := by
      rw [Int.mul_one]
      unfold wrap64
      omega
    rw [e]
  | false => simp

structure WkOk (n L k : Nat) (W : List (Int × Int)) : Prop where
  pos : 1 ≤ W.length
  few : W.length ≤ k
  rng : ∀ i (h : i < W.length), ((L - k : Nat) : Int) ≤ (W[i]).1 ∧ (W[i]).1 ≤ ((L - 1 : Nat) : Int) ∧ (W[i]).2 = 1
  dec : ∀ i (h : i + 1 < W.length), (W[i + 1]).1 ≤ (W[i]'(by omega)).1
  low : ((L - k : Nat) : Int) ≤ (thI [0, 0] [] W (W.length - 1)).2
  plan : bnX n L (k - 1) = sqN 1 (thI [0, 0] [] W (W.length - 1)).1 ((thI [0, 0] [] W (W.length - 1)).2 - ((L - k : Nat) : Int)).toNat
theorem thI_app (pw : List Int) (x0 : List (Int × Int)) {W : List (Int × Int)} (h : 1 ≤ W.length) (w : Int × Int) : thI pw x0 (W ++ [w]) (W.length - 1) = thI pw x0 W (W.length - 1) := by
  unfold thI
  cases W with
  | nil => simp at h
  | cons a W => simp
theorem thI_snoc (pw : List Int) (x0 : List (Int × Int)) {W : List (Int × Int)} (h : 1 ≤ W.length) (w : Int × Int) : thI pw x0 (W ++ [w]) W.length = thF pw (thI pw x0 W (W.length - 1)) w := by
  obtain ⟨q, hq⟩ : ∃ q, W.length = q + 1 := ⟨W.length - 1, by omega⟩
  have h1 := thI_succ pw x0 (W := W ++ [w]) (i := q) (by simp; omega)
  have h2 : (W ++ [w])[q + 1]'(by simp; omega) = w := by
    rw [List.getElem_append_right (by omega)]
    simp [hq]
  rw [h2] at h1
  have h3 := thI_app pw x0 h w
  rw [hq, Nat.add_sub_cancel] at h3
  rw [hq, Nat.add_sub_cancel, h1, h3]
theorem bnX_step (n L j : Nat) : bnX n L (j + 1) = if bitB n (L - 2 - j) then muS 1 (sqN 1 (bnX n L j) 1) 0 else sqN 1 (bnX n L j) 1 := rfl
theorem sqN_add (x : List (Int × Int) × Int) (k : Nat) : sqN 1 (sqN 1 x k) 1 = sqN 1 x (k + 1) := rfl
theorem wk_ok {n : Nat} (hn1 : 1 ≤ n) (hn : n ≤ 1000000) : ∀ k, 1 ≤ k → k ≤ Lib.bitLen n → WkOk n (Lib.bitLen n) k (wk n k) := by
  obtain ⟨h1, h2⟩ := top_bit hn1 hn
  intro k
  induction k with
  | zero => intro h; omega
  | succ k ih =>
    intro _ hk
    rcases Nat.eq_zero_or_pos k with rfl | hk0
    · have e : wk n 1 = [(((Lib.bitLen n - 1 : Nat) : Int), 1)] := by
        rw [wk_succ hn (by omega)]
        have hbit : bitB n (Lib.bitLen n - 1 - 0) = true := by
          unfold bitB
          rw [Nat.sub_zero, h2]
          rfl
        rw [hbit, if_pos rfl, Nat.sub_zero]
        rfl
      rw [show 0 + 1 = 1 from rfl, e]
      refine ⟨Nat.le_refl _, Nat.le_refl _, fun i h => ?_, fun i h => absurd h (by simp), ?_, ?_⟩
      · have : i = 0 := by simpa using h
        subst this
        exact ⟨Int.le_refl _, Int.le_refl _, rfl⟩
      · show ((Lib.bitLen n - 1 : Nat) : Int) ≤ ((Lib.bitLen n - 1 : Nat) : Int)
        omega
      · show ([], 0) = sqN 1 ([], 0) (((Lib.bitLen n - 1 : Nat) : Int) - ((Lib.bitLen n - 1 : Nat) : Int)).toNat
        rw [show (((Lib.bitLen n - 1 : Nat) : Int) - ((Lib.bitLen n - 1 : Nat) : Int)).toNat = 0 by omega]
        rfl
    · obtain ⟨p1, p2, p3, p4, p5, p6⟩ := ih hk0 (by omega)
      have hw := wk_succ (n := n) (k := k) hn (by omega)
      have hstep := bnX_step n (Lib.bitLen n) (k - 1)
      rw [show k - 1 + 1 = k by omega, show Lib.bitLen n - 2 - (k - 1) = Lib.bitLen n - 1 - k by omega, p6] at hstep
      obtain ⟨s, hs⟩ : ∃ s, thI [0, 0] [] (wk n k) ((wk n k).length - 1) = s := ⟨_, rfl⟩
      rw [hs] at p5 hstep
      have hd : (s.2 - ((Lib.bitLen n - k : Nat) : Int)).toNat + 1 = (s.2 - ((Lib.bitLen n - (k + 1) : Nat) : Int)).toNat := by omega
      rw [sqN_add, hd] at hstep
      cases hbit : bitB n (Lib.bitLen n - 1 - k) with
      | true =>
        rw [hbit, if_pos rfl] at hw hstep
        rw [hw]
        have hsn := thI_snoc [0, 0] [] p1 (((Lib.bitLen n - 1 - k : Nat) : Int), 1)
        rw [hs] at hsn
        have hlen : (wk n k ++ [(((Lib.bitLen n - 1 - k : Nat) : Int), (1 : Int))]).length = (wk n k).length + 1 := by simp
        refine ⟨by omega, by omega, fun i h => ?_, fun i h => ?_, ?_, ?_⟩
        · rcases Nat.lt_or_ge i (wk n k).length with hl | hl
          · rw [List.getElem_append_left hl]
            have := p3 i hl
            exact ⟨by omega, this.2.1, this.2.2⟩
          · have e : i = (wk n k).length := by omega
            subst e
            rw [List.getElem_append_right (Nat.le_refl _)]
            simp only [Nat.sub_self, List.getElem_singleton]
            exact ⟨by omega, by omega, trivial⟩
        · rcases Nat.lt_or_ge (i + 1) (wk n k).length with hl | hl
          · rw [List.getElem_append_left hl, List.getElem_append_left (by omega)]
            exact p4 i hl
          · have e : i + 1 = (wk n k).length := by omega
            rw [List.getElem_append_right (by omega), List.getElem_append_left (by omega)]
            simp only [show i + 1 - (wk n k).length = 0 by omega, List.getElem_singleton]
            have := (p3 i (by omega)).1
            omega
        · rw [hlen, Nat.add_sub_cancel, hsn]
          show ((Lib.bitLen n - (k + 1) : Nat) : Int) ≤ ((Lib.bitLen n - 1 - k : Nat) : Int)
          omega
        · rw [hlen, Nat.add_sub_cancel, Nat.add_sub_cancel, hsn, hstep]
          show muS 1 (sqN 1 s.1 (s.2 - ((Lib.bitLen n - (k + 1) : Nat) : Int)).toNat) 0 = sqN 1 (muS 1 (sqN 1 s.1 (s.2 - ((Lib.bitLen n - 1 - k : Nat) : Int)).toNat) 0) (((Lib.bitLen n - 1 - k : Nat) : Int) - ((Lib.bitLen n - (k + 1) : Nat) : Int)).toNat
          rw [show (((Lib.bitLen n - 1 - k : Nat) : Int) - ((Lib.bitLen n - (k + 1) : Nat) : Int)).toNat = 0 by omega, show Lib.bitLen n - 1 - k = Lib.bitLen n - (k + 1) by omega]
          rfl
      | false =>
        rw [hbit, if_neg (by decide)] at hw hstep
        rw [hw]
        refine ⟨p1, by omega, fun i h => ?_, p4, ?_, ?_⟩
        · have := p3 i h
          exact ⟨by omega, this.2.1, this.2.2⟩
        · rw [hs]; omega
        · rw [hs, Nat.add_sub_cancel]; exact hstep
theorem wins_wk {n : Nat} (hn : n ≤ 1000000) : wins 1 2 n = wk n (Lib.bitLen n) := by unfold wins wk; rw [dgs2_len hn]
theorem wins_ok {n : Nat} (hn1 : 1 ≤ n) (hn : n ≤ 1000000) : WinOk [(0 : Int), 0].length (wins 1 2 n) ∧ thP [0, 0] [] (wins 1 2 n) = bnP n ∧ grW (wins 1 2 n) (wins 1 2 n).length = 1 := by
  obtain ⟨h1, _⟩ := top_bit hn1 hn
  have hb := bl_bd hn
  have h := wk_ok hn1 hn (Lib.bitLen n) h1 (Nat.le_refl _)
  rw [wins_wk hn]
  refine ⟨⟨h.pos, by have := h.few; omega, fun i hi => ?_, h.dec⟩, ?_, ?_⟩
  · obtain ⟨a, b, c⟩ := h.rng i hi
    rw [c]
    exact ⟨by omega, by omega, by decide, by decide⟩
  · have hp := h.plan
    rw [Nat.sub_self] at hp
    unfold thP thE bnP
    rw [hp]
    simp
  · have hall : ∀ k, 1 ≤ k → k ≤ (wk n (Lib.bitLen n)).length → grW (wk n (Lib.bitLen n)) k = 1 := by
      intro k
      induction k with
      | zero => intro h; omega
      | succ k ih =>
        intro _ hk
        rw [grW_succ _ (by omega), (h.rng k (by omega)).2.2]
        rcases Nat.eq_zero_or_pos k with rfl | hk0
        · rfl
        · rw [ih hk0 (by omega)]; rfl
    exact hall _ h.pos (Nat.le_refl _)
end Go.Proofs.Ytodjnafalbbmjaa
/- The method of one digit, by the program. -/
namespace Go.Proofs.Ytodjnafalbbmjaa
open Go.RowKit

set_option maxRecDepth 100000 in
set_option maxHeartbeats 2000000 in
theorem binFor_any (n : Nat) (w : World) (hn1 : 1 ≤ n) (hn : n ≤ 1000000) :
    Calls Try.prog 100 #[.agg #[.int .i64 1], .int .i64 (n : Int)] w fun e w' =>
      ∃ R1 R2 v1 v2, e = .returned (.tuple #[.agg #[.int .i64 (mkR (bnP n)).n, .slice R1 (mkR (bnP n)).s.length v1, .slice R2 (mkR (bnP n)).o.length v2], .bool (good (bnP n))]) ∧ OwP w' w.heap.size R1 R2 v1 v2 (mkR (bnP n)) ∧ Below w.heap.size w w' := by
  obtain ⟨hg, ht, _⟩ := bnP_good hn1 hn
  obtain ⟨hW, hP, hG⟩ := wins_ok hn1 hn
  have hWA := fun W => windows1_any n W hn1 hn
  obtain ⟨W, hWW⟩ : ∃ W, wins 1 2 n = W := ⟨_, rfl⟩
  rw [hWW] at hW hP hG hWA
  have hlW := hW.few
  have EM := Lib.hid (mkR_true hg)
  have EG := Lib.hid hg
  have ET := Lib.hid ht
  have EP := Lib.hid hP
  have EGR := Lib.hid hG
  have HW := Lib.hid hW
  have HWA := Lib.hid hWA
  rw [EM.out]
  clear hg ht hW hP hG hWA hWW
  go_enter Try.func100, Try.ntmps100
  go_wp2_with fail
  go_at_call 101
  generalize hw1 : World.alloc (World.alloc w _) _ = w1
  obtain ⟨q0, xs, xb⟩ := me_box hw1
  clear hw1
  generalize hw2 : World.alloc w1 _ = w2
  obtain ⟨mk2, b2⟩ := mk_new (B := w1.heap.size) hw2
  rw [xs] at mk2 b2
  clear hw2
  have Q0 := Lib.hid q0
  have XB := Lib.hid xb
  have XS := Lib.hid xs
  have MK := Lib.hid mk2
  have B2 := Lib.hid b2
  have hs2 := b2.size
  clear q0 xs xb mk2 b2
  refine (HWA.out w2).mono ?_
  rintro e w3 ⟨A, c, rfl, ho3, hb3⟩
  have hs3 := hb3.size
  have M3 := Lib.hid (MK.out.below hb3)
  have B3 := Lib.hid (B2.out.trans (hb3.mono (show w.heap.size + 1 + 1 ≤ w2.heap.size by have := XS.out; omega)))
  have O3 := Lib.hid ho3
  clear ho3 hb3
  go_wp2_with fail
  go_at_call 104
  refine (greatestOf_any w3.heap.size A c W w3 (Nat.le_refl _) (by omega) (Rd.of_own O3.out)).mono ?_
  rw [EGR.out]
  rintro e w4 ⟨rfl, hb4⟩
  have hs4 := hb4.size
  have M4 := Lib.hid (M3.out.below hb4)
  have B4 := Lib.hid (B3.out.trans (hb4.mono (show w.heap.size + 1 + 1 ≤ w3.heap.size by have := XS.out; omega)))
  have O4 := Lib.hid (O3.out.below hb4)
  clear hb4
  go_wp2_with fail
  go_at_call 103
  refine (allPowers1_any _ w4).mono ?_
  rintro e w5 ⟨AP, cp, rfl, hop, hb5⟩
  have M5 := Lib.hid (M4.out.below hb5)
  have B5 := Lib.hid (B4.out.trans (hb5.mono (show w.heap.size + 1 + 1 ≤ w4.heap.size by have := XS.out; omega)))
  have O5 := Lib.hid (O4.out.below hb5)
  have P5 := Lib.hid hop
  have hs5 := hb5.size
  clear hop hb5
  go_wp2_with fail
  go_at_call 102
  refine (through_any (w.heap.size + 1 + 1) (w.heap.size + 1 + 1) A AP c cp _ _ W [0, 0] [] w5 (Nat.le_refl _) M5.out HW.out (by simp) (by simp) O5.out P5.out).mono ?_
  rw [EP.out, ET.out]
  rintro e w6 ⟨R1, R2, v1, v2, rfl, ho6, hb6⟩
  have hb16 : Below (w.heap.size + 1 + 1) w1 w6 := B5.out.trans hb6
  have q6 := (hb16.block (w.heap.size + 1) (by omega)).trans Q0.out
  obtain ⟨t0, t1, t2, g0, g1, g2⟩ := cells3 q6
  have B6 := Lib.hid (XB.out.trans (hb16.mono (by omega)))
  have O6 := Lib.hid ho6
  have Q6 := Lib.hid q6
  clear hb16 ho6 hb6 q6
  go_wp2
  refine bodyPost_ret (v := .tuple #[.agg #[.int .i64 (bnP n).n, .slice R1 (bnP n).s.length v1, .slice R2 (bnP n).o.length v2], .bool (good (bnP n))]) (by simp [results, Try.results100, go_sem, t0, t1, t2]) rfl ⟨R1, R2, v1, v2, rfl, ?_, ?_⟩
  · refine owP_of3 (own_base O6.out.1 (by have := XS.out; omega)) (own_base O6.out.2 (by have := XS.out; omega)) Q6.out (by decide) (by decide) rfl rfl _ _ _
  · exact ((B6.out.setCell (by simp) _).setCell (by simp) _).setCell (by simp) _
theorem bnP_len {n : Nat} (hn : n ≤ 1000000) : (bnP n).s.length ≤ 1000 ∧ (bnP n).o.length ≤ 1000 := by
  have h1 := bnX_len n (Lib.bitLen n) (Lib.bitLen n - 1)
  have h2 := bl_bd hn
  exact ⟨by show (bnX n (Lib.bitLen n) (Lib.bitLen n - 1)).1.length ≤ 1000; omega, by simp [bnP]⟩
end Go.Proofs.Ytodjnafalbbmjaa
/- The plan by binary digits, by the model. -/
namespace Go.Proofs.Ytodjnafalbbmjaa
open Go.RowKit

set_option maxRecDepth 100000 in
set_option maxHeartbeats 4000000 in
theorem meBinary_any (n : Nat) (w : World) (hn1 : 1 ≤ n) (hn : n ≤ 1000000) :
    Calls Try.prog 46 #[.int .i64 (n : Int)] w fun e w' =>
      ∃ A1 A2 c1 c2, e = .returned (.agg #[.int .i64 (bnP n).n, .slice A1 (bnP n).s.length c1, .slice A2 (bnP n).o.length c2]) ∧ OwP w' w.heap.size A1 A2 c1 c2 (bnP n) ∧ Below w.heap.size w w' := by
  have HAT := Lib.hid (fun (j : Nat) (h : j < Lib.bitLen n) => dgs_at hn h)
  obtain ⟨L, hL⟩ : ∃ L, Lib.bitLen n = L := ⟨_, rfl⟩
  have hL20 : L ≤ 20 := by rw [← hL]; exact bl_bd hn
  have hL1 : 1 ≤ L := by rw [← hL]; exact bl_more (n := n) (b := 0) hn (by simp; omega)
  have EP := Lib.hid (show bnP n = ⟨1, (bnX n L (L - 1)).1, [(bnX n L (L - 1)).2]⟩ by unfold bnP; rw [hL])
  have hdl : (dgs 2 n).length = L := by unfold dgs; rw [digL_len, lenD_bl hn, hL]
  have hD := fun W => meDigits_any 2 n W (by omega) (by omega) hn
  rw [hL] at HAT
  obtain ⟨D, hDD⟩ : ∃ D, dgs 2 n = D := ⟨_, rfl⟩
  rw [hDD] at hD hdl
  have HAT2 := Lib.hid (show ∀ j, j < L → ∃ h : j < D.length, D[j] = if bitB n j then 1 else 0 from fun j h => by
    subst hDD
    exact HAT.out j h)
  rw [hdl] at hD
  have HDG := Lib.hid hD
  have HDL := Lib.hid hdl
  clear hL HAT hdl hD hDD
  go_enter Try.func46, Try.ntmps46
  go_wp2_with fail
  go_at_call 41
  generalize hw1 : World.alloc w _ = w1
  obtain ⟨q0, xs, xb⟩ := zero_box hw1
  clear hw1
  have Q0 := Lib.hid q0
  have XB := Lib.hid xb
  have XS := Lib.hid xs
  clear q0 xs xb
  refine (HDG.out w1).mono ?_
  rintro e w2 ⟨AD, cD, rfl, hod, hbd⟩
  have OWd := Lib.hid (show OwI w2 w1.heap.size (.slice AD D.length cD) D from by rw [HDL.out]; exact hod)
  have HBD := Lib.hid hbd
  clear hod hbd
  go_wp2_with fail
  generalize hw3 : World.alloc w2 _ = w3
  obtain ⟨mk3, b3⟩ := pk_new (B := w2.heap.size) hw3
  clear hw3
  have MK := Lib.hid mk3
  have B3 := Lib.hid b3
  clear mk3 b3
  go_loopw [5, 6] (fun vv iv wr => ∃ j : Nat, j + 1 ≤ L ∧ iv = .int .i64 ((L : Int) - 2 - j) ∧ vv = .int .i64 (bnX n L j).2 ∧ PkS wr w2.heap.size w2.heap.size 1 (bnX n L j).1 ∧ Below w2.heap.size w2 wr) (fun _ iv _ => (intOf iv + 1).toNat)
  case atStart => exact ⟨0, by omega, by go_num, rfl, MK.out, B3.out⟩
  case round =>
    obtain ⟨j, hj, rfl, rfl, hmk, hbel⟩ := hrel
    have MKR := Lib.hid hmk
    have BEL := Lib.hid hbel
    clear hmk hbel
    have hxl := bnX_len n L j
    by_cases hlt : j + 1 < L
    case neg =>
      have e : L = j + 1 := by omega
      subst e
      have ip : ¬ (0 : Int) ≤ ((j + 1 : Nat) : Int) - 2 - (j : Int) := by omega
      rw [Nat.add_sub_cancel] at EP
      obtain ⟨x, hx⟩ : ∃ x, bnX n (j + 1) j = x := ⟨_, rfl⟩
      rw [hx] at MKR EP hxl
      rw [hx]
      clear hx
      obtain ⟨A4, c4, hblk, hown⟩ := MKR.out
      obtain ⟨y0, y1, y2, _, _, _⟩ := cells3 hblk
      have OWN := Lib.hid hown
      clear hblk hown
      go_wp2_with fail
      go_at_call 63
      refine (meEnd_any w2.heap.size A4 none c4 0 0 1 x.2 x.1 wr BEL.out.size OWN.out).mono ?_
      rintro e w3 ⟨A5, rfl, hs3, ho3, hb3⟩
      have hb23 : Below w2.heap.size w2 w3 := BEL.out.trans (hb3.mono BEL.out.size)
      have hb13 : Below w1.heap.size w1 w3 := HBD.out.trans (hb23.mono HBD.out.size)
      have q3 := (hb13.block w.heap.size (by have := XS.out; omega)).trans Q0.out
      obtain ⟨t0, t1, t2, g0, g1, g2⟩ := cells3 q3
      have z1 := HBD.out.size
      have z2 := BEL.out.size
      have OS := Lib.hid hs3
      have OO := Lib.hid ho3
      have Q3 := Lib.hid q3
      have B13 := Lib.hid (XB.out.trans (hb13.mono (by have := XS.out; omega)))
      clear hs3 ho3 hb3 hb23 hb13 q3 y0 y1 y2
      go_wp2
      refine bodyPost_ret (v := .agg #[.int .i64 1, .slice A4 x.1.length c4, .slice A5 1 1]) (by simp [results, Try.results46, go_sem, t0, t1, t2]) rfl ⟨A4, A5, c4, 1, by rw [EP.out]; rfl, ?_, ?_⟩
      · rw [EP.out]
        exact owP_of3 (own_base OS.out (by have := XS.out; omega)) (own_base OO.out (by have := XS.out; omega)) Q3.out (by decide) (by decide) rfl rfl _ _ _
      · exact ((B13.out.setCell (by simp) _).setCell (by simp) _).setCell (by simp) _
    case pos =>
    obtain ⟨p, hp⟩ : ∃ p : Nat, L - 2 - j = p := ⟨_, rfl⟩
    have ep : (L : Int) - 2 - (j : Int) = (p : Int) := by omega
    have ip : (0 : Int) ≤ (p : Int) := by omega
    have hpL : p < L := by omega
    have ipL : (p : Int) < (L : Int) := by omega
    obtain ⟨x, hx⟩ : ∃ x, bnX n L j = x := ⟨_, rfl⟩
    have ES := Lib.hid (show bnX n L (j + 1) = if bitB n p then muS 1 (muS 1 x x.2) 0 else muS 1 x x.2 by rw [← hx, ← hp]; rfl)
    rw [hx] at MKR hxl
    rw [hx, ep]
    obtain ⟨y, hy⟩ : ∃ y, muS 1 x x.2 = y := ⟨_, rfl⟩
    rw [hy] at ES
    have Y1 := Lib.hid (show y.1 = x.1 ++ [stI x.2 x.2] by rw [← hy]; rfl)
    have Y2 := Lib.hid (show y.2 = 1 + (x.1.length : Int) by rw [← hy]; rfl)
    have hyl : y.1.length ≤ 42 := by rw [Y1.out]; simp; omega
    clear hx hp hy
    obtain ⟨A4, c4, hblk, hos⟩ := MKR.out
    obtain ⟨y0, y1, y2, _, _, _⟩ := cells3 hblk
    have BLK := Lib.hid hblk
    have hT := meTimes_any wr.heap.size A4 none c4 0 0 1 x.1 x.2 x.2 wr (Nat.le_refl _) (by omega) (by omega) (by omega) (Rd.of_own hos)
    have HT := Lib.hid hT
    clear hblk hos hT
    go_upto_region 8 with (go_at_call 62; refine HT.out.mono ?_; rintro e' w3 ⟨A5, c5, rfl, ho3, hb3⟩; have h3 := (hb3.block _ (Array.getElem?_eq_some_iff.1 BLK.out).1).trans BLK.out; obtain ⟨t0, t1, t2, g0, g1, g2⟩ := cells3 h3)
    obtain ⟨w4, hw4⟩ : ∃ w4, ((World.setCell w3 ⟨w2.heap.size, 0, none⟩ (.int .i64 1)).setCell ⟨w2.heap.size, 1, none⟩ (.slice A5 (x.1.length + 1) c5)).setCell ⟨w2.heap.size, 2, none⟩ (.slice none 0 0) = w4 := ⟨_, rfl⟩
    rw [hw4]
    have mn := pk_set (cs := #[_, _, _]) (by simp) h3 (own_base ho3 BEL.out.size) hw4
    rw [← Y1.out] at mn
    have MN := Lib.hid mn
    have BN := Lib.hid (show Below w2.heap.size w2 w4 from by subst hw4; exact (((BEL.out.trans (hb3.mono BEL.out.size)).setCell (Nat.le_refl _) _).setCell (Nat.le_refl _) _).setCell (Nat.le_refl _) _)
    clear hw4 h3 ho3 hb3 y0 y1 y2 t0 t1 t2 g0 g1 g2 mn
    rw [← Y2.out]
    obtain ⟨hkD, hval⟩ := HAT2.out p hpL
    obtain ⟨b2, off2, rfl, hb2, hcell⟩ := (show OwI w4 w1.heap.size (.slice AD D.length cD) D from own_below OWd.out BN.out).rd.int hkD
    rw [hval] at hcell
    clear hval
    cases hbit : bitB n p with
    | true =>
      rw [hbit, if_pos rfl] at hcell ES
      clear hbit
      obtain ⟨A6, c6, hblk6, hos6⟩ := MN.out
      obtain ⟨y0, y1, y2, _, _, _⟩ := cells3 hblk6
      have BLK6 := Lib.hid hblk6
      have hT6 := meTimes_any w4.heap.size A6 none c6 0 0 1 y.1 y.2 0 w4 (Nat.le_refl _) (by omega) (by omega) (by omega) (Rd.of_own hos6)
      have HT6 := Lib.hid hT6
      clear hblk6 hos6 hT6
      go_wp2_with (go_at_call 62; refine HT6.out.mono ?_; rintro e' w6 ⟨A7, c7, rfl, ho6, hb6⟩; have h6 := (hb6.block _ (Array.getElem?_eq_some_iff.1 BLK6.out).1).trans BLK6.out; obtain ⟨t0, t1, t2, g0, g1, g2⟩ := cells3 h6)
      obtain ⟨w7, hw7⟩ : ∃ w7, ((World.setCell w6 ⟨w2.heap.size, 0, none⟩ (.int .i64 1)).setCell ⟨w2.heap.size, 1, none⟩ (.slice A7 (y.1.length + 1) c7)).setCell ⟨w2.heap.size, 2, none⟩ (.slice none 0 0) = w7 := ⟨_, rfl⟩
      rw [hw7]
      have MN7 := Lib.hid (pk_set (cs := #[_, _, _]) (by simp) h6 (own_base ho6 BN.out.size) hw7)
      have BN7 := Lib.hid (show Below w2.heap.size w2 w7 from by subst hw7; exact (((BN.out.trans (hb6.mono BN.out.size)).setCell (Nat.le_refl _) _).setCell (Nat.le_refl _) _).setCell (Nat.le_refl _) _)
      clear hw7 h6 ho6 hb6 y0 y1 y2 t0 t1 t2 g0 g1 g2
      go_roundw
      case rel => exact ⟨j + 1, by omega, by rw [← ep]; go_num, by rw [ES.out]; rfl, by rw [ES.out]; exact MN7.out, BN7.out⟩
      case measure => simp [intOf]
    | false =>
      rw [hbit, if_neg (by decide)] at hcell ES
      clear hbit
      go_wp2
      go_roundw
      case rel => exact ⟨j + 1, by omega, by rw [← ep]; go_num, by rw [ES.out], by rw [ES.out]; exact MN.out, BN.out⟩
      case measure => simp [intOf]
end Go.Proofs.Ytodjnafalbbmjaa
/- BinaryPlan: the wrappers of both sides. -/
namespace Go.Proofs.Ytodjnafalbbmjaa
open Go.RowKit

def bnR (x : Int) : Pl := if isNum x then mkR (bnP x.toNat) else zeroP
def bnG (x : Int) : Bool := isNum x && good (bnP x.toNat)
theorem bnR_false {x : Int} (h : isNum x = false) : bnR x = zeroP ∧ bnG x = false := ⟨by unfold bnR; rw [if_neg (by rw [h]; decide)], by unfold bnG; rw [h]; rfl⟩
theorem bnR_true {n : Nat} (h : isNum (n : Int) = true) : bnR (n : Int) = mkR (bnP n) ∧ bnG (n : Int) = good (bnP n) := ⟨by unfold bnR; rw [if_pos h]; rfl, by unfold bnG; rw [h]; rfl⟩
theorem bnR_len (x : Int) : (bnR x).s.length ≤ 1000 ∧ (bnR x).o.length ≤ 1000 := by
  unfold bnR
  split
  · rename_i h
    have ⟨r1, r2⟩ := isNum_rng h
    obtain ⟨l1, l2⟩ := bnP_len (n := x.toNat) (by omega)
    exact mkR_len _ l1 l2
  · exact ⟨by simp [zeroP], by simp [zeroP]⟩

set_option maxRecDepth 100000 in
set_option maxHeartbeats 1000000 in
theorem specBinaryPlan_any (x : Int) (w : World) : Calls Try.prog 20 #[.int .i64 x] w fun e w' => ∃ R1 R2 v1 v2, e = .returned (.tuple #[.agg #[.int .i64 (bnR x).n, .slice R1 (bnR x).s.length v1, .slice R2 (bnR x).o.length v2], .bool (bnG x)]) ∧ OwP w' w.heap.size R1 R2 v1 v2 (bnR x) ∧ Below w.heap.size w w' := by
  obtain ⟨gn, hgn⟩ : ∃ g, isNum x = g := ⟨_, rfl⟩
  have HN := Lib.hid hgn
  cases gn with
  | false =>
    obtain ⟨E1, E2⟩ := bnR_false hgn
    have e1 := Lib.hid E1
    have e2 := Lib.hid E2
    clear E1 E2 hgn
    go_enter Try.func20, Try.ntmps20
    go_wp2_with fail
    go_at_call 39
    generalize hw1 : World.alloc w _ = w1
    obtain ⟨q0, xs, xb⟩ := zero_box hw1
    clear hw1
    refine (chNumber_any x w1).mono ?_
    rw [HN.out]
    rintro e w' ⟨rfl, hww⟩
    subst w'
    obtain ⟨t0, t1, t2, g0, g1, g2⟩ := cells3 q0
    go_wp2
    refine bodyPost_ret (v := (.tuple #[.agg #[.int .i64 0, .slice none 0 0, .slice none 0 0], .bool false])) (by simp [results, Try.results20, go_sem, t0, t1, t2]) rfl ⟨none, none, 0, 0, by rw [e1.out, e2.out]; rfl, by rw [e1.out]; exact OwP.zero _ _, ?_⟩
    exact ((xb.setCell (Nat.le_refl _) _).setCell (Nat.le_refl _) _).setCell (Nat.le_refl _) _
  | true =>
    have ⟨r1, r2⟩ := isNum_rng hgn
    obtain ⟨n, rfl⟩ : ∃ n : Nat, x = n := ⟨x.toNat, by omega⟩
    obtain ⟨E1, E2⟩ := bnR_true hgn
    obtain ⟨l1, l2⟩ := bnP_len (n := n) (by omega)
    have hME := fun W => meBinary_any n W (by omega) (by omega)
    obtain ⟨P, hP⟩ : ∃ P, bnP n = P := ⟨_, rfl⟩
    rw [hP] at hME E1 E2 l1 l2
    have HME := Lib.hid hME
    have e1 := Lib.hid E1
    have e2 := Lib.hid E2
    clear hME E1 E2 hP hgn
    go_enter Try.func20, Try.ntmps20
    go_wp2_with fail
    go_at_call 39
    generalize hw1 : World.alloc w _ = w1
    obtain ⟨q0, xs, xb⟩ := zero_box hw1
    clear hw1
    have Q0 := Lib.hid q0
    have XB := Lib.hid xb
    have XS := Lib.hid xs
    clear q0 xs xb
    refine (chNumber_any n w1).mono ?_
    rw [HN.out]
    rintro e w' ⟨rfl, hww⟩
    subst w'
    go_wp2_with fail
    go_at_call 46
    refine (HME.out w1).mono ?_
    rintro e w3 ⟨A4, A5, c4, c5, rfl, ho3, hb3⟩
    have RD := Lib.hid ho3.rd
    have OWP := Lib.hid ho3
    have B3 := Lib.hid hb3
    clear ho3 hb3
    go_wp2_with fail
    go_at_call 45
    refine (plIf_any w3.heap.size A4 A5 c4 c5 P w3 (Nat.le_refl _) (by omega) (by omega) RD.out).mono ?_
    rintro e w5 ⟨rfl, hb5⟩
    have B5 := Lib.hid (B3.out.trans (hb5.mono B3.out.size))
    have Q5 := Lib.hid ((B5.out.block w.heap.size (by have := XS.out; omega)).trans Q0.out)
    have O5 := Lib.hid (OWP.out.below hb5)
    obtain ⟨R1, R2, v1, v2, hsel, hres, hbel⟩ := selV_mk (w0 := w) (B := w.heap.size) (g := w.heap.size) rfl O5.out (by have := XS.out; omega) ⟨_, Q5.out⟩ (XB.out.trans (B5.out.mono (by have := XS.out; omega))) (Nat.le_refl _)
    rw [hsel]
    rw [← e1.out] at hres hbel ⊢
    rw [← e2.out]
    obtain ⟨t0, t1, t2, g0, g1, g2⟩ := cells3 Q5.out
    have RES := Lib.hid hres
    have BRES := Lib.hid hbel
    clear hb5 hsel hres hbel
    go_wp2
    refine bodyPost_ret (v := .tuple #[.agg #[.int .i64 (bnR n).n, .slice R1 (bnR n).s.length v1, .slice R2 (bnR n).o.length v2], .bool (bnG n)]) (by simp [results, Try.results20, go_sem, t0, t1, t2]) rfl ⟨R1, R2, v1, v2, rfl, RES.out, BRES.out⟩

set_option maxRecDepth 100000 in
set_option maxHeartbeats 1000000 in
theorem planByBinaryPlan_any (x : Int) (w : World) : Calls Try.prog 56 #[.iface 52 (.agg #[.int .i64 1]), .int .i64 x] w fun e w' => ∃ R1 R2 v1 v2, e = .returned (.tuple #[.agg #[.int .i64 (bnR x).n, .slice R1 (bnR x).s.length v1, .slice R2 (bnR x).o.length v2], .bool (bnG x)]) ∧ OwP w' w.heap.size R1 R2 v1 v2 (bnR x) ∧ Below w.heap.size w w' := by
  obtain ⟨gn, hgn⟩ : ∃ g, isNum x = g := ⟨_, rfl⟩
  have HN := Lib.hid hgn
  cases gn with
  | false =>
    obtain ⟨E1, E2⟩ := bnR_false hgn
    have e1 := Lib.hid E1
    have e2 := Lib.hid E2
    clear E1 E2 hgn
    go_enter Try.func56, Try.ntmps56
    go_wp2_with fail
    go_at_call 42
    generalize hw1 : World.alloc w _ = w1
    obtain ⟨q0, xs, xb⟩ := zero_box hw1
    clear hw1
    refine (isExponent_any x w1).mono ?_
    rw [HN.out]
    rintro e w' ⟨rfl, hww⟩
    subst w'
    obtain ⟨t0, t1, t2, g0, g1, g2⟩ := cells3 q0
    go_wp2
    refine bodyPost_ret (v := (.tuple #[.agg #[.int .i64 0, .slice none 0 0, .slice none 0 0], .bool false])) (by simp [results, Try.results56, go_sem, t0, t1, t2]) rfl ⟨none, none, 0, 0, by rw [e1.out, e2.out]; rfl, by rw [e1.out]; exact OwP.zero _ _, ?_⟩
    exact ((xb.setCell (Nat.le_refl _) _).setCell (Nat.le_refl _) _).setCell (Nat.le_refl _) _
  | true =>
    have ⟨r1, r2⟩ := isNum_rng hgn
    obtain ⟨n, rfl⟩ : ∃ n : Nat, x = n := ⟨x.toNat, by omega⟩
    obtain ⟨E1, E2⟩ := bnR_true hgn
    have hME := fun W => binFor_any n W (by omega) (by omega)
    rw [← E1, ← E2] at hME
    obtain ⟨Q, hQ⟩ : ∃ Q, bnR (n : Int) = Q := ⟨_, rfl⟩
    obtain ⟨gd, hgd⟩ : ∃ Q, bnG (n : Int) = Q := ⟨_, rfl⟩
    rw [hQ, hgd] at hME
    rw [hQ, hgd]
    have HME := Lib.hid hME
    clear hME E1 E2 hQ hgd hgn
    go_enter Try.func56, Try.ntmps56
    go_wp2_with fail
    go_at_call 42
    generalize hw1 : World.alloc w _ = w1
    obtain ⟨q0, xs, xb⟩ := zero_box hw1
    clear hw1
    have Q0 := Lib.hid q0
    have XB := Lib.hid xb
    have XS := Lib.hid xs
    clear q0 xs xb
    refine (isExponent_any n w1).mono ?_
    rw [HN.out]
    rintro e w' ⟨rfl, hww⟩
    subst w'
    go_wp2_with fail
    go_at_call 100
    refine (HME.out w1).mono ?_
    rintro e w5 ⟨R1, R2, v1, v2, rfl, ho5, hb5⟩
    have q5 := (hb5.block w.heap.size (by have := XS.out; omega)).trans Q0.out
    obtain ⟨t0, t1, t2, g0, g1, g2⟩ := cells3 q5
    have B5 := Lib.hid (XB.out.trans (hb5.mono (by have := XS.out; omega)))
    have O5 := Lib.hid ho5
    have Q5 := Lib.hid q5
    clear hb5 ho5 q5
    go_wp2
    refine bodyPost_ret (v := .tuple #[.agg #[.int .i64 Q.n, .slice R1 Q.s.length v1, .slice R2 Q.o.length v2], .bool gd]) (by simp [results, Try.results56, go_sem, t0, t1, t2]) rfl ⟨R1, R2, v1, v2, rfl, ?_, ?_⟩
    · refine owP_of3 (own_base O5.out.1 (by have := XS.out; omega)) (own_base O5.out.2 (by have := XS.out; omega)) Q5.out (by decide) (by decide) rfl rfl _ _ _
    · exact ((B5.out.setCell (Nat.le_refl _) _).setCell (Nat.le_refl _) _).setCell (Nat.le_refl _) _

set_option maxRecDepth 100000 in
theorem lookBinaryPlan {w : World} {b : Nat} (h : w.ownsMap Try.prog 9 mR b 7 mD) : (Instr.lookup 64 (.map (some b)) (.string ⟨#[98, 105, 110, 97, 114, 121]⟩) false).run Try.prog w = .ok (.iface 52 (.agg #[.int .i64 1])) w := by
  obtain ⟨v, ps, hrun, hv⟩ := h.lookup mKey Try.underlying64 (z := .nilIface) (by kernel_rfl) (show mR .nilIface = some (.agg [], []) from rfl) (mKeyOf ⟨#[98, 105, 110, 97, 114, 121]⟩ (by decide))
  have e : v = .iface 52 (.agg #[.int .i64 1]) := mR_two (by rw [hv]; rfl)
  rw [← e]
  exact hrun

set_option maxRecDepth 100000 in
set_option maxHeartbeats 1000000 in
theorem planByNameBinaryPlan_any (x : Int) (w : World) : Calls Try.prog 47 #[.string ⟨#[98, 105, 110, 97, 114, 121]⟩, .int .i64 x] w fun e w' => ∃ R1 R2 v1 v2, e = .returned (.tuple #[.agg #[.int .i64 (bnR x).n, .slice R1 (bnR x).s.length v1, .slice R2 (bnR x).o.length v2], .bool (bnG x)]) ∧ OwP w' w.heap.size R1 R2 v1 v2 (bnR x) ∧ Below w.heap.size w w' := by
  have hME := fun W => planByBinaryPlan_any x W
  obtain ⟨Q, hQ⟩ : ∃ Q, bnR x = Q := ⟨_, rfl⟩
  obtain ⟨gd, hgd⟩ : ∃ Q, bnG x = Q := ⟨_, rfl⟩
  rw [hQ, hgd] at hME
  rw [hQ, hgd]
  have HME := Lib.hid hME
  clear hME hQ hgd
  go_enter Try.func47, Try.ntmps47
  go_wp2_with fail
  go_at_call 64
  generalize hw1 : World.alloc w _ = w1
  obtain ⟨q0, xs, xb⟩ := zero_box hw1
  clear hw1
  refine (methods_any w1).mono ?_
  rintro e w2 ⟨b, rfl, hmap, hb2⟩
  have hlook := lookBinaryPlan hmap
  have Q2 := Lib.hid ((hb2.block w.heap.size (by omega)).trans q0)
  have XB := Lib.hid (xb.trans (hb2.mono (by omega)))
  have XS := Lib.hid (show w.heap.size < w2.heap.size by have := hb2.size; omega)
  clear q0 xs xb hmap hb2
  go_wp2_with fail
  go_at_call 56
  refine (HME.out w2).mono ?_
  rintro e w5 ⟨R1, R2, v1, v2, rfl, ho5, hb5⟩
  have q5 := (hb5.block w.heap.size (by have := XS.out; omega)).trans Q2.out
  obtain ⟨t0, t1, t2, g0, g1, g2⟩ := cells3 q5
  have B5 := Lib.hid (XB.out.trans (hb5.mono (by have := XS.out; omega)))
  have O5 := Lib.hid ho5
  have Q5 := Lib.hid q5
  clear hb5 ho5 q5 hlook
  go_wp2
  refine bodyPost_ret (v := .tuple #[.agg #[.int .i64 Q.n, .slice R1 Q.s.length v1, .slice R2 Q.o.length v2], .bool gd]) (by simp [results, Try.results47, go_sem, t0, t1, t2]) rfl ⟨R1, R2, v1, v2, rfl, ?_, ?_⟩
  · refine owP_of3 (own_base O5.out.1 (by have := XS.out; omega)) (own_base O5.out.2 (by have := XS.out; omega)) Q5.out (by decide) (by decide) rfl rfl _ _ _
  · exact ((B5.out.setCell (Nat.le_refl _) _).setCell (Nat.le_refl _) _).setCell (Nat.le_refl _) _

set_option maxRecDepth 100000 in
set_option maxHeartbeats 1000000 in
theorem implBinaryPlan_any (x : Int) (w : World) : Calls Try.prog 21 #[.int .i64 x] w fun e w' => ∃ R1 R2 v1 v2, e = .returned (.tuple #[.agg #[.int .i64 (bnR x).n, .slice R1 (bnR x).s.length v1, .slice R2 (bnR x).o.length v2], .bool (bnG x)]) ∧ OwP w' w.heap.size R1 R2 v1 v2 (bnR x) ∧ Below w.heap.size w w' := by
  have hME := fun W => planByNameBinaryPlan_any x W
  obtain ⟨Q, hQ⟩ : ∃ Q, bnR x = Q := ⟨_, rfl⟩
  obtain ⟨gd, hgd⟩ : ∃ Q, bnG x = Q := ⟨_, rfl⟩
  rw [hQ, hgd] at hME
  rw [hQ, hgd]
  have HME := Lib.hid hME
  clear hME hQ hgd
  go_enter Try.func21, Try.ntmps21
  go_wp2_with fail
  go_at_call 47
  generalize hw1 : World.alloc w _ = w1
  obtain ⟨q0, xs, xb⟩ := zero_box hw1
  clear hw1
  have Q2 := Lib.hid q0
  have XB := Lib.hid xb
  have XS := Lib.hid xs
  clear q0 xs xb
  refine (HME.out w1).mono ?_
  rintro e w5 ⟨R1, R2, v1, v2, rfl, ho5, hb5⟩
  have q5 := (hb5.block w.heap.size (by have := XS.out; omega)).trans Q2.out
  obtain ⟨t0, t1, t2, g0, g1, g2⟩ := cells3 q5
  have B5 := Lib.hid (XB.out.trans (hb5.mono (by have := XS.out; omega)))
  have O5 := Lib.hid ho5
  have Q5 := Lib.hid q5
  clear hb5 ho5 q5
  go_wp2
  refine bodyPost_ret (v := .tuple #[.agg #[.int .i64 Q.n, .slice R1 Q.s.length v1, .slice R2 Q.o.length v2], .bool gd]) (by simp [results, Try.results21, go_sem, t0, t1, t2]) rfl ⟨R1, R2, v1, v2, rfl, ?_, ?_⟩
  · refine owP_of3 (own_base O5.out.1 (by have := XS.out; omega)) (own_base O5.out.2 (by have := XS.out; omega)) Q5.out (by decide) (by decide) rfl rfl _ _ _
  · exact ((B5.out.setCell (Nat.le_refl _) _).setCell (Nat.le_refl _) _).setCell (Nat.le_refl _) _
end Go.Proofs.Ytodjnafalbbmjaa
/- BinaryCost: contracts of both sides. -/
namespace Go.Proofs.Ytodjnafalbbmjaa
open Go.RowKit

def bnV (x : Int) : Int := if isNum x then ((bnP x.toNat).s.length : Int) else 0
theorem bnV_false {x : Int} (h : isNum x = false) : bnV x = 0 := by unfold bnV; rw [if_neg (by rw [h]; decide)]
theorem bnV_true {n : Nat} (h : isNum (n : Int) = true) : bnV (n : Int) = ((bnP n).s.length : Int) := by unfold bnV; rw [if_pos h]; rfl
theorem bnV_of (x : Int) : ((bnR x).s.length : Int) = bnV x ∧ bnG x = isNum x := by
  cases h : isNum x with
  | false =>
    obtain ⟨e1, e2⟩ := bnR_false h
    rw [e1, e2, bnV_false h]
    exact ⟨rfl, rfl⟩
  | true =>
    have ⟨r1, r2⟩ := isNum_rng h
    obtain ⟨n, rfl⟩ : ∃ n : Nat, x = n := ⟨x.toNat, by omega⟩
    obtain ⟨e1, e2⟩ := bnR_true h
    have hg := (bnP_good (n := n) (by omega) (by omega)).1
    rw [e1, e2, bnV_true h, mkR_true hg, hg]
    exact ⟨rfl, rfl⟩

set_option maxRecDepth 100000 in
theorem costOfBinaryCost_any (A1 A2 : Option Addr) (n : Int) (c1 m c2 k : Nat) (b : Bool) (w : World) : Calls Try.prog 51 #[.agg #[.int .i64 n, .slice A1 m c1, .slice A2 k c2], .bool b] w fun e w' => e = .returned (.tuple #[.int .i64 m, .bool b]) ∧ Below w.heap.size w w' := by
  go_enter Try.func51, Try.ntmps51
  go_wp2
  go_ret2
  exact ⟨rfl, by first | exact (Below.refl _ _).alloc (Nat.le_refl _) _ | exact Below.refl _ _⟩

set_option maxRecDepth 100000 in
set_option maxHeartbeats 1000000 in
theorem specBinaryCost_any (x : Int) (w : World) : Calls Try.prog 25 #[.int .i64 x] w fun e w' => e = .returned (.tuple #[.int .i64 (bnV x), .bool (isNum x)]) ∧ Below w.heap.size w w' := by
  obtain ⟨gn, hgn⟩ : ∃ g, isNum x = g := ⟨_, rfl⟩
  have HN := Lib.hid hgn
  cases gn with
  | false =>
    have e1 := Lib.hid (bnV_false hgn)
    clear hgn
    go_enter Try.func25, Try.ntmps25
    go_wp2_with (go_at_call 39; refine (chNumber_any x _).mono ?_; rw [HN.out]; rintro e w' ⟨rfl, hww⟩; subst w')
    go_ret2
    exact ⟨by rw [e1.out, HN.out]; rfl, Below.refl _ _⟩
  | true =>
    have ⟨r1, r2⟩ := isNum_rng hgn
    obtain ⟨n, rfl⟩ : ∃ n : Nat, x = n := ⟨x.toNat, by omega⟩
    have hME := fun W => meBinary_any n W (by omega) (by omega)
    have e1 := Lib.hid (bnV_true hgn)
    obtain ⟨P, hP⟩ : ∃ P, bnP n = P := ⟨_, rfl⟩
    rw [hP] at hME e1
    have HME := Lib.hid hME
    have hfld : ∀ (W : World) (n : Int) (A1 A2 : Option Addr) (m c1 k c2 : Nat), (Instr.field 33 (.agg #[.int .i64 n, .slice A1 m c1, .slice A2 k c2]) 1).run Try.prog W = .ok (.slice A1 m c1) W := fun _ _ _ _ _ _ _ _ => by kernel_rfl
    clear hME hP hgn
    go_enter Try.func25, Try.ntmps25
    go_wp2_with (first
      | (go_at_call 39; refine (chNumber_any n _).mono ?_; rw [HN.out]; rintro e w' ⟨rfl, hww⟩; subst w')
      | (go_at_call 46; refine (HME.out _).mono ?_; rintro e w3 ⟨A4, A5, c4, c5, rfl, ho3, hb3⟩))
    go_ret2
    exact ⟨by rw [e1.out, HN.out]; rfl, hb3⟩

set_option maxRecDepth 100000 in
set_option maxHeartbeats 1000000 in
theorem implBinaryCost_any (x : Int) (w : World) : Calls Try.prog 26 #[.int .i64 x] w fun e w' => e = .returned (.tuple #[.int .i64 (bnV x), .bool (isNum x)]) ∧ Below w.heap.size w w' := by
  have hME := fun W => implBinaryPlan_any x W
  obtain ⟨e1, e2⟩ := bnV_of x
  obtain ⟨Q, hQ⟩ : ∃ Q, bnR x = Q := ⟨_, rfl⟩
  obtain ⟨gd, hgd⟩ : ∃ Q, bnG x = Q := ⟨_, rfl⟩
  rw [hQ, hgd] at hME
  rw [hQ] at e1
  rw [hgd] at e2
  rw [← e1, ← e2]
  have HME := Lib.hid hME
  clear hME hQ hgd e1 e2
  go_enter Try.func26, Try.ntmps26
  go_wp2_with (first
    | (go_at_call 21; refine (HME.out _).mono ?_; rintro e w5 ⟨R1, R2, v1, v2, rfl, ho5, hb5⟩)
    | (go_at_call 51; refine (costOfBinaryCost_any _ _ _ _ _ _ _ _ _).mono ?_; rintro e w6 ⟨rfl, hb6⟩))
  go_ret2
  exact ⟨rfl, hb5.trans (hb6.mono hb5.size)⟩
end Go.Proofs.Ytodjnafalbbmjaa
