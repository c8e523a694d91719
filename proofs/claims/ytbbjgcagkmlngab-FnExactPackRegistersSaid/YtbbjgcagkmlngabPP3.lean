/- Joined: Bl Qj Qn Qq Qt Qp Qu Qv Qw Ra Jl Rla Rpa Cc Cd Ce Mu Mt Rpb Rqa Rqd Rpc Rpd Rpe Rpf Rlv. -/
import Derived.Shelf.Small.Bits
import Derived.Test.YtbbjgcagkmlngabPP0
import Derived.Lib.BitFns
import Derived.Test.YtbbjgcagkmlngabPP1
import Derived.Lib.AppendZeros
import Derived.Lib.AppendZerosOnto
import Derived.Lib.Overlaps
import Derived.Lib.SliceRun
import Derived.Laws.Externs
import Derived.Laws.IdiomCopy
import Derived.Deep.WholeRow
import Derived.Test.YtbbjgcagkmlngabPP2
import Derived.RangeFuncOwn
import Derived.Shelf.Abstract
import Derived.WalkMore
import Derived.Laws.StructEq
/- The library's bit length, at this program. -/
namespace Go.Proofs.Ytbbjgcagkmlngab
open Go.Shelf
end Go.Proofs.Ytbbjgcagkmlngab
/- Bit lengths. -/
namespace Go.Proofs.Ytbbjgcagkmlngab
open Go.RowKit

def bl (n : Int) : Nat := Lib.bitLen n.toNat
theorem bl_more {n : Nat} {b : Nat} (hn : n ≤ 1000000) (h : 2 ^ b ≤ n) : b + 1 ≤ Lib.bitLen n := by
  rw [Lib.bitLen_shift b n h (by omega)]
  have h1 : n / 2 ^ b ≠ 0 := by
    have := Nat.div_pos h (Nat.two_pow_pos b)
    omega
  have h2 : n / 2 ^ b ≤ n := Nat.div_le_self _ _
  rw [Lib.bitLen_half (n / 2 ^ b) h1 (by omega)]
  omega
theorem bl_bd {n : Nat} (hn : n ≤ 1000000) : Lib.bitLen n ≤ 20 := Lib.bitLen_le n 20 (by omega) (by omega)

def isNum (n : Int) : Bool := inB n 1 1000000
def bitN (n : Int) : Int := if isNum n then (bl n : Int) else 0
theorem bitN_true {n : Int} (h : isNum n = true) : bitN n = bl n := by unfold bitN; rw [if_pos h]
theorem bitN_false {n : Int} (h : isNum n = false) : bitN n = 0 := by unfold bitN; rw [h]; rfl
theorem isNum_rng {n : Int} (h : isNum n = true) : 1 ≤ n ∧ n ≤ 1000000 := by
  unfold isNum inB at h
  simpa using h


end Go.Proofs.Ytbbjgcagkmlngab
/- Lists that are answered if they are chains; copies of lists. -/
namespace Go.Proofs.Ytbbjgcagkmlngab
open Go.RowKit

/-- A list that is answered if b. -/
def selL (b : Bool) (l : List Int) : List Int := if b then l else []
theorem selL_true {b : Bool} {l : List Int} (h : b = true) : selL b l = l := by unfold selL; rw [if_pos h]
theorem selL_false {b : Bool} {l : List Int} (h : b = false) : selL b l = [] := by unfold selL; rw [h]; rfl
theorem selL_le {b : Bool} {l : List Int} (h : b = true → chG l = true) : (selL b l).length ≤ 1000 := by
  cases b with
  | false => simp [selL]
  | true => have := (chG_chn (h rfl)).most; rw [selL_true rfl]; omega
theorem and_chG {b : Bool} {l : List Int} (h : (b && chG l) = true) : chG l = true := by simp only [Bool.and_eq_true] at h; exact h.2

end Go.Proofs.Ytbbjgcagkmlngab
/- A number put into a list of own memory, by the library. -/
namespace Go.Proofs.Ytbbjgcagkmlngab
open Go.RowKit

/-- The operation copy, where its run is known. -/
theorem at_copy (w : World) {o : Oper} {a : Act} {K : Act → World → Prop} {Q : Exit → Act → World → Prop} (d s : Operand) (t t' : TypeId)
    (ho : o.op = .call { callee := .builtin .copy, args := #[d, s], argTypes := #[t, t'] }) (v u : Value) (hd : a.eval d = v) (hs : a.eval s = u) {v' : Value} {w' : World}
    (hr : (Builtin.copy_ #[t, t'] o.type #[v, u]).run Try.prog w = .ok v' w') (h : K (a.put o.dst v') w') : o.wp Try.prog a w K Q := by
  unfold Oper.wp execOp
  simp only [ho, resolve, invoke, builtin, Sem.run_bind, Sem.run_pure, Result.andThen_ok, List.map_toArray, List.map_cons, List.map_nil, hd, hs, hr]
  exact h
theorem list_copy (w : World) {ops : Array Oper} {rest : List Oper} {o : Oper} {a : Act} {Q : Exit → Act → World → Prop} (hgd : o.guard = none) (d s : Operand) (t t' : TypeId)
    (ho : o.op = .call { callee := .builtin .copy, args := #[d, s], argTypes := #[t, t'] }) (v u : Value) (hd : a.eval d = v) (hs : a.eval s = u) {v' : Value} {w' : World}
    (hr : (Builtin.copy_ #[t, t'] o.type #[v, u]).run Try.prog w = .ok v' w') (h : wpList Try.prog ops Q rest (a.put o.dst v') w') : wpList Try.prog ops Q (o :: rest) a w :=
  wpList_plain hgd fun _ hK => at_copy w d s t t' ho v u hd hs hr (hK _ _ h)
theorem step_copy {ops : Array Oper} {o : Oper} {a : Act} {w : World} {K : Act → World → Prop} {Q : Exit → Act → World → Prop} {E : Prop}
    (hg : o.guard = none) (d x : Operand) (dT sT : TypeId) (hop : o.op = Op.call { callee := Callee.builtin Builtin.copy, args := #[d, x], argTypes := #[dT, sT] })
    (v u : Value) (hd : a.eval d = v) (hx : a.eval x = u) {v' : Value} {w' : World} (hr : (Builtin.copy_ #[dT, sT] o.type #[v, u]).run Try.prog w = .ok v' w') (hK : K (a.put o.dst v') w') :
    if Region.wanted o (yielded ops a.tmps) = true then Oper.wp Try.prog o a w K Q else E := by
  have hw : Region.wanted o (yielded ops a.tmps) = true := by simp [Region.wanted, hg]
  rw [if_pos hw]
  unfold Oper.wp
  simp [execOp, hop, resolve, invoke, builtin, hd, hx, hr, Result.andThen]
  exact hK

/-- Stores of a list keep the block's size and type. -/
theorem setCells_heap (b : Nat) : ∀ (vs : List Value) (o : Nat) (w : World) (cur : Array Value) (t : TypeId), w.heap[b]? = some (.cells cur t (0, 0)) →
    ∃ cur', (w.setCells b o vs).heap[b]? = some (.cells cur' t (0, 0)) ∧ cur'.size = cur.size
  | [], _, _, cur, _, h => ⟨cur, h, rfl⟩
  | v :: vs, o, _, cur, t, h => by
    have h1 := heap_setCell_same _ b o cur t v h
    obtain ⟨cur', h2, h3⟩ := setCells_heap b vs (o + 1) _ _ t h1
    exact ⟨cur', h2, by rw [h3]; simp⟩
theorem setCells_below {B b : Nat} (hB : B ≤ b) : ∀ (vs : List Value) (o : Nat) (w0 w : World), Below B w0 w → Below B w0 (w.setCells b o vs)
  | [], _, _, _, h => h
  | v :: vs, o, w0, _, h => setCells_below hB vs (o + 1) w0 _ (h.setCell (p := ⟨b, o, none⟩) hB v)
/-- A row by its block and its cells. -/
theorem own_cells_mk {w : World} {B g cap n : Nat} {cur : Array Value} {t : TypeId} {xs : List Value} (hB : B ≤ g) (hg : w.heap[g]? = some (.cells cur t (0, 0))) (hs : cur.size = cap) (hn : n ≤ cap) (hM : cap ≤ maxLen) (hl : xs.length = n)
    (hc : ∀ j, j < n → w.cell? ⟨g, j, none⟩ = xs[j]?) : w.ownsRow B t 1 (.slice (some ⟨g, 0, none⟩) n cap) n xs := by
  refine ⟨by omega, .inr ⟨g, cap, cur, rfl, hB, hg, hn, hM, by omega, ?_⟩⟩
  refine List.ext_getElem (by rw [List.length_take, Array.length_toList]; omega) fun j h1 h2 => ?_
  have hj : j < n := by omega
  have h := hc j hj
  unfold World.cell? at h
  rw [hg] at h
  simp only [Option.isSome_none, Bool.false_eq_true, if_false] at h
  rw [List.getElem?_eq_getElem h2] at h
  rw [List.getElem_take]
  have h3 : j < cur.size := by omega
  rw [Array.getElem?_eq_getElem h3] at h
  simp only [Option.some.injEq] at h
  rw [Array.getElem_toList]
  exact h
/-- The list with x at index i. -/
def insA (l : List Int) (i : Nat) (x : Int) : List Int := l.take i ++ x :: l.drop i
theorem insA_length (l : List Int) {i : Nat} (x : Int) (hi : i ≤ l.length) : (insA l i x).length = l.length + 1 := by
  unfold insA
  rw [List.length_append, List.length_cons, List.length_take, List.length_drop]
  omega
theorem insA_at (l : List Int) {i : Nat} (x : Int) (hi : i ≤ l.length) (j : Nat) : ((insA l i x).map I)[j]? = if j < i then (l.map I)[j]? else if j = i then some (I x) else (l.map I)[j - 1]? := by
  unfold insA
  rw [List.map_append, List.map_cons, List.map_take, List.map_drop]
  by_cases h1 : j < i
  · rw [if_pos h1, List.getElem?_append_left (by simp; omega), List.getElem?_take, if_pos h1]
  · rw [if_neg h1, List.getElem?_append_right (by simp; omega)]
    have e : (List.take i (l.map I)).length = i := by simp; omega
    rw [e]
    by_cases h2 : j = i
    · subst h2
      simp
    · rw [if_neg h2, show j - i = (j - i - 1) + 1 by omega, List.getElem?_cons_succ, List.getElem?_drop]
      congr 1
      omega

theorem cells_some {w : World} {b : Nat} {cur : Array Value} {t : TypeId} (h : w.heap[b]? = some (.cells cur t (0, 0))) {j : Nat} (hj : j < cur.size) : (w.cell? ⟨b, j, none⟩).isSome = true := by
  unfold World.cell?
  rw [h]
  simp [hj]
theorem cells_free {w : World} {b : Nat} {cur : Array Value} {t : TypeId} (h : w.heap[b]? = some (.cells cur t (0, 0))) (j : Nat) : w.frozen? ⟨b, j, none⟩ = false := by
  unfold World.frozen?
  rw [h]
  simp
theorem cells_shape {w : World} {b : Nat} {cur : Array Value} {t : TypeId} (h : w.heap[b]? = some (.cells cur t (0, 0))) : w.shape? b = some (t, cur.size) := by
  unfold World.shape?
  rw [h]
theorem isSome_set (b : Nat) (vs : List Value) (o : Nat) (w : World) (h : ∀ j, j < vs.length → (w.cell? ⟨b, o + j, none⟩).isSome = true) (k : Nat) (hk : (w.cell? ⟨b, k, none⟩).isSome = true) : ((w.setCells b o vs).cell? ⟨b, k, none⟩).isSome = true := by
  by_cases hin : o ≤ k ∧ k < o + vs.length
  · have := World.cell?_setCells_in b vs o w h (k - o) (by omega)
    rw [show o + (k - o) = k by omega] at this
    rw [this]; rfl
  · rw [World.cell?_setCells_out b vs o w ⟨b, k, none⟩ (fun _ _ => by show k < o ∨ o + vs.length ≤ k; omega)]
    exact hk

theorem cell_blk {w : World} {b o : Nat} {v : Value} (h : w.cell? ⟨b, o, none⟩ = some v) : b < w.heap.size := by
  unfold World.cell? at h
  simp only at h
  cases hb : w.heap[b]? with
  | none => rw [hb] at h; simp at h
  | some o => exact (Array.getElem?_eq_some_iff.1 hb).1

end Go.Proofs.Ytbbjgcagkmlngab
/- A number put into a rising list. -/
namespace Go.Proofs.Ytbbjgcagkmlngab
open Go.RowKit

/-- The list with x at its place. -/
def putI (l : List Int) (x : Int) : List Int := if x ∈ l then l else insA l (cnt l x) x
theorem putI_has {l : List Int} {x : Int} (h : x ∈ l) : putI l x = l := by unfold putI; rw [if_pos h]
theorem putI_new {l : List Int} {x : Int} (h : ¬ x ∈ l) : putI l x = insA l (cnt l x) x := by unfold putI; rw [if_neg h]
theorem cnt_le (l : List Int) (x : Int) : cnt l x ≤ l.length := List.countP_le_length
theorem putI_le (l : List Int) (x : Int) : (putI l x).length ≤ l.length + 1 := by
  unfold putI
  split
  · omega
  · rw [insA_length l x (cnt_le l x)]; omega
theorem insA_getD (l : List Int) {i : Nat} (x : Int) (hi : i ≤ l.length) (j : Nat) : (insA l i x).getD j 0 = if j < i then l.getD j 0 else if j = i then x else l.getD (j - 1) 0 := by
  unfold insA
  rw [List.getD_eq_getElem?_getD]
  by_cases h1 : j < i
  · rw [if_pos h1, List.getElem?_append_left (by simp; omega), List.getElem?_take, if_pos h1, List.getD_eq_getElem?_getD]
  · rw [if_neg h1, List.getElem?_append_right (by simp; omega)]
    have e : (List.take i l).length = i := by simp; omega
    rw [e]
    by_cases h2 : j = i
    · subst h2
      simp
    · rw [if_neg h2, show j - i = (j - i - 1) + 1 by omega, List.getElem?_cons_succ, List.getElem?_drop, List.getD_eq_getElem?_getD, show i + (j - i - 1) = j - 1 by omega]
/-- What lies before the place is less, what lies behind it greater. -/
theorem cnt_parts {l : List Int} (ha : Asc l) (x : Int) : (∀ t, t < cnt l x → l.getD t 0 < x) ∧ ∀ t, cnt l x ≤ t → t < l.length → x ≤ l.getD t 0 := by
  have key : ∀ n, n ≤ l.length → ∃ i, i ≤ n ∧ (∀ t, t < i → l.getD t 0 < x) ∧ ∀ t, i ≤ t → t < n → x ≤ l.getD t 0 := by
    intro n
    induction n with
    | zero => intro _; exact ⟨0, by omega, fun t h => absurd h (by omega), fun t _ h => absurd h (by omega)⟩
    | succ n ih =>
      intro hn
      obtain ⟨i, h1, h2, h3⟩ := ih (by omega)
      by_cases hi : i = n
      · by_cases hx : l.getD n 0 < x
        · refine ⟨n + 1, by omega, fun t ht => ?_, fun t h h' => absurd h (by omega)⟩
          rcases Nat.lt_or_eq_of_le (Nat.le_of_lt_succ ht) with h | rfl
          · exact h2 t (by omega)
          · exact hx
        · refine ⟨i, by omega, h2, fun t h h' => ?_⟩
          have : t = n := by omega
          subst this
          omega
      · refine ⟨i, by omega, h2, fun t h h' => ?_⟩
        rcases Nat.lt_or_eq_of_le (Nat.le_of_lt_succ h') with h'' | rfl
        · exact h3 t h h''
        · have := h3 i (Nat.le_refl _) (by omega)
          have := ha i t (by omega) (by omega)
          omega
  obtain ⟨i, h1, h2, h3⟩ := key l.length (Nat.le_refl _)
  rw [cnt_at h1 h2 h3]
  exact ⟨h2, h3⟩
theorem mem_getD {l : List Int} {t : Nat} (h : t < l.length) : l.getD t 0 ∈ l := by
  have e : l.getD t 0 = l[t] := by simp [h]
  rw [e]
  exact List.getElem_mem h
theorem putI_asc {l : List Int} (ha : Asc l) (x : Int) : Asc (putI l x) := by
  by_cases hx : x ∈ l
  · rw [putI_has hx]; exact ha
  · rw [putI_new hx]
    obtain ⟨h1, h2⟩ := cnt_parts ha x
    have hc := cnt_le l x
    intro i j hij hj
    rw [insA_length l x hc] at hj
    rw [insA_getD l x hc, insA_getD l x hc]
    have h3 : ∀ t, cnt l x ≤ t → t < l.length → x < l.getD t 0 := fun t h h' => by
      have := h2 t h h'
      rcases Int.lt_or_eq_of_le this with h4 | h4
      · exact h4
      · exact absurd (h4 ▸ mem_getD h') hx
    by_cases c1 : i < cnt l x
    · rw [if_pos c1]
      by_cases c2 : j < cnt l x
      · rw [if_pos c2]; exact ha i j hij (by omega)
      · rw [if_neg c2]
        by_cases c3 : j = cnt l x
        · rw [if_pos c3]; exact h1 i c1
        · rw [if_neg c3]; exact ha i (j - 1) (by omega) (by omega)
    · rw [if_neg c1, if_neg (by omega : ¬ j < cnt l x), if_neg (by omega : ¬ j = cnt l x)]
      by_cases c3 : i = cnt l x
      · rw [if_pos c3]; exact h3 (j - 1) (by omega) (by omega)
      · rw [if_neg c3]; exact ha (i - 1) (j - 1) (by omega) (by omega)

end Go.Proofs.Ytbbjgcagkmlngab
/- What is in both of two chains. -/
namespace Go.Proofs.Ytbbjgcagkmlngab
open Go.RowKit

theorem hasI_mem (l : List Int) (n : Int) : hasI l n = decide (n ∈ l) := by unfold hasI; exact List.contains_eq_mem n l
def metK (a b : List Int) (k : Nat) : List Int := (a.take k).filter fun n => hasI b n
def met (a b : List Int) : List Int := a.filter fun n => hasI b n
theorem metK_end (a b : List Int) : metK a b a.length = met a b := by unfold metK met; rw [List.take_length]
theorem metK_hit {a b : List Int} {k : Nat} (hk : k < a.length) (h : hasI b (a.getD k 0) = true) : metK a b (k + 1) = metK a b k ++ [a.getD k 0] := by
  unfold metK
  rw [take_succ_getD hk, List.filter_append]
  simp only [List.filter_cons, List.filter_nil, h]
  rfl
theorem metK_miss {a b : List Int} {k : Nat} (hk : k < a.length) (h : hasI b (a.getD k 0) = false) : metK a b (k + 1) = metK a b k := by
  unfold metK
  rw [take_succ_getD hk, List.filter_append]
  simp only [List.filter_cons, List.filter_nil, h]
  simp
theorem metK_le (a b : List Int) (k : Nat) : (metK a b k).length ≤ k := by
  unfold metK
  exact Nat.le_trans (List.length_filter_le _ _) (by simp; omega)
theorem met_le (a b : List Int) : (met a b).length ≤ a.length := List.length_filter_le _ _
def meG (a b : List Int) : Bool := (chG a && chG b) && chG (met a b)

end Go.Proofs.Ytbbjgcagkmlngab
/- A number put into a rising list, by the model. -/
namespace Go.Proofs.Ytbbjgcagkmlngab
open Go.RowKit

theorem Rd.drop {w : World} {B : Nat} {b off k : Nat} {l : List Int} (h : Rd w B 1 (some ⟨b, off, none⟩) l.length (l.map I)) (hk : k < l.length) : Rd w B 1 (some ⟨b, off + k, none⟩) (l.length - k) ((l.drop k).map I) := by
  refine ⟨by simp, fun _ => ?_⟩
  obtain ⟨b', off', e, hb, hc⟩ := h.2 (by omega)
  simp only [Option.some.injEq, Addr.mk.injEq, and_true] at e
  obtain ⟨rfl, rfl⟩ := e
  refine ⟨b, off + k, rfl, hb, fun j hj => ?_⟩
  rw [Nat.add_assoc, hc (k + j) (by omega), List.map_drop, List.getElem?_drop]
theorem put_below2 {B : Nat} {w : World} {o1 o2 : Obj} {w2 w3 : World} (hB : B ≤ w.heap.size) (h2 : Below B (w.alloc o1) w2) (h3 : Below B (w2.alloc o2) w3) : Below B w w3 := by
  have h1 : Below B w w2 := ((Below.refl _ _).alloc hB _).trans h2
  exact (h1.alloc (Nat.le_trans hB h1.size) _).trans h3

set_option maxRecDepth 100000 in
set_option maxHeartbeats 2000000 in
theorem l1PutN_any (B : Nat) (A : Option Addr) (c : Nat) (l : List Int) (x : Int) (w : World) (hm : l.length ≤ 1000) (ha : Asc l) (hx : ¬ x ∈ l) (hcap : l.length ≤ c) (hB : B ≤ w.heap.size) (hr : Rd w B 1 A l.length (l.map I)) :
    Calls Try.prog 132 #[.slice A l.length c, .int .i64 x] w fun e w' => ∃ A' c', e = .returned (.slice A' (putI l x).length c') ∧ OwI w' w.heap.size (.slice A' (putI l x).length c') (putI l x) ∧ Below w.heap.size w w' := by
  have H := Lib.hid hr
  obtain ⟨p1, p2⟩ := cnt_parts ha x
  have P1 := Lib.hid p1
  have P2 := Lib.hid p2
  have hcx := cnt_le l x
  have P := Lib.hid (putI_new hx)
  have hpl : (putI l x).length = l.length + 1 := by rw [P.out, insA_length l x hcx]
  have HPL := Lib.hid hpl
  have HX := Lib.hid hx
  obtain ⟨a, haa⟩ : ∃ a, cnt l x = a := ⟨_, rfl⟩
  rw [haa] at hcx
  have AA := Lib.hid haa
  have HAS := Lib.hid ha
  clear hr p1 p2 hpl hx haa ha
  have hbig : (l.length : Int) ≤ 1000 := by omega
  go_enter Try.func132, Try.ntmps132
  go_wp2
  go_loop [5] (fun i => ∃ k : Nat, k ≤ a ∧ i = .int .i64 k) (fun i => a - (intOf i).toNat)
  case atStart => exact ⟨0, by omega, rfl⟩
  case round =>
    obtain ⟨k, hk, rfl⟩ := hrel
    by_cases hka : k < a
    · obtain ⟨b, off, rfl, hb, hc⟩ := H.out.cells (by omega)
      have ck := hc k (by omega)
      have hlt : l.getD k 0 < x := P1.out k (by rw [AA.out]; exact hka)
      obtain ⟨y, hy⟩ : ∃ y, l.getD k 0 = y := ⟨_, rfl⟩
      rw [hy] at ck hlt
      have ik : (k : Int) < (l.length : Int) := by omega
      clear hc hy
      go_wp2
      go_round
      case rel => exact ⟨k + 1, by omega, by go_num⟩
      case measure => simp [intOf]; omega
    · have e : k = a := by omega
      subst e
      have ikc : (k : Int) ≤ (c : Int) := by omega
      have hins : (insA l k x).map I = (l.take k).map I ++ [I x] ++ (l.drop k).map I := by unfold insA; rw [List.map_append, List.map_cons]; simp
      have HINS := Lib.hid hins
      clear hins
      by_cases hl : k < l.length
      · obtain ⟨b, off, rfl, hb, hc⟩ := H.out.cells (by omega)
        have ck := hc k hl
        have hge := P2.out k (by rw [AA.out]; exact Nat.le_refl _) hl
        obtain ⟨y, hy⟩ : ∃ y, l.getD k 0 = y := ⟨_, rfl⟩
        have hne : ¬ y = x := fun h => HX.out (by rw [← h, ← hy]; exact mem_getD hl)
        rw [hy] at ck hge
        have h1 : ¬ y < x := by omega
        have hyx : (y == x) = false := by simpa using hne
        have ik : (k : Int) < (l.length : Int) := by omega
        have ikl : (k : Int) ≤ (l.length : Int) := by omega
        have hcn : ¬ (c = k) := by omega
        have T1 := Lib.hid (fun (W : World) (hb : Below w.heap.size w W) => (H.out.below' hb hB).take (n := k) (by omega))
        have T2 := Lib.hid (fun (W : World) (hb : Below w.heap.size w W) => (H.out.below' hb hB).drop hl)
        clear hc hy hge hne
        go_wp2_with (first
          | (at_builtin; refine list_step (fun K hK => ?_); refine step_appM Try.underlying22 info_int rfl (by omega) (by omega) rfl (.tmp 34) (.tmp 37) rfl w.heap.size 0 _ [] rfl (own_empty 1 (Nat.le_refl _)) _ k _ ((l.take k).map I) rfl (T1.out _ ((Below.refl _ _).alloc (Nat.le_refl _) _)) (ints_one _) (by omega) (by simp) ?_; intro A2 c2 w2 hown2 hg2 hbel2; simp only [Nat.zero_add, List.nil_append] at hown2; go_simp; refine hK _ _ ?_; clear hK K)
          | (at_builtin; refine list_step (fun K hK => ?_); refine step_app1 Try.underlying22 info_int rfl (by omega) rfl (.tmp 39) (.tmp 41) rfl w.heap.size _ _ _ rfl (World.ownsRow.alloc hown2 _) w2.heap.size 1 (I x) rfl (by simp) rfl (by omega) (by have := hbel2.size; simp at this; simp; omega) ?_; intro A3 c3 w3 hown3 hg3 hbel3; go_simp; refine hK _ _ ?_; clear hK K)
          | (at_builtin; refine list_step (fun K hK => ?_); have hb23 := put_below2 (Nat.le_refl _) hbel2 hbel3; refine step_appM Try.underlying22 info_int rfl (by omega) (by omega) rfl (.tmp 43) (.tmp 46) rfl w.heap.size _ _ _ rfl hown3 _ (l.length - k) _ ((l.drop k).map I) rfl (T2.out _ hb23) (ints_one _) (by omega) hb23.size ?_; intro A4 c4 w4 hown4 hg4 hbel4; go_simp; refine hK _ _ ?_; clear hK K))
        go_ret
        refine ⟨A4, c4, ret_slice (by have := HPL.out; omega), ?_, (put_below2 (Nat.le_refl _) hbel2 hbel3).trans hbel4⟩
        have h := hown4
        rw [show k + 1 + (l.length - k) = (putI l x).length by have := HPL.out; omega] at h
        unfold OwI
        rw [P.out, AA.out, HINS.out] at *
        simpa using h
      · have e : k = l.length := by omega
        have T1 := Lib.hid (fun (W : World) (hb : Below w.heap.size w W) => (H.out.below' hb hB).take (n := k) (by omega))
        have HE := Lib.hid e
        have hfin : ∀ (A4 : Option Addr) (c4 : Nat) (w4 : World), w4.ownsRow w.heap.size 3 1 (.slice A4 (k + 1 + 0) c4) (k + 1 + 0) ((l.take k).map I ++ [I x] ++ []) → OwI w4 w.heap.size (.slice A4 (putI l x).length c4) (putI l x) := fun A4 c4 w4 h => by
          rw [show k + 1 + 0 = (putI l x).length by have := HPL.out; have := HE.out; omega] at h
          unfold OwI
          have hd : l.drop k = [] := List.drop_of_length_le (by have := HE.out; omega)
          have hi := HINS.out
          rw [hd] at hi
          rw [P.out, AA.out, hi] at *
          simpa using h
        have FIN := Lib.hid hfin
        obtain ⟨N, hN⟩ : ∃ N, l.length = N := ⟨_, rfl⟩
        rw [hN] at e
        subst e
        rw [hN] at *
        have HN := Lib.hid hN
        clear hfin hN
        have hsl : ∀ n : Nat, n - n = 0 := fun n => Nat.sub_self n
        by_cases hck : c = k
        · subst hck
          go_wp2_with (first
            | (at_builtin; refine list_step (fun K hK => ?_); refine step_appM Try.underlying22 info_int rfl (by omega) (by omega) rfl (.tmp 34) (.tmp 37) rfl w.heap.size 0 _ [] rfl (own_empty 1 (Nat.le_refl _)) _ c _ ((l.take c).map I) rfl (T1.out _ ((Below.refl _ _).alloc (Nat.le_refl _) _)) (ints_one _) (by omega) (by simp) ?_; intro A2 c2 w2 hown2 hg2 hbel2; simp only [Nat.zero_add, List.nil_append] at hown2; go_simp; refine hK _ _ ?_; clear hK K)
            | (at_builtin; refine list_step (fun K hK => ?_); refine step_app1 Try.underlying22 info_int rfl (by omega) rfl (.tmp 39) (.tmp 41) rfl w.heap.size _ _ _ rfl (World.ownsRow.alloc hown2 _) w2.heap.size 1 (I x) rfl (by simp) rfl (by omega) (by have := hbel2.size; simp at this; simp; omega) ?_; intro A3 c3 w3 hown3 hg3 hbel3; go_simp; refine hK _ _ ?_; clear hK K)
            | (at_builtin; refine list_step (fun K hK => ?_); have hb23 := put_below2 (Nat.le_refl _) hbel2 hbel3; refine step_appM Try.underlying22 info_int rfl (by omega) (by omega) rfl (.tmp 43) (.tmp 46) rfl w.heap.size _ _ _ rfl hown3 _ 0 _ [] rfl (Rd.nil _ 0 _ _) (by simp) (by omega) hb23.size ?_; intro A4 c4 w4 hown4 hg4 hbel4; go_simp; refine hK _ _ ?_; clear hK K))
          all_goals
            go_ret
            exact ⟨A4, c4, ret_slice (by have := HPL.out; have := HE.out; omega), FIN.out A4 c4 w4 hown4, (put_below2 (Nat.le_refl _) hbel2 hbel3).trans hbel4⟩
        · have hck' : ¬ (k = c) := fun h => hck h.symm
          go_wp2_with (first
            | (at_builtin; refine list_step (fun K hK => ?_); refine step_appM Try.underlying22 info_int rfl (by omega) (by omega) rfl (.tmp 34) (.tmp 37) rfl w.heap.size 0 _ [] rfl (own_empty 1 (Nat.le_refl _)) _ k _ ((l.take k).map I) rfl (T1.out _ ((Below.refl _ _).alloc (Nat.le_refl _) _)) (ints_one _) (by omega) (by simp) ?_; intro A2 c2 w2 hown2 hg2 hbel2; simp only [Nat.zero_add, List.nil_append] at hown2; go_simp; refine hK _ _ ?_; clear hK K)
            | (at_builtin; refine list_step (fun K hK => ?_); refine step_app1 Try.underlying22 info_int rfl (by omega) rfl (.tmp 39) (.tmp 41) rfl w.heap.size _ _ _ rfl (World.ownsRow.alloc hown2 _) w2.heap.size 1 (I x) rfl (by simp) rfl (by omega) (by have := hbel2.size; simp at this; simp; omega) ?_; intro A3 c3 w3 hown3 hg3 hbel3; go_simp; refine hK _ _ ?_; clear hK K)
            | (at_builtin; refine list_step (fun K hK => ?_); have hb23 := put_below2 (Nat.le_refl _) hbel2 hbel3; refine step_appM Try.underlying22 info_int rfl (by omega) (by omega) rfl (.tmp 43) (.tmp 46) rfl w.heap.size _ _ _ rfl hown3 _ 0 _ [] rfl (Rd.nil _ 0 _ _) (by simp) (by omega) hb23.size ?_; intro A4 c4 w4 hown4 hg4 hbel4; go_simp; refine hK _ _ ?_; clear hK K))
          all_goals
            go_ret
            exact ⟨A4, c4, ret_slice (by have := HPL.out; have := HE.out; omega), FIN.out A4 c4 w4 hown4, (put_below2 (Nat.le_refl _) hbel2 hbel3).trans hbel4⟩
end Go.Proofs.Ytbbjgcagkmlngab
/- A number put into a chain. -/
namespace Go.Proofs.Ytbbjgcagkmlngab
open Go.RowKit

theorem mem_putI (l : List Int) (x : Int) : x ∈ putI l x := by
  unfold putI
  split
  · assumption
  · unfold insA
    exact List.mem_append_right _ List.mem_cons_self
theorem chG_mem {r : List Int} {x : Int} (h : chG r = true) (hx : x ∈ r) : isNum x = true := by
  obtain ⟨i, hi, rfl⟩ := List.mem_iff_getElem.1 hx
  have h1 := (chG_chn h).rng i hi
  have e : r.getD i 0 = r[i] := by simp [hi]
  rw [e] at h1
  unfold isNum inB
  simpa using h1
def inG (l : List Int) (x : Int) : Bool := (chG l && !hasI l x) && chG (putI l x)
theorem hasI_not {l : List Int} {x : Int} (h : hasI l x = false) : ¬ x ∈ l := by rw [hasI_mem] at h; simpa using h

end Go.Proofs.Ytbbjgcagkmlngab
/- What is in one of two chains. -/
namespace Go.Proofs.Ytbbjgcagkmlngab
open Go.RowKit

theorem mem_at_cnt {l : List Int} (ha : Asc l) {x : Int} (hx : x ∈ l) : cnt l x < l.length ∧ l.getD (cnt l x) 0 = x := by
  obtain ⟨h1, h2⟩ := cnt_parts ha x
  have h := mem_at ha (cnt_le l x) h1 h2
  rw [decide_eq_true hx] at h
  exact of_decide_eq_true h.symm

set_option maxRecDepth 100000 in
set_option maxHeartbeats 1000000 in
/-- Of a number that is there the list itself is answered. -/
theorem l1PutH_any (B : Nat) (A : Option Addr) (c : Nat) (l : List Int) (x : Int) (w : World) (hm : l.length ≤ 1000) (ha : Asc l) (hx : x ∈ l) (hr : Rd w B 1 A l.length (l.map I)) :
    Calls Try.prog 132 #[.slice A l.length c, .int .i64 x] w fun e w' => e = .returned (.slice A l.length c) ∧ w = w' := by
  obtain ⟨q1, q2⟩ := mem_at_cnt ha hx
  obtain ⟨p1, _⟩ := cnt_parts ha x
  obtain ⟨b, off, rfl, hb, hc⟩ := hr.cells (by omega)
  have HC := Lib.hid hc
  have P1 := Lib.hid p1
  obtain ⟨a, haa⟩ : ∃ a, cnt l x = a := ⟨_, rfl⟩
  rw [haa] at q1 q2
  have AA := Lib.hid haa
  have Q2 := Lib.hid q2
  clear hr hc ha hx p1 haa q2
  go_enter Try.func132, Try.ntmps132
  go_wp2
  go_loop [5] (fun i => ∃ k : Nat, k ≤ a ∧ i = .int .i64 k) (fun i => a - (intOf i).toNat)
  case atStart => exact ⟨0, by omega, rfl⟩
  case round =>
    obtain ⟨k, hk, rfl⟩ := hrel
    have ck := HC.out k (by omega)
    have ik : (k : Int) < (l.length : Int) := by omega
    by_cases hka : k < a
    · have hlt : l.getD k 0 < x := P1.out k (by rw [AA.out]; exact hka)
      obtain ⟨y, hy⟩ : ∃ y, l.getD k 0 = y := ⟨_, rfl⟩
      rw [hy] at ck hlt
      clear hy
      go_wp2
      go_round
      case rel => exact ⟨k + 1, by omega, by go_num⟩
      case measure => simp [intOf]; omega
    · have e : k = a := by omega
      subst e
      rw [Q2.out] at ck
      go_wp2
      go_ret
      exact ⟨rfl, rfl⟩

set_option maxHeartbeats 1000000 in
theorem l1PutO_any (B0 : Nat) (A : Option Addr) (c : Nat) (l : List Int) (x : Int) (w : World) (hm : l.length ≤ 1000) (ha : Asc l) (hB : B0 ≤ w.heap.size) (hown : OwI w B0 (.slice A l.length c) l) :
    Calls Try.prog 132 #[.slice A l.length c, .int .i64 x] w fun e w' => ∃ A' c', e = .returned (.slice A' (putI l x).length c') ∧ OwI w' B0 (.slice A' (putI l x).length c') (putI l x) ∧ Below w.heap.size w w' := by
  by_cases hx : x ∈ l
  · refine (l1PutH_any w.heap.size A c l x w hm ha hx hown.rd).mono ?_
    rintro e w' ⟨rfl, rfl⟩
    rw [putI_has hx]
    exact ⟨A, c, rfl, hown, Below.refl _ _⟩
  · refine (l1PutN_any w.heap.size A c l x w hm ha hx hown.cap (Nat.le_refl _) hown.rd).mono ?_
    rintro e w' ⟨A', c', rfl, h1, h2⟩
    exact ⟨A', c', rfl, h1.base hB, h2⟩

def uniK (a b : List Int) (k : Nat) : List Int := (b.take k).foldl putI a
def uni (a b : List Int) : List Int := b.foldl putI a
theorem uniK_end (a b : List Int) : uniK a b b.length = uni a b := by unfold uniK uni; rw [List.take_length]
theorem uniK_zero (a b : List Int) : uniK a b 0 = a := rfl
theorem uniK_succ {a b : List Int} {k : Nat} (hk : k < b.length) : uniK a b (k + 1) = putI (uniK a b k) (b.getD k 0) := by
  unfold uniK
  rw [take_succ_getD hk, List.foldl_append]
  rfl
theorem uniK_ok {a b : List Int} (ha : Asc a) (h0 : 1 ≤ a.length) : ∀ k, k ≤ b.length → Asc (uniK a b k) ∧ 1 ≤ (uniK a b k).length ∧ (uniK a b k).length ≤ a.length + k := by
  intro k
  induction k with
  | zero => intro _; rw [uniK_zero]; exact ⟨ha, h0, by omega⟩
  | succ k ih =>
    intro hk
    obtain ⟨h1, h2, h3⟩ := ih (by omega)
    rw [uniK_succ (by omega)]
    refine ⟨putI_asc h1 _, ?_, ?_⟩
    · have := List.length_pos_of_mem (mem_putI (uniK a b k) (b.getD k 0))
      omega
    · have := putI_le (uniK a b k) (b.getD k 0)
      omega
def unG (a b : List Int) : Bool := (chG a && chG b) && chG (uni a b)

end Go.Proofs.Ytbbjgcagkmlngab
/- The exponents of a plan with one input; sorted, they are a chain. -/
namespace Go.Proofs.Ytbbjgcagkmlngab
open Go.RowKit

def evS (out : List Int) (st : Int × Int) : List Int := out ++ [leastI (out.getD st.1.toNat 0 + out.getD st.2.toNat 0) 1000001]
def ev (s : List (Int × Int)) : List Int := s.foldl evS [1]
theorem ev_take {s : List (Int × Int)} {k : Nat} (hk : k < s.length) : ev (s.take (k + 1)) = evS (ev (s.take k)) s[k] := by
  unfold ev
  rw [List.take_succ_eq_append_getElem hk, List.foldl_append]
  rfl
theorem ev_length (s : List (Int × Int)) : ∀ k, k ≤ s.length → (ev (s.take k)).length = k + 1 := by
  intro k
  induction k with
  | zero => intro _; rfl
  | succ k ih =>
    intro hk
    rw [ev_take (by omega)]
    unfold evS
    rw [List.length_append, ih (by omega)]
    rfl
theorem getD_map1 (l : List Int) {a : Nat} (ha : a < l.length) : (l.map fun e => [e]).getD a [] = [l.getD a 0] := by simp [ha]
theorem exps_ev {s : List (Int × Int)} (hok : OkS 1 s) : ∀ k, k ≤ s.length → exps 1 (s.take k) = (ev (s.take k)).map fun e => [e] := by
  intro k
  induction k with
  | zero => intro _; rfl
  | succ k ih =>
    intro hk
    have hk' : k < s.length := by omega
    obtain ⟨h1, h2, h3⟩ := hok k hk'
    have hl := ev_length s k (by omega)
    rw [exps_take 1 hk', ev_take hk', ih (by omega)]
    unfold expStep evS
    rw [getD_map1 _ (by omega), getD_map1 _ (by omega), List.map_append]
    rfl
theorem ev_pre {s : List (Int × Int)} : ∀ n k, k ≤ n → n ≤ s.length → ∀ i, i < k + 1 → (ev (s.take n)).getD i 0 = (ev (s.take k)).getD i 0 := by
  intro n
  induction n with
  | zero => intro k hk _ i _; rw [show k = 0 by omega]
  | succ n ih =>
    intro k hk hn i hi
    rcases Nat.lt_or_eq_of_le hk with h | rfl
    · rw [ev_take (by omega)]
      unfold evS
      have hl := ev_length s n (by omega)
      rw [List.getD_eq_getElem?_getD, List.getElem?_append_left (by omega), ← List.getD_eq_getElem?_getD]
      exact ih k (by omega) (by omega) i hi
    · rfl
/-- Of exponents within their bounds each is a sum. -/
theorem ev_sums {s : List (Int × Int)} (hok : OkS 1 s) (hb : expsB (exps 1 s) = true) :
    (ev s).length = s.length + 1 ∧ (ev s).getD 0 0 = 1 ∧ (∀ i, i < s.length + 1 → 1 ≤ (ev s).getD i 0 ∧ (ev s).getD i 0 ≤ 1000000) ∧
      ∀ k, k < s.length → ∃ a b : Nat, a ≤ b ∧ b < k + 1 ∧ (ev s).getD (k + 1) 0 = (ev s).getD a 0 + (ev s).getD b 0 := by
  have hfull : s.take s.length = s := List.take_of_length_le (Nat.le_refl _)
  have hlen := ev_length s s.length (Nat.le_refl _)
  rw [hfull] at hlen
  have hE := exps_ev hok s.length (Nat.le_refl _)
  rw [hfull] at hE
  have hle : ∀ i, i < s.length + 1 → 0 ≤ (ev s).getD i 0 ∧ (ev s).getD i 0 ≤ 1000000 := fun i hi => by
    have hm : [(ev s).getD i 0] ∈ exps 1 s := by
      rw [hE]
      exact List.mem_map.2 ⟨(ev s).getD i 0, mem_getD (by omega), rfl⟩
    unfold expsB at hb
    rw [List.all_eq_true] at hb
    have h := hb _ hm
    unfold allB at h
    simpa [inB] using h
  have h0 : (ev s).getD 0 0 = 1 := by
    have h := ev_pre (s := s) s.length 0 (by omega) (Nat.le_refl _) 0 (by omega)
    rw [hfull] at h
    rw [h]
    rfl
  have hsum : ∀ k, k < s.length → ∃ a b : Nat, a ≤ b ∧ b < k + 1 ∧ (ev s).getD (k + 1) 0 = (ev s).getD a 0 + (ev s).getD b 0 := fun k hk => by
    obtain ⟨h1, h2, h3⟩ := hok k hk
    refine ⟨(s[k]).1.toNat, (s[k]).2.toNat, by omega, by omega, ?_⟩
    have p1 := ev_pre (s := s) s.length (k + 1) (by omega) (Nat.le_refl _) (k + 1) (by omega)
    have p2 := ev_pre (s := s) s.length k (by omega) (Nat.le_refl _) (s[k]).1.toNat (by omega)
    have p3 := ev_pre (s := s) s.length k (by omega) (Nat.le_refl _) (s[k]).2.toNat (by omega)
    rw [hfull] at p1 p2 p3
    have hl := ev_length s k (by omega)
    have e : (ev (s.take (k + 1))).getD (k + 1) 0 = leastI ((ev (s.take k)).getD (s[k]).1.toNat 0 + (ev (s.take k)).getD (s[k]).2.toNat 0) 1000001 := by
      rw [ev_take hk]
      unfold evS
      rw [List.getD_eq_getElem?_getD, List.getElem?_append_right (by omega), hl]
      simp
    rw [p2, p3]
    rw [e] at p1
    have hb1 := hle (k + 1) (by omega)
    rw [p1] at hb1
    rw [p1]
    unfold leastI at hb1 ⊢
    split at hb1
    · rename_i h
      rw [if_pos h]
    · omega
  refine ⟨hlen, h0, fun i hi => ?_, hsum⟩
  refine ⟨?_, (hle i hi).2⟩
  have hpos : ∀ n i, i ≤ n → i < s.length + 1 → 1 ≤ (ev s).getD i 0 := by
    intro n
    induction n with
    | zero => intro i hi _; rw [show i = 0 by omega, h0]; omega
    | succ n ih =>
      intro i hi hl
      rcases Nat.eq_zero_or_pos i with h | h
      · rw [h, h0]; omega
      · obtain ⟨a, b, h1, h2, h3⟩ := hsum (i - 1) (by omega)
        rw [show i - 1 + 1 = i by omega] at h3 h2
        have ha := ih a (by omega) (by omega)
        have hb := ih b (by omega) (by omega)
        omega
  exact hpos i i (Nat.le_refl _) hi

theorem mem_putI_iff (l : List Int) (x y : Int) : y ∈ putI l x ↔ y = x ∨ y ∈ l := by
  unfold putI
  split
  · rename_i h
    constructor
    · exact .inr
    · rintro (rfl | h') <;> assumption
  · unfold insA
    rw [List.mem_append, List.mem_cons]
    constructor
    · rintro (h | h | h)
      · exact .inr (List.mem_of_mem_take h)
      · exact .inl h
      · exact .inr (List.mem_of_mem_drop h)
    · rintro (h | h)
      · exact .inr (.inl h)
      · rw [← List.take_append_drop (cnt l x) l] at h
        rcases List.mem_append.1 h with h | h
        · exact .inl h
        · exact .inr (.inr h)
theorem uni0_ok (b : List Int) : ∀ k, k ≤ b.length → Asc (uniK [] b k) ∧ (uniK [] b k).length ≤ k ∧ ∀ y, y ∈ uniK [] b k ↔ y ∈ b.take k := by
  intro k
  induction k with
  | zero =>
    intro _
    rw [uniK_zero]
    exact ⟨fun i j _ h => absurd h (by simp), by simp, fun y => by simp⟩
  | succ k ih =>
    intro hk
    obtain ⟨h1, h2, h3⟩ := ih (by omega)
    rw [uniK_succ (by omega)]
    refine ⟨putI_asc h1 _, by have := putI_le (uniK [] b k) (b.getD k 0); omega, fun y => ?_⟩
    rw [mem_putI_iff, h3, take_succ_getD (by omega), List.mem_append, List.mem_singleton]
    constructor
    · rintro (h | h)
      · exact .inr h
      · exact .inl h
    · rintro (h | h)
      · exact .inr h
      · exact .inl h
theorem prs_intro {l : List Int} {k i j : Nat} (hij : i ≤ j) (hj : j < k) (h : l.getD i 0 + l.getD j 0 = l.getD k 0) : prs l k k ≠ [] := by
  intro he
  have hm : ((i : Int), (j : Int)) ∈ prs l k k := by
    unfold prs
    refine List.mem_flatMap.2 ⟨j, List.mem_range.2 hj, ?_⟩
    unfold prsJ prsI
    exact List.mem_map.2 ⟨i, List.mem_filter.2 ⟨List.mem_range.2 (by omega), by simpa using h⟩, rfl⟩
  rw [he] at hm
  simp at hm
theorem getD_of_mem {l : List Int} {x : Int} (h : x ∈ l) : ∃ i, i < l.length ∧ l.getD i 0 = x := by
  obtain ⟨i, hi, rfl⟩ := List.mem_iff_getElem.1 h
  exact ⟨i, hi, by simp [hi]⟩
theorem asc_idx {l : List Int} (ha : Asc l) {i k : Nat} (hi : i < l.length) (_hk : k < l.length) (h : l.getD i 0 < l.getD k 0) : i < k := by
  rcases Nat.lt_or_ge i k with h' | h'
  · exact h'
  · have := asc_le ha h' hi
    omega
theorem chain_of_ev {s : List (Int × Int)} (hok : OkS 1 s) (hb : expsB (exps 1 s) = true) (hs : s.length ≤ 40) : chG (uni [] (ev s)) = true := by
  obtain ⟨h1, h2, h3, h4⟩ := ev_sums hok hb
  obtain ⟨ha, hl, hm⟩ := uni0_ok (ev s) (ev s).length (Nat.le_refl _)
  rw [uniK_end] at ha hl hm
  rw [List.take_length] at hm
  obtain ⟨L, hL⟩ : ∃ L, uni [] (ev s) = L := ⟨_, rfl⟩
  rw [hL] at ha hl hm ⊢
  have hr : ∀ i, i < L.length → 1 ≤ L.getD i 0 ∧ L.getD i 0 ≤ 1000000 := fun i hi => by
    obtain ⟨j, hj, e⟩ := getD_of_mem ((hm _).1 (mem_getD hi))
    rw [← e]
    exact h3 j (by omega)
  have hone : (1 : Int) ∈ L := (hm 1).2 (by rw [← h2]; exact mem_getD (by omega))
  obtain ⟨i1, hi1, e1⟩ := getD_of_mem hone
  have hpos : 1 ≤ L.length := by omega
  have hz : L.getD 0 0 = 1 := by
    have := (hr 0 (by omega)).1
    have := asc_le ha (i := 0) (j := i1) (by omega) hi1
    omega
  have hch : Chn L := ⟨hpos, by omega, hz, hr, ha⟩
  unfold chG
  rw [chn_chB hch, Bool.true_and]
  unfold sumsB
  rw [List.all_eq_true]
  intro k hk
  have hkl := List.mem_range.1 hk
  rcases Nat.eq_zero_or_pos k with h | h
  · simp [h]
  · have hne : prs L k k ≠ [] := by
      obtain ⟨j, hj, e⟩ := getD_of_mem ((hm _).1 (mem_getD hkl))
      have hj0 : j ≠ 0 := fun hj0 => by
        rw [hj0, h2] at e
        have := ha 0 k h hkl
        omega
      obtain ⟨a, b, hab, hbk, hsum⟩ := h4 (j - 1) (by omega)
      rw [show j - 1 + 1 = j by omega] at hsum hbk
      obtain ⟨ia, hia, ea⟩ := getD_of_mem ((hm _).2 (mem_getD (l := ev s) (t := a) (by omega)))
      obtain ⟨ib, hib, eb⟩ := getD_of_mem ((hm _).2 (mem_getD (l := ev s) (t := b) (by omega)))
      have pa := (h3 a (by omega)).1
      have pb := (h3 b (by omega)).1
      have ka := asc_idx ha hia hkl (by omega)
      have kb := asc_idx ha hib hkl (by omega)
      rcases Nat.le_total ia ib with h' | h'
      · exact prs_intro h' kb (by omega)
      · exact prs_intro h' ka (by omega)
    simp [isEmpty_ne hne]
end Go.Proofs.Ytbbjgcagkmlngab
/- Values that are used later, as data: by a list that is kept rising, and by looking at each value's uses. -/
namespace Go.Proofs.Ytbbjgcagkmlngab
open Go.RowKit

theorem asc_pw {l : List Int} : Asc l ↔ l.Pairwise (· < ·) := by
  rw [List.pairwise_iff_getElem]
  unfold Asc
  constructor
  · intro h i j hi hj hij
    have := h i j hij hj
    simpa [hi, hj] using this
  · intro h i j hij hj
    have := h i j (by omega) hj hij
    simp only [List.getD_eq_getElem?_getD, List.getElem?_eq_getElem hj, List.getElem?_eq_getElem (show i < l.length by omega), Option.getD_some]
    exact this
theorem asc_same {a b : List Int} (ha : Asc a) (hb : Asc b) (h : ∀ x, x ∈ a ↔ x ∈ b) : a = b := by
  rw [asc_pw] at ha hb
  induction a generalizing b with
  | nil =>
    cases b with
    | nil => rfl
    | cons y b => have := (h y).2 List.mem_cons_self; simp at this
  | cons x a ih =>
    cases b with
    | nil => have := (h x).1 List.mem_cons_self; simp at this
    | cons y b =>
      obtain ⟨a1, a2⟩ := List.pairwise_cons.1 ha
      obtain ⟨b1, b2⟩ := List.pairwise_cons.1 hb
      have e : x = y := by
        rcases List.mem_cons.1 ((h x).1 List.mem_cons_self) with h1 | h1
        · exact h1
        · rcases List.mem_cons.1 ((h y).2 List.mem_cons_self) with h2 | h2
          · exact h2.symm
          · have := a1 y h2; have := b1 x h1; omega
      subst e
      rw [ih a2 b2 fun z => ?_]
      have hz := h z
      rw [List.mem_cons, List.mem_cons] at hz
      constructor
      · intro hm
        rcases hz.1 (.inr hm) with rfl | h1
        · have := a1 z hm; omega
        · exact h1
      · intro hm
        rcases hz.2 (.inr hm) with rfl | h1
        · have := b1 z hm; omega
        · exact h1

/-- There is a use behind the first k steps. -/
def lvB (s : List (Int × Int)) (o : List Int) (k : Nat) (v : Int) : Bool := decide (0 < (usO o v o.length).length) || (usS s v s.length).any fun i => decide ((k : Int) ≤ i)
def livK (s : List (Int × Int)) (o : List Int) (k m : Nat) : List Int := ((List.range m).filter fun v : Nat => lvB s o k (v : Int)).map fun v : Nat => (v : Int)
def liv (N : Nat) (s : List (Int × Int)) (o : List Int) (k : Nat) : List Int := livK s o k (N + k)
theorem livK_le (s : List (Int × Int)) (o : List Int) (k m : Nat) : (livK s o k m).length ≤ m := by
  unfold livK
  rw [List.length_map]
  exact Nat.le_trans (List.length_filter_le _ _) (by simp)
theorem livK_hit {s : List (Int × Int)} {o : List Int} {k m : Nat} (h : lvB s o k (m : Int) = true) : livK s o k (m + 1) = livK s o k m ++ [(m : Int)] := by
  unfold livK
  rw [List.range_succ, List.filter_append, List.map_append]
  simp [h]
theorem livK_miss {s : List (Int × Int)} {o : List Int} {k m : Nat} (h : lvB s o k (m : Int) = false) : livK s o k (m + 1) = livK s o k m := by
  unfold livK
  rw [List.range_succ, List.filter_append, List.map_append]
  simp [h]
theorem livK_asc (s : List (Int × Int)) (o : List Int) (k m : Nat) : Asc (livK s o k m) := by
  rw [asc_pw]
  unfold livK
  rw [List.pairwise_map]
  refine (List.Pairwise.filter _ List.pairwise_lt_range).imp fun h => ?_
  omega
theorem mem_livK {s : List (Int × Int)} {o : List Int} {k m : Nat} {x : Int} : x ∈ livK s o k m ↔ ∃ v : Nat, v < m ∧ x = (v : Int) ∧ lvB s o k (v : Int) = true := by
  unfold livK
  rw [List.mem_map]
  constructor
  · rintro ⟨v, hv, rfl⟩
    obtain ⟨h1, h2⟩ := List.mem_filter.1 hv
    exact ⟨v, List.mem_range.1 h1, rfl, h2⟩
  · rintro ⟨v, h1, rfl, h2⟩
    exact ⟨v, List.mem_filter.2 ⟨List.mem_range.2 h1, h2⟩, rfl⟩
theorem lvB_iff {s : List (Int × Int)} {o : List Int} {k : Nat} {v : Int} : lvB s o k v = true ↔ ((∃ i : Nat, k ≤ i ∧ i < s.length ∧ ((s.getD i (0, 0)).1 = v ∨ (s.getD i (0, 0)).2 = v)) ∨ v ∈ o) := by
  unfold lvB
  rw [Bool.or_eq_true, decide_eq_true_eq, List.any_eq_true]
  constructor
  · rintro (h | ⟨x, h1, h2⟩)
    · right
      obtain ⟨x, hx⟩ := List.exists_mem_of_length_pos h
      obtain ⟨i, h1, _, h3⟩ := mem_usO.1 hx
      rw [← h3]
      simp only [List.getD_eq_getElem?_getD, List.getElem?_eq_getElem h1, Option.getD_some]
      exact List.getElem_mem h1
    · left
      obtain ⟨i, h3, h4, h5⟩ := mem_usS.1 h1
      have := of_decide_eq_true h2
      exact ⟨i, by omega, h3, h5⟩
  · rintro (⟨i, h1, h2, h3⟩ | h)
    · right
      exact ⟨(i : Int), mem_usS.2 ⟨i, h2, rfl, h3⟩, by simp; omega⟩
    · left
      obtain ⟨i, h1, h2⟩ := List.mem_iff_getElem.1 h
      have : ((i : Nat) : Int) ∈ usO o v o.length := mem_usO.2 ⟨i, h1, rfl, by simp [h1, h2]⟩
      exact List.length_pos_of_mem this

/-- The model's list: sides of the later steps, kept rising. -/
def lvS (s : List (Int × Int)) (k : Nat) : Nat → List Int
  | 0 => []
  | j + 1 => putI (putI (lvS s k j) (s.getD (k + j) (0, 0)).1) (s.getD (k + j) (0, 0)).2
def lvO (s : List (Int × Int)) (o : List Int) (k i : Nat) : List Int := uniK (lvS s k (s.length - k)) o i
def flK (l : List Int) (m : Int) (i : Nat) : List Int := (l.take i).filter fun v => decide (v < m)
theorem lvS_asc (s : List (Int × Int)) (k : Nat) : ∀ j, Asc (lvS s k j) ∧ (lvS s k j).length ≤ 2 * j := by
  intro j
  induction j with
  | zero => exact ⟨fun i j _ h => by simp [lvS] at h, by simp [lvS]⟩
  | succ j ih =>
    have h1 := putI_le (lvS s k j) (s.getD (k + j) (0, 0)).1
    have h2 := putI_le (putI (lvS s k j) (s.getD (k + j) (0, 0)).1) (s.getD (k + j) (0, 0)).2
    exact ⟨putI_asc (putI_asc ih.1 _) _, by simp only [lvS]; omega⟩
theorem mem_lvS {s : List (Int × Int)} {k : Nat} {x : Int} : ∀ j, x ∈ lvS s k j ↔ ∃ i : Nat, k ≤ i ∧ i < k + j ∧ ((s.getD i (0, 0)).1 = x ∨ (s.getD i (0, 0)).2 = x) := by
  intro j
  induction j with
  | zero => simp [lvS]; intro i h1 h2; omega
  | succ j ih =>
    simp only [lvS]
    rw [mem_putI_iff, mem_putI_iff, ih]
    constructor
    · rintro (h | h | ⟨i, h1, h2, h3⟩)
      · exact ⟨k + j, by omega, by omega, .inr h.symm⟩
      · exact ⟨k + j, by omega, by omega, .inl h.symm⟩
      · exact ⟨i, h1, by omega, h3⟩
    · rintro ⟨i, h1, h2, h3⟩
      rcases Nat.lt_or_ge i (k + j) with h4 | h4
      · exact .inr (.inr ⟨i, h1, h4, h3⟩)
      · have e : i = k + j := by omega
        subst e
        rcases h3 with h3 | h3
        · exact .inr (.inl h3.symm)
        · exact .inl h3.symm
theorem lvO_succ {s : List (Int × Int)} {o : List Int} {k i : Nat} (hi : i < o.length) : lvO s o k (i + 1) = putI (lvO s o k i) (o.getD i 0) := uniK_succ hi
theorem lvO_ok (s : List (Int × Int)) (o : List Int) (k : Nat) : ∀ i, i ≤ o.length → Asc (lvO s o k i) ∧ (lvO s o k i).length ≤ 2 * (s.length - k) + i ∧ ∀ x, x ∈ lvO s o k i ↔ (x ∈ lvS s k (s.length - k) ∨ x ∈ o.take i) := by
  intro i
  induction i with
  | zero =>
    intro _
    unfold lvO
    rw [uniK_zero]
    exact ⟨(lvS_asc s k _).1, by have := (lvS_asc s k (s.length - k)).2; omega, fun x => by simp⟩
  | succ i ih =>
    intro hi
    obtain ⟨h1, h2, h3⟩ := ih (by omega)
    rw [lvO_succ (by omega)]
    refine ⟨putI_asc h1 _, by have := putI_le (lvO s o k i) (o.getD i 0); omega, fun x => ?_⟩
    rw [mem_putI_iff, h3, take_succ_getD (by omega), List.mem_append, List.mem_singleton]
    constructor
    · rintro (h | h | h)
      · exact .inr (.inr h)
      · exact .inl h
      · exact .inr (.inl h)
    · rintro (h | h | h)
      · exact .inr (.inl h)
      · exact .inr (.inr h)
      · exact .inl h
theorem flK_hit {l : List Int} {m : Int} {i : Nat} (hi : i < l.length) (h : l.getD i 0 < m) : flK l m (i + 1) = flK l m i ++ [l.getD i 0] := by
  unfold flK
  rw [take_succ_getD hi, List.filter_append]
  simp only [List.filter_cons, decide_eq_true h, if_true, List.filter_nil]
theorem flK_miss {l : List Int} {m : Int} {i : Nat} (hi : i < l.length) (h : ¬ l.getD i 0 < m) : flK l m (i + 1) = flK l m i := by
  unfold flK
  rw [take_succ_getD hi, List.filter_append]
  simp only [List.filter_cons, decide_eq_false h, List.filter_nil]
  simp
theorem flK_le (l : List Int) (m : Int) (i : Nat) : (flK l m i).length ≤ l.length := by
  unfold flK
  exact Nat.le_trans (List.length_filter_le _ _) (by simp; omega)
/-- Both are the same. -/
theorem liv_eq {N : Nat} {s : List (Int × Int)} {o : List Int} {k : Nat} (hs : OkS N s) (ho : ∀ x ∈ o, 0 ≤ x) (hk : k ≤ s.length) :
    flK (lvO s o k o.length) ((N : Int) + k) (lvO s o k o.length).length = liv N s o k := by
  obtain ⟨h1, _, h3⟩ := lvO_ok s o k o.length (Nat.le_refl _)
  unfold flK liv
  rw [List.take_length]
  rw [List.take_length] at h3
  refine asc_same ?_ (livK_asc s o k _) fun x => ?_
  · rw [asc_pw] at h1 ⊢
    exact h1.filter _
  · rw [List.mem_filter, h3, mem_livK, mem_lvS]
    have e : k + (s.length - k) = s.length := by omega
    rw [e]
    constructor
    · rintro ⟨h4, h5⟩
      have h6 : x < (N : Int) + k := of_decide_eq_true h5
      have h0 : 0 ≤ x := by
        rcases h4 with ⟨i, _, h7, h8⟩ | h4
        · obtain ⟨q1, q2, _⟩ := hs i h7
          have e2 : s.getD i (0, 0) = s[i] := by simp [h7]
          rw [e2] at h8
          rcases h8 with h8 | h8 <;> omega
        · exact ho x h4
      refine ⟨x.toNat, by omega, by omega, ?_⟩
      rw [show ((x.toNat : Nat) : Int) = x by omega, lvB_iff]
      exact h4
    · rintro ⟨v, h4, rfl, h5⟩
      rw [lvB_iff] at h5
      exact ⟨h5, by simp; omega⟩
end Go.Proofs.Ytbbjgcagkmlngab
/- Values that are needed, where it is told of each value whether it is there; by the program and by the model, as data. -/
namespace Go.Proofs.Ytbbjgcagkmlngab
open Go.RowKit

/-- A value is needed by an output, or by a step whose value is not there. -/
def lgB (N : Nat) (s : List (Int × Int)) (o : List Int) (f : Nat → Bool) (v : Int) : Bool := decide (0 < (usO o v o.length).length) || (usS s v s.length).any fun i => !f (N + i.toNat)
/-- The first m values that are there and needed. -/
def lgK (N : Nat) (s : List (Int × Int)) (o : List Int) (f : Nat → Bool) (m : Nat) : List Int := ((List.range m).filter fun v : Nat => f v && lgB N s o f (v : Int)).map fun v : Nat => (v : Int)
def lg (N : Nat) (s : List (Int × Int)) (o : List Int) (f : Nat → Bool) : List Int := lgK N s o f (N + s.length)
theorem lgK_le (N : Nat) (s : List (Int × Int)) (o : List Int) (f : Nat → Bool) (m : Nat) : (lgK N s o f m).length ≤ m := by
  unfold lgK
  rw [List.length_map]
  exact Nat.le_trans (List.length_filter_le _ _) (by simp)
theorem lgK_hit {N : Nat} {s : List (Int × Int)} {o : List Int} {f : Nat → Bool} {m : Nat} (h : (f m && lgB N s o f (m : Int)) = true) : lgK N s o f (m + 1) = lgK N s o f m ++ [(m : Int)] := by
  unfold lgK
  rw [List.range_succ, List.filter_append, List.map_append]
  simp [h]
theorem lgK_miss {N : Nat} {s : List (Int × Int)} {o : List Int} {f : Nat → Bool} {m : Nat} (h : (f m && lgB N s o f (m : Int)) = false) : lgK N s o f (m + 1) = lgK N s o f m := by
  unfold lgK
  rw [List.range_succ, List.filter_append, List.map_append]
  simp [h]
theorem filter_below {p : Nat → Bool} {b : Nat} : ∀ a, b ≤ a → (List.range a).filter (fun v => decide (v < b) && p v) = (List.range b).filter p := by
  intro a h
  obtain ⟨d, rfl⟩ : ∃ d, a = b + d := ⟨a - b, by omega⟩
  induction d with
  | zero =>
    refine List.filter_congr fun x hx => ?_
    have := List.mem_range.1 hx
    simp [decide_eq_true (show x < b from this)]
  | succ d ih =>
    rw [show b + (d + 1) = (b + d) + 1 by omega, List.range_succ, List.filter_append, ih (by omega)]
    simp
    intro h2
    omega
theorem lgB_upto {N : Nat} {s : List (Int × Int)} {o : List Int} {k : Nat} (v : Int) : lgB N s o (fun x => decide (x < N + k)) v = lvB s o k v := by
  unfold lgB lvB
  congr 1
  rw [Bool.eq_iff_iff, List.any_eq_true, List.any_eq_true]
  constructor
  · rintro ⟨i, h1, h2⟩
    obtain ⟨j, h3, rfl, _⟩ := mem_usS.1 h1
    refine ⟨_, h1, ?_⟩
    simp at h2 ⊢
    omega
  · rintro ⟨i, h1, h2⟩
    obtain ⟨j, h3, rfl, _⟩ := mem_usS.1 h1
    refine ⟨_, h1, ?_⟩
    simp at h2 ⊢
    omega
/-- Of the first k steps. -/
theorem lg_upto {N : Nat} {s : List (Int × Int)} {o : List Int} {k : Nat} (hk : k ≤ s.length) : lg N s o (fun x => decide (x < N + k)) = liv N s o k := by
  unfold lg liv lgK livK
  rw [filter_below (p := fun v : Nat => lgB N s o (fun x => decide (x < N + k)) (v : Int)) (N + s.length) (by omega)]
  congr 1
  refine List.filter_congr fun x _ => ?_
  exact lgB_upto _
theorem lgB_iff {N : Nat} {s : List (Int × Int)} {o : List Int} {f : Nat → Bool} {v : Int} : lgB N s o f v = true ↔ ((∃ i : Nat, f (N + i) = false ∧ i < s.length ∧ ((s.getD i (0, 0)).1 = v ∨ (s.getD i (0, 0)).2 = v)) ∨ v ∈ o) := by
  unfold lgB
  rw [Bool.or_eq_true, decide_eq_true_eq, List.any_eq_true]
  constructor
  · rintro (h | ⟨x, h1, h2⟩)
    · right
      obtain ⟨x, hx⟩ := List.exists_mem_of_length_pos h
      obtain ⟨i, h1, _, h3⟩ := mem_usO.1 hx
      rw [← h3]
      simp only [List.getD_eq_getElem?_getD, List.getElem?_eq_getElem h1, Option.getD_some]
      exact List.getElem_mem h1
    · left
      obtain ⟨i, h3, rfl, h5⟩ := mem_usS.1 h1
      exact ⟨i, by simpa using h2, h3, h5⟩
  · rintro (⟨i, h1, h2, h3⟩ | h)
    · right
      exact ⟨(i : Int), mem_usS.2 ⟨i, h2, rfl, h3⟩, by simpa using h1⟩
    · left
      obtain ⟨i, h1, h2⟩ := List.mem_iff_getElem.1 h
      have : ((i : Nat) : Int) ∈ usO o v o.length := mem_usO.2 ⟨i, h1, rfl, by simp [h1, h2]⟩
      exact List.length_pos_of_mem this

/-- The model's test of a value: an output, or a factor of one of the first j steps that has not been done. -/
def neB (s : List (Int × Int)) (o done : List Int) (v : Int) : Nat → Bool
  | 0 => hasI o v
  | j + 1 => neB s o done v j || (!hasI done (j : Int) && ((s.getD j (0, 0)).1 == v || (s.getD j (0, 0)).2 == v))
/-- Whether a value has been made. -/
def hereB (N : Nat) (done : List Int) (v : Nat) : Bool := decide (v < N) || hasI done ((v : Int) - N)
def neK (N : Nat) (s : List (Int × Int)) (o done : List Int) (m : Nat) : List Int := ((List.range m).filter fun v : Nat => hereB N done v && neB s o done (v : Int) s.length).map fun v : Nat => (v : Int)
theorem neK_le (N : Nat) (s : List (Int × Int)) (o done : List Int) (m : Nat) : (neK N s o done m).length ≤ m := by
  unfold neK
  rw [List.length_map]
  exact Nat.le_trans (List.length_filter_le _ _) (by simp)
theorem neK_hit {N : Nat} {s : List (Int × Int)} {o done : List Int} {m : Nat} (h : (hereB N done m && neB s o done (m : Int) s.length) = true) : neK N s o done (m + 1) = neK N s o done m ++ [(m : Int)] := by
  unfold neK
  rw [List.range_succ, List.filter_append, List.map_append]
  simp [h]
theorem neK_miss {N : Nat} {s : List (Int × Int)} {o done : List Int} {m : Nat} (h : (hereB N done m && neB s o done (m : Int) s.length) = false) : neK N s o done (m + 1) = neK N s o done m := by
  unfold neK
  rw [List.range_succ, List.filter_append, List.map_append]
  simp [h]
theorem neB_iff {s : List (Int × Int)} {o done : List Int} {v : Int} : ∀ j, neB s o done v j = true ↔ ((∃ i : Nat, i < j ∧ hasI done (i : Int) = false ∧ ((s.getD i (0, 0)).1 = v ∨ (s.getD i (0, 0)).2 = v)) ∨ v ∈ o) := by
  intro j
  induction j with
  | zero => simp [neB, hasI]
  | succ j ih =>
    simp only [neB, Bool.or_eq_true, ih, Bool.and_eq_true, Bool.not_eq_true', beq_iff_eq]
    constructor
    · rintro ((⟨i, h1, h2, h3⟩ | h) | ⟨h1, h2⟩)
      · exact .inl ⟨i, by omega, h2, h3⟩
      · exact .inr h
      · exact .inl ⟨j, by omega, h1, h2⟩
    · rintro (⟨i, h1, h2, h3⟩ | h)
      · rcases Nat.lt_or_ge i j with h4 | h4
        · exact .inl (.inl ⟨i, h4, h2, h3⟩)
        · have : i = j := by omega
          subst this
          exact .inr ⟨h2, h3⟩
      · exact .inl (.inr h)
/-- Both are the same, where what is there is told alike. -/
theorem ne_lg {N : Nat} {s : List (Int × Int)} {o done : List Int} {f : Nat → Bool} (h : ∀ v, v < N + s.length → f v = hereB N done v) : neK N s o done (N + s.length) = lg N s o f := by
  unfold neK lg lgK
  congr 1
  refine List.filter_congr fun x hx => ?_
  have hx := List.mem_range.1 hx
  rw [h x hx]
  congr 1
  rw [Bool.eq_iff_iff, neB_iff, lgB_iff]
  have hi : ∀ i : Nat, i < s.length → (f (N + i) = hasI done (i : Int)) := fun i hi => by
    rw [h _ (by omega)]
    unfold hereB
    rw [decide_eq_false (by omega), Bool.false_or]
    congr 1
    omega
  constructor
  · rintro (⟨i, h1, h2, h3⟩ | h1)
    · exact .inl ⟨i, by rw [hi i h1]; exact h2, h1, h3⟩
    · exact .inr h1
  · rintro (⟨i, h1, h2, h3⟩ | h1)
    · exact .inl ⟨i, h2, by rw [← hi i h2]; exact h1, h3⟩
    · exact .inr h1
theorem has_ups {k : Nat} {x : Int} : hasI (ups k) x = (decide (0 ≤ x) && decide (x < k)) := by
  unfold hasI
  rw [Bool.eq_iff_iff, List.contains_iff_mem]
  unfold ups
  rw [List.mem_map]
  simp only [List.mem_range, Bool.and_eq_true, decide_eq_true_eq]
  constructor
  · rintro ⟨a, h1, rfl⟩; omega
  · intro h; exact ⟨x.toNat, by omega, by omega⟩
theorem ne_liv {N : Nat} {s : List (Int × Int)} {o : List Int} {k : Nat} (hk : k ≤ s.length) : neK N s o (ups k) (N + s.length) = liv N s o k := by
  rw [← lg_upto hk]
  refine ne_lg fun v _ => ?_
  unfold hereB
  rw [has_ups, Bool.eq_iff_iff]
  simp only [Bool.or_eq_true, Bool.and_eq_true, decide_eq_true_eq]
  omega
end Go.Proofs.Ytbbjgcagkmlngab
/- The program's registers: an array by value. -/
namespace Go.Proofs.Ytbbjgcagkmlngab
open Go.RowKit

/-- An array of 46 integers in a block of its own. -/
def ArO (w : World) (B g : Nat) (l : List Int) : Prop := w.ownsRow B 183 1 (.slice (some ⟨g, 0, none⟩) 46 46) 46 (l.map I)
def arV (l : List Int) : Value := .agg (l.map I).toArray
theorem ArO.heap {w : World} {B g : Nat} {l : List Int} (h : ArO w B g l) : w.heap[g]? = some (.cells (l.map I).toArray 183 (0, 0)) := by
  rcases h.2 with ⟨h0, _⟩ | ⟨g', cap, cur, hv, _, hg, _, _, hs, ht⟩
  · cases h0
  · simp only [Value.slice.injEq, Option.some.injEq, Addr.mk.injEq, and_true, true_and] at hv
    obtain ⟨rfl, rfl⟩ := hv
    rw [hg]
    congr 2
    rw [← ht, List.take_of_length_le (by simp [hs])]
theorem ArO.len {w : World} {B g : Nat} {l : List Int} (h : ArO w B g l) : l.length = 46 := by
  have := h.1
  simpa using this
theorem ArO.of_heap {w : World} {B g : Nat} {l : List Int} (h : w.heap[g]? = some (.cells (l.map I).toArray 183 (0, 0))) (hB : B ≤ g) (hl : l.length = 46) : ArO w B g l :=
  ⟨by simp [hl], .inr ⟨g, 46, _, rfl, hB, h, Nat.le_refl _, by unfold maxLen; omega, by simp [hl], List.take_of_length_le (by simp [hl])⟩⟩
theorem ArO.below {w w' : World} {B g : Nat} {l : List Int} (h : ArO w B g l) (hb : Below w.heap.size w w') : ArO w' B g l := own_below h hb
theorem ArO.base {w : World} {B B' g : Nat} {l : List Int} (h : ArO w B g l) (hB : B' ≤ B) : ArO w B' g l := own_base h hB
theorem ArO.at_ {w : World} {B g r : Nat} {l : List Int} (h : ArO w B g l) (hr : r < 46) : w.cell? ⟨g, r, none⟩ = some (.int .i64 (reg l (r : Int))) := by
  have hl := h.len
  have h' : w.ownsRow _ _ _ _ _ _ := h
  rw [h'.cellAt _ (by omega), reg_get (by omega)]
  simp [I, hl, hr]
theorem ArO.frz {w : World} {B g r : Nat} {l : List Int} (h : ArO w B g l) : w.frozen? ⟨g, r, none⟩ = false := World.ownsRow.frozenAt h _
theorem ArO.set {w : World} {B g a : Nat} {l : List Int} (h : ArO w B g l) (x : Int) : ArO (w.setCell ⟨g, a, none⟩ (.int .i64 x)) B g (l.set a x) := by
  have h1 := (World.ownsRow.stored h a (.int .i64 x)).1
  unfold ArO
  rw [List.map_set]
  exact h1
theorem ArO.rd {w : World} {B g : Nat} {l : List Int} (h : ArO w B g l) : Rd w w.heap.size 1 (some ⟨g, 0, none⟩) l.length (l.map I) := by
  rw [h.len]
  exact Rd.of_own h
theorem info_ar : (Try.prog.info? 183).map (·.size) = some 46 := by kernel_rfl
theorem und_ar : ∃ n e, Try.prog.underlying 183 = some (.array n e) := ⟨_, _, Try.underlying183⟩
/-- The whole array, read. -/
theorem ArO.load {w : World} {B g : Nat} {l : List Int} (h : ArO w B g l) : (Instr.loadAt 183 (.pointer (some ⟨g, 0, none⟩))).run Try.prog w = .ok (arV l) w := by
  obtain ⟨n, e, hu⟩ := und_ar
  simp only [Instr.loadAt, Instr.sureAddr, Sem.run_bind, Sem.run_pure, Result.andThen]
  exact run_loadVar_row w g _ _ _ (0, 0) _ h.heap hu rfl (by rw [info_ar]; simp [h.len])
theorem ArO.loadVar {w : World} {B g : Nat} {l : List Int} (h : ArO w B g l) : (Go.loadVar 183 ⟨g, 0, none⟩).run Try.prog w = .ok (arV l) w := by
  obtain ⟨n, e, hu⟩ := und_ar
  exact run_loadVar_row w g _ _ _ (0, 0) _ h.heap hu rfl (by rw [info_ar]; simp [h.len])
/-- The whole array, written. -/
theorem ArO.store {w : World} {B g : Nat} {l l' : List Int} (h : ArO w B g l) (hl : l'.length = 46) : ∃ w', (Instr.storeAt 183 (.pointer (some ⟨g, 0, none⟩)) (arV l')).run Try.prog w = .ok () w' ∧ w' = w.setRow g (l'.map I).toArray ∧ ArO w' B g l' := by
  refine ⟨_, ?_, rfl, ?_⟩
  · simp only [Instr.storeAt, Instr.sureAddr, Sem.run_bind, Sem.run_pure, Result.andThen, arV]
    exact run_storeVar_row w g _ _ _ _ h.heap (by rw [info_ar]; simp [hl]) (by simp [hl, h.len]) (by simp [Value.oneCell'])
  · refine ArO.of_heap ?_ (own_block h g rfl).1 hl
    have h1 := h.heap
    simp only [World.setRow]
    rw [Array.getElem?_modify, if_pos rfl, h1]
    rfl

theorem heap_alloc_new' {w : World} {g : Nat} (h : g = w.heap.size) (o : Obj) : (w.alloc o).heap[g]? = some o := by
  subst h
  exact heap_alloc_new w o
/-- In a plain region: the whole array, read; written. -/
theorem wpList_arload {ops : Array Oper} {Q : Exit → Act → World → Prop} {rest : List Oper} {a : Act} {w : World} {o : Oper} {n B g : Nat} {l : List Int} (hA : ArO w B g l) (hg : o.guard = none) (ho : o.op = .load 183 (.tmp n))
    (hp : a.eval (.tmp n) = .pointer (some ⟨g, 0, none⟩)) (h : wpList Try.prog ops Q rest (a.put o.dst (arV l)) w) : wpList Try.prog ops Q (o :: rest) a w := by
  refine wpList_plain hg fun K hK => ?_
  have hk := hK _ _ h
  have e : (execOp a.eval o).run Try.prog w = .ok (.value (arV l)) w := by
    unfold execOp
    rw [ho]
    simp only [hp, Sem.run_bind, hA.load, Result.andThen, Sem.run_pure]
  unfold Oper.wp
  rw [e]
  exact hk
theorem wpList_arstore {ops : Array Oper} {Q : Exit → Act → World → Prop} {rest : List Oper} {a : Act} {w : World} {o : Oper} {n m B g : Nat} {l l' : List Int} (hA : ArO w B g l) (hg : o.guard = none) (ho : o.op = .store 183 (.tmp n) (.tmp m))
    (hp : a.eval (.tmp n) = .pointer (some ⟨g, 0, none⟩)) (hv : a.eval (.tmp m) = arV l') (hl : l'.length = 46) (h : ∀ w', w' = w.setRow g (l'.map I).toArray → ArO w' B g l' → wpList Try.prog ops Q rest (a.put o.dst undef) w') : wpList Try.prog ops Q (o :: rest) a w := by
  refine wpList_plain hg fun K hK => ?_
  obtain ⟨w', hs, hw, hA'⟩ := hA.store hl
  have hk := hK _ _ (h w' hw hA')
  have e : (execOp a.eval o).run Try.prog w = .ok .skip w' := by
    unfold execOp
    rw [ho]
    simp only [hp, hv, Sem.run_bind, hs, Result.andThen, Sem.run_pure]
  unfold Oper.wp
  rw [e]
  exact hk
theorem bel_setRow {C g : Nat} {w w' : World} {c : Array Value} (h : Below C w w') (hC : C ≤ g) : Below C w (w'.setRow g c) := by
  refine ⟨h.os, h.tape, h.output, by simpa [World.setRow] using h.size, fun i hi => ?_⟩
  rw [← h.block i hi]
  simp only [World.setRow]
  rw [Array.getElem?_modify, if_neg (by omega)]

/-- The registers behind the first k rounds. -/
def ownK (N k : Nat) : List Int := (List.range 46).map fun i : Nat => if i < k then (if i < N then (i : Int) else -1) else 0
theorem ownK_len (N k : Nat) : (ownK N k).length = 46 := by simp [ownK]
theorem ownK_lt {N k : Nat} (h : k < N) : ((ownK N k).set k (-1)).set k (k : Int) = ownK N (k + 1) := by
  apply List.ext_getElem
  · simp [ownK]
  · intro i h1 h2
    simp only [List.set_set, List.getElem_set]
    simp only [ownK, List.getElem_map, List.getElem_range]
    split
    · rename_i e; subst e; rw [if_pos (by omega), if_pos h]
    · by_cases h3 : i < k
      · simp [h3, show i < k + 1 by omega]
      · simp [h3, show ¬ i < k + 1 by omega]
theorem ownK_ge {N k : Nat} (h : ¬ k < N) : (ownK N k).set k (-1) = ownK N (k + 1) := by
  apply List.ext_getElem
  · simp [ownK]
  · intro i h1 h2
    simp only [List.getElem_set]
    simp only [ownK, List.getElem_map, List.getElem_range]
    split
    · rename_i e; subst e; rw [if_pos (by omega), if_neg h]
    · by_cases h3 : i < k
      · simp [h3, show i < k + 1 by omega]
      · simp [h3, show ¬ i < k + 1 by omega]
theorem made46 : ((List.replicate 46 (0 : Int)).map I).toArray = Array.replicate 46 (.int .i64 0) := by rfl
set_option maxRecDepth 100000 in
set_option maxHeartbeats 2000000 in
theorem ownRegisters_any (N : Nat) (w : World) :
    Calls Try.prog 155 #[.int .i64 (N : Int)] w fun e w' => e = .returned (arV (ownK N 46)) ∧ Below w.heap.size w w' := by
  go_enter Try.func155, Try.ntmps155
  go_wp2
  generalize hw2 : World.alloc (World.alloc w _) _ = w2
  have hA : ArO w2 w.heap.size w.heap.size (List.replicate 46 0) := by
    refine ArO.of_heap ?_ (Nat.le_refl _) (by simp)
    rw [← hw2, Below.heap_alloc _ _ _ (by simp)]
    exact heap_alloc_new w _
  have hC : ArO w2 w.heap.size (w.heap.size + 1) (ownK N 0) := by
    refine ArO.of_heap ?_ (by omega) (ownK_len _ _)
    rw [← hw2]
    exact heap_alloc_new' (by simp) _
  have hb2 : Below w.heap.size w w2 := by rw [← hw2]; exact ((Below.refl _ _).alloc (Nat.le_refl _) _).alloc (by simp) _
  have HA := Lib.hid hA
  have HC := Lib.hid hC
  have HB2 := Lib.hid hb2
  clear hw2 hA hC hb2
  go_loopw [5] (fun iv wr => ∃ k : Nat, k ≤ 46 ∧ iv = .int .i64 k ∧ ArO wr w.heap.size w.heap.size (List.replicate 46 0) ∧ ArO wr w.heap.size (w.heap.size + 1) (ownK N k) ∧ Below w.heap.size w wr) (fun i _ => 46 - (intOf i).toNat)
  case atStart => exact ⟨0, by omega, rfl, HA.out, HC.out, HB2.out⟩
  case round =>
    obtain ⟨k, hk, rfl, hA, hC, hbel⟩ := hrel
    have HA := Lib.hid hA
    have HC := Lib.hid hC
    have BEL := Lib.hid hbel
    clear hA hC hbel
    by_cases hlt : k < 46
    · have d0 := HC.out.at_ hlt
      have f0 := HC.out.frz (r := k)
      have hC1 := HC.out.set (a := k) (-1)
      have d1 := hC1.at_ hlt
      have f1 := hC1.frz (r := k)
      have iqk : (k : Int) < 46 := by omega
      have HC1 := Lib.hid hC1
      have HA1 := Lib.hid (show ArO (wr.setCell ⟨w.heap.size + 1, k, none⟩ (.int .i64 (-1))) w.heap.size w.heap.size (List.replicate 46 0) from
        ArO.of_heap ((Below.heap_setCell _ _ _ _ (by simp)).trans HA.out.heap) (Nat.le_refl _) (by simp))
      clear hC1
      by_cases hkN : k < N
      · have ikN : (k : Int) < (N : Int) := by omega
        have E := Lib.hid (ownK_lt hkN)
        clear hkN
        go_wp2
        go_roundw
        case rel =>
          refine ⟨k + 1, by omega, by go_num, ArO.of_heap ((Below.heap_setCell _ _ _ _ (by simp)).trans HA1.out.heap) (Nat.le_refl _) (by simp), ?_, (BEL.out.setCell (by simp) _).setCell (by simp) _⟩
          rw [← E.out]
          exact HC1.out.set _
        case measure => simp [intOf]; omega
      · have ikN : ¬ (k : Int) < (N : Int) := by omega
        have E := Lib.hid (ownK_ge hkN)
        clear hkN
        go_wp2
        go_roundw
        case rel =>
          refine ⟨k + 1, by omega, by go_num, HA1.out, ?_, BEL.out.setCell (by simp) _⟩
          rw [← E.out]
          exact HC1.out
        case measure => simp [intOf]; omega
    · have hk' : k = 46 := by omega
      subst hk'
      go_wp2_with (first
        | (refine wpList_arload HC.out rfl rfl rfl ?_; go_simp)
        | (refine wpList_arstore (l' := ownK N 46) HA.out rfl rfl rfl rfl (ownK_len _ _) ?_; intro w5 hw5 hA5; have HA5 := Lib.hid hA5; have HW5 := Lib.hid hw5; clear hw5 hA5; go_simp))
      obtain ⟨n0, e0, hu⟩ := und_ar
      refine bodyPost_ret (v := arV (ownK N 46)) ?_ rfl ⟨rfl, by rw [HW5.out]; exact bel_setRow BEL.out (Nat.le_refl _)⟩
      exact results_cell_row rfl _ _ w.heap.size _ _ (0, 0) _ rfl HA5.out.heap hu rfl (by rw [info_ar]; simp [ownK_len])
end Go.Proofs.Ytbbjgcagkmlngab
/- The steps of two plans behind each other: the program's. -/
namespace Go.Proofs.Ytbbjgcagkmlngab
open Go.RowKit

/-- The names of new values. -/
def tailN (b : Int) (m : Nat) : List Int := (List.range m).map fun i : Nat => b + i
theorem tailN_length (b : Int) (m : Nat) : (tailN b m).length = m := by simp [tailN]
theorem tailN_succ (b : Int) (m : Nat) : tailN b (m + 1) = tailN b m ++ [b + m] := by simp [tailN, List.range_succ]
theorem boxesPQ {w w2 : World} {a b c a' b' c' : Value} {t t' : TypeId} (h : (w.alloc (.cells #[a, b, c] t)).alloc (.cells #[a', b', c'] t') = w2) :
    w2.heap[w.heap.size]? = some (.cells #[a, b, c] t (0, 0)) ∧ w2.heap[w.heap.size + 1]? = some (.cells #[a', b', c'] t' (0, 0)) ∧ w2.heap.size = w.heap.size + 2 ∧ Below w.heap.size w w2 := by
  subst h
  refine ⟨?_, ?_, by simp, ((Below.refl _ _).alloc (Nat.le_refl _) _).alloc (by simp) _⟩
  · rw [Below.heap_alloc _ _ _ (by simp)]; exact heap_alloc_new w _
  · have := heap_alloc_new (w.alloc (.cells #[a, b, c] t)) (.cells #[a', b', c'] t')
    simpa using this

end Go.Proofs.Ytbbjgcagkmlngab
/- The steps of two plans behind each other: the model's. -/
namespace Go.Proofs.Ytbbjgcagkmlngab
open Go.RowKit

theorem tailN_get (L : List Int) (b : Int) {k m x : Nat} (hx : x < L.length + k) (hk : k ≤ m) : (L ++ tailN b m).getD x 0 = (L ++ tailN b k).getD x 0 := by
  rw [List.getD_eq_getElem?_getD, List.getD_eq_getElem?_getD, List.getElem?_append, List.getElem?_append]
  split
  · rfl
  · simp [tailN, show x - L.length < m by omega, show x - L.length < k by omega]

end Go.Proofs.Ytbbjgcagkmlngab
/- Plans behind each other as data; what both sides answer for a plan or none. -/
namespace Go.Proofs.Ytbbjgcagkmlngab
open Go.RowKit

set_option maxRecDepth 100000 in
set_option maxHeartbeats 1000000 in
theorem planOrNone_any (B : Nat) (A1 A2 : Option Addr) (c1 c2 : Nat) (p : Pl) (w : World) (hB : B ≤ w.heap.size) (hls : p.s.length ≤ 2000000) (hlo : p.o.length ≤ 2000000) (hr : RdP w B A1 A2 p) :
    Calls Try.prog 95 #[.agg #[.int .i64 p.n, .slice A1 p.s.length c1, .slice A2 p.o.length c2]] w fun e w' =>
      e = .returned (.tuple #[selV (good p) (.agg #[.int .i64 p.n, .slice A1 p.s.length c1, .slice A2 p.o.length c2]) (.agg #[.int .i64 0, .slice none 0 0, .slice none 0 0]), .bool (good p)]) ∧ Below w.heap.size w w' := by
  have H := Lib.hid hr
  clear hr
  obtain ⟨gd, hgd⟩ : ∃ x, good p = x := ⟨_, rfl⟩
  have HG := Lib.hid hgd
  go_enter Try.func95, Try.ntmps95
  go_wp2_with fail
  go_at_call 142
  generalize hw1 : World.alloc (World.alloc w _) _ = w1
  obtain ⟨q0, q1, xs, xb⟩ := boxes2b hw1
  clear hw1
  have hC := implIsPlan_any w.heap.size A1 A2 c1 c2 p w1 (by omega) hls hlo ((H.out.below' xb hB).more hB)
  rw [hgd] at hC
  refine hC.mono ?_
  rintro e w2 ⟨rfl, hb2⟩
  clear hC hgd
  obtain ⟨y0, y1, y2, _, _, _⟩ := cells3b ((hb2.block w.heap.size (by omega)).trans q0)
  obtain ⟨t0, t1, t2, g0, g1, g2⟩ := cells3b ((hb2.block (w.heap.size + 1) (by omega)).trans q1)
  have HB2 := Lib.hid (xb.trans (hb2.mono (show w.heap.size ≤ w1.heap.size by omega)))
  clear q0 q1 xs xb hb2
  cases gd with
  | false =>
    go_wp2
    refine bodyPost_ret (v := .tuple #[.agg #[.int .i64 0, .slice none 0 0, .slice none 0 0], .bool false]) (by simp [results, Try.results95, go_sem, t0, t1, t2]) rfl ⟨by rw [HG.out]; rfl, ?_⟩
    exact ((HB2.out.setCell (by simp) _).setCell (by simp) _).setCell (by simp) _
  | true =>
    go_wp2
    refine bodyPost_ret (v := .tuple #[.agg #[.int .i64 p.n, .slice A1 p.s.length c1, .slice A2 p.o.length c2], .bool true]) (by simp [results, Try.results95, go_sem, t0, t1, t2]) rfl ⟨by rw [HG.out]; rfl, ?_⟩
    exact ((HB2.out.setCell (by simp) _).setCell (by simp) _).setCell (by simp) _
def compNm (p q : Pl) : List Int := p.o ++ tailN (p.n + p.s.length) q.s.length
def compD (p q : Pl) : Pl := ⟨p.n, p.s ++ q.s.map (stN (compNm p q)), q.o.map fun x => (compNm p q).getD x.toNat 0⟩
def compB (p q : Pl) : Bool := (good p && (good q && decide ((p.o.length : Int) = q.n))) && good (compD p q)
def compR (p q : Pl) : Pl := if compB p q then compD p q else zeroP
theorem compR_true {p q : Pl} (h : compB p q = true) : compR p q = compD p q := by unfold compR; rw [if_pos h]
theorem compR_false {p q : Pl} (h : compB p q = false) : compR p q = zeroP := by unfold compR; rw [if_neg (by rw [h]; decide)]
theorem compD_s (p q : Pl) : (compD p q).s.length = p.s.length + q.s.length := by simp [compD]
theorem compD_o (p q : Pl) : (compD p q).o.length = q.o.length := by simp [compD]
theorem boxesPQZ {w w2 : World} {a b c a' b' c' : Value} {t t' : TypeId} (h : ((w.alloc (.cells #[a, b, c] t)).alloc (.cells #[a', b', c'] t')).alloc (.cells #[.int .i64 0, .slice none 0 0, .slice none 0 0] 44) = w2) :
    w2.heap[w.heap.size]? = some (.cells #[a, b, c] t (0, 0)) ∧ w2.heap[w.heap.size + 1]? = some (.cells #[a', b', c'] t' (0, 0)) ∧ w2.heap[w.heap.size + 2]? = some (.cells #[.int .i64 0, .slice none 0 0, .slice none 0 0] 44 (0, 0)) ∧ w2.heap.size = w.heap.size + 3 ∧ Below w.heap.size w w2 := by
  subst h
  refine ⟨?_, ?_, ?_, by simp, (((Below.refl _ _).alloc (Nat.le_refl _) _).alloc (by simp) _).alloc (by simp; omega) _⟩
  · rw [Below.heap_alloc _ _ _ (by simp; omega), Below.heap_alloc _ _ _ (by simp)]; exact heap_alloc_new w _
  · rw [Below.heap_alloc _ _ _ (by simp)]
    have := heap_alloc_new (w.alloc (.cells #[a, b, c] t)) (.cells #[a', b', c'] t')
    simpa using this
  · have := heap_alloc_new ((w.alloc (.cells #[a, b, c] t)).alloc (.cells #[a', b', c'] t')) (.cells #[.int .i64 0, .slice none 0 0, .slice none 0 0] 44)
    simpa using this
end Go.Proofs.Ytbbjgcagkmlngab
/- The maker of plans of the program: one step more, squares, the plan that it has made. -/
namespace Go.Proofs.Ytbbjgcagkmlngab
open Go.RowKit

/-- A maker at block g with n inputs and the steps s. -/
def MkS (w : World) (B g : Nat) (n : Int) (s : List (Int × Int)) : Prop :=
  ∃ A c, w.heap[g]? = some (.cells #[.int .i64 n, .slice A s.length c] 186 (0, 0)) ∧ OwS w B (.slice A s.length c) s
theorem MkS.same {w w' : World} {B g : Nat} {n : Int} {s : List (Int × Int)} (h : MkS w B g n s) (hk : ∀ k, k < w.heap.size → w'.heap[k]? = w.heap[k]?) : MkS w' B g n s := by
  obtain ⟨A, c, h1, h2⟩ := h
  exact ⟨A, c, (hk g (Array.getElem?_eq_some_iff.1 h1).1).trans h1, own_same h2 hk⟩
theorem MkS.below {w w' : World} {B g : Nat} {n : Int} {s : List (Int × Int)} (h : MkS w B g n s) (hb : Below w.heap.size w w') : MkS w' B g n s := h.same hb.block
theorem MkS.lt {w : World} {B g : Nat} {n : Int} {s : List (Int × Int)} (h : MkS w B g n s) : g < w.heap.size := by
  obtain ⟨A, c, h1, _⟩ := h
  exact (Array.getElem?_eq_some_iff.1 h1).1

/-- Own rows of neither steps nor makers are kept. -/
def Kp (w w' : World) : Prop := (∀ (B sz n : Nat) (e : TypeId) (v : Value) (xs : List Value), e ≠ 114 → e ≠ 186 → w.ownsRow B e sz v n xs → w'.ownsRow B e sz v n xs) ∧ KeepsOthers w w'
theorem Kp.refl (w : World) : Kp w w := ⟨fun _ _ _ _ _ _ _ _ h => h, KeepsOthers.refl w⟩
theorem Kp.trans {a b c : World} (h : Kp a b) (h' : Kp b c) : Kp a c := ⟨fun B sz n e v xs h1 h2 h3 => h'.1 B sz n e v xs h1 h2 (h.1 B sz n e v xs h1 h2 h3), h.2.trans h'.2⟩
theorem Kp.ints {a b : World} (h : Kp a b) {B : Nat} {v : Value} {l : List Int} (ho : OwI a B v l) : OwI b B v l := h.1 _ _ _ _ _ _ (by decide) (by decide) ho
theorem own_row_cells {w : World} {B sz n : Nat} {e : TypeId} {v : Value} {xs : List Value} (h : w.ownsRow B e sz v n xs) : ∀ (j : Nat) (o : Obj), v.ownBlock = some j → w.heap[j]? = some o → o.isCells = true := by
  intro j o hj ho
  rcases h.2 with ⟨rfl, _⟩ | ⟨g, cap, cur, rfl, _, hg, _⟩
  · cases hj
  · cases hj
    rw [hg] at ho
    cases ho
    rfl
theorem stI_min (a b : Int) : stI a b = (min a b, max a b) := by
  have h1 : leastI a b = min a b := by unfold leastI; split <;> omega
  have h2 : mostI a b = max a b := by unfold mostI; split <;> omega
  unfold stI
  rw [h1, h2]
theorem mk_kept {w w3 : World} {B g c : Nat} {n : Int} {s : List (Int × Int)} {A : Option Addr} {o : Obj} (hb : w.heap[g]? = some (.cells #[.int .i64 n, .slice A s.length c] 186 (0, 0))) (ho : OwS w B (.slice A s.length c) s)
    (hg : (w.alloc o).grownBy w3 (Value.slice A s.length c).ownBlock) :
    w3.heap[g]? = some (.cells #[.int .i64 n, .slice A s.length c] 186 (0, 0)) ∧ w3.frozen? ⟨g, 1, none⟩ = false ∧ w3.cell? ⟨g, 1, none⟩ = some (.slice A s.length c) := by
  have hgl : g < w.heap.size := (Array.getElem?_eq_some_iff.1 hb).1
  have hbA : (w.alloc o).heap[g]? = _ := (Below.heap_alloc w o g hgl).trans hb
  have h3 := (hg.block g (by simp; omega) (own_ne_blk (World.ownsRow.alloc ho o) hbA (by decide))).trans hbA
  exact ⟨h3, frozen_of_row w3 g 1 _ _ h3, by rw [cell_of_row w3 g 1 _ _ (0, 0) h3]; rfl⟩
theorem mk_set {w w' : World} {g : Nat} {a b u : Value} {t : TypeId} (hb : w.heap[g]? = some (.cells #[a, b] t (0, 0))) (h : w.setCell ⟨g, 1, none⟩ u = w') : w'.heap[g]? = some (.cells #[a, u] t (0, 0)) := by
  subst h
  rw [heap_setCell_same w g 1 _ t u hb]
  rfl

set_option maxRecDepth 100000 in
set_option maxHeartbeats 1000000 in
theorem makerMul_any (B g : Nat) (n : Int) (s : List (Int × Int)) (a b : Int) (w : World) (hB : B ≤ g) (hm : MkS w B g n s) (hl : s.length ≤ 2000000) (hn0 : 0 ≤ n) (hn1 : n ≤ 2000000) :
    Calls Try.prog 157 #[.pointer (some ⟨g, 0, none⟩), .int .i64 a, .int .i64 b] w fun e w' =>
      e = .returned (.int .i64 (n + s.length)) ∧ MkS w' B g n (s ++ [stI a b]) ∧ Below B w w' ∧ Kp w w' := by
  obtain ⟨A, c, hblk, hown⟩ := hm
  have hgl : g < w.heap.size := (Array.getElem?_eq_some_iff.1 hblk).1
  have c1 : w.cell? ⟨g, 1, none⟩ = some (.slice A s.length c) := by rw [cell_of_row w g 1 _ _ (0, 0) hblk]; rfl
  have HB := Lib.hid hblk
  have HO := Lib.hid hown
  have hBs : B ≤ w.heap.size := by omega
  clear hblk hown
  have HXY := Lib.hid (stI_min a b)
  go_enter Try.func157, Try.ntmps157
  go_wp2_with (at_builtin; refine list_step (fun K hK => ?_); refine step_app2 Try.underlying42 info_step rfl (by omega) rfl (.tmp 11) (.tmp 19) rfl B s.length _ (fl s) rfl (World.ownsRow.alloc HO.out _) w.heap.size 1 (I _) (I _) rfl (by simp; rfl) (by simp; rfl) rfl rfl (by omega) (by simp; omega) ?_; intro A3 c3 w3 hown3 hg3 hbel3; obtain ⟨hb3, f3, k3⟩ := mk_kept HB.out HO.out hg3; go_simp; refine hK _ _ ?_; clear hK K)
  obtain ⟨w4, hw4⟩ : ∃ w4, World.setCell w3 ⟨g, 1, none⟩ (.slice A3 (s.length + 1) c3) = w4 := ⟨_, rfl⟩
  rw [hw4]
  have hb4 := mk_set hb3 hw4
  have x0 : w4.cell? ⟨g, 0, none⟩ = some (.int .i64 n) := by rw [cell_of_row w4 g 0 _ _ (0, 0) hb4]; rfl
  have x1 : w4.cell? ⟨g, 1, none⟩ = some (.slice A3 (s.length + 1) c3) := by rw [cell_of_row w4 g 1 _ _ (0, 0) hb4]; rfl
  have hw : IntKind.i64.wrap (n + ((s.length : Int) + 1)) = n + ((s.length : Int) + 1) := IntWalk.i64_in _ (by omega)
  have hw2 : IntKind.i64.wrap (n + ((s.length : Int) + 1) - 1) = n + (s.length : Int) := by
    rw [IntWalk.i64_in _ (by omega)]
    omega
  have R4 := Lib.hid (show OwS w4 B (.slice A3 (s.length + 1) c3) (s ++ [stI a b]) from by
    subst hw4
    unfold OwS
    rw [HXY.out, fl_snoc, List.length_append, List.length_singleton]
    exact own_set hown3 hb3 (by decide) _)
  have B4 := Lib.hid (show Below B w w4 from by
    subst hw4
    exact (((Below.refl _ _).alloc hBs _).trans hbel3).setCell hB _)
  have K4 := Lib.hid (show Kp w w4 from ⟨fun B' sz n' e v xs h1 h2 h3 => by
    subst hw4
    exact own_set (World.ownsRow.kept (World.ownsRow.alloc h3 _) hg3 (own_ne h3 HO.out h1)) hb3 (Ne.symm h2) _, by
    subst hw4
    exact ((KeepsOthers.alloc _ _).trans (KeepsOthers.of_grownBy hg3 (own_row_cells (World.ownsRow.alloc HO.out _)))).trans (KeepsOthers.setCell _ _ _)⟩)
  have HB4 := Lib.hid hb4
  clear hw4 hb4 hb3 f3 k3 hown3 hg3 hbel3
  refine wp_region_Tw [0, 1, 2, 3, 4, 5, 6, 7, 8, 9, 10, 11] [3, 7] (.lp 0 (.lp 1 (.lp 2 (.lp 4 (.lp 5 (.lp 6 (.ls 3 (.ls 7 (.lp 8 (.lp 9 (.lp 10 (.lp 11 (.done))))))))))))) (by kernel_rfl) (by kernel_rfl) ?_
  (repeat (first | (refine T_lp rfl (fun K hK => ?_); go_simp; refine hK _ ?_; clear hK K) | (refine T_ls rfl rfl (fun K hK => ?_); go_simp; refine hK _ ?_; clear hK K)))
  refine T_done ?_
  go_wp2
  go_ret
  exact ⟨rfl, ⟨A3, c3, by rw [List.length_append, List.length_singleton]; exact HB4.out, by rw [List.length_append, List.length_singleton]; exact R4.out⟩, B4.out.drew, ⟨K4.out.1, K4.out.2.trans ⟨Nat.le_refl _, fun _ _ h _ => h⟩⟩⟩

/-- One product more: the steps and the value. -/
def muS (n : Int) (x : List (Int × Int) × Int) (b : Int) : List (Int × Int) × Int := (x.1 ++ [stI x.2 b], n + x.1.length)
/-- A product that may have no factor yet. -/
def onS (n : Int) (x : List (Int × Int) × Int) (b : Int) : List (Int × Int) × Int := if x.2 = -1 then (x.1, b) else muS n x b
/-- Squared k times. -/
def sqN (n : Int) (x : List (Int × Int) × Int) : Nat → List (Int × Int) × Int
  | 0 => x
  | k + 1 => muS n (sqN n x k) (sqN n x k).2
theorem sqN_len (n : Int) (x : List (Int × Int) × Int) (k : Nat) : (sqN n x k).1.length = x.1.length + k := by
  induction k with
  | zero => rfl
  | succ k ih => show ((sqN n x k).1 ++ [_]).length = _; rw [List.length_append, ih]; simp; omega
theorem onS_len (n : Int) (x : List (Int × Int) × Int) (b : Int) : (onS n x b).1.length ≤ x.1.length + 1 := by
  unfold onS muS
  split <;> simp

/-- The plan if it is one, otherwise the zero plan. -/
def mkR (p : Pl) : Pl := if good p then p else zeroP
theorem mkR_true {p : Pl} (h : good p = true) : mkR p = p := by unfold mkR; rw [if_pos h]
theorem mkR_false {p : Pl} (h : good p = false) : mkR p = zeroP := by unfold mkR; rw [if_neg (by rw [h]; decide)]
theorem mkR_len (p : Pl) (hs : p.s.length ≤ 1000) (ho : p.o.length ≤ 1000) : (mkR p).s.length ≤ 1000 ∧ (mkR p).o.length ≤ 1000 := by
  unfold mkR
  split
  · exact ⟨hs, ho⟩
  · exact ⟨by simp [zeroP], by simp [zeroP]⟩

set_option maxRecDepth 100000 in
set_option maxHeartbeats 2000000 in
theorem makerPlan_any (B g : Nat) (A2 : Option Addr) (c2 : Nat) (p : Pl) (w : World) (_hB : B ≤ g) (hm : MkS w B g p.n p.s) (hO : OwI w B (.slice A2 p.o.length c2) p.o) (hl : p.s.length ≤ 2000000) (hlo : p.o.length ≤ 2000000) :
    Calls Try.prog 158 #[.pointer (some ⟨g, 0, none⟩), .slice A2 p.o.length c2] w fun e w' =>
      ∃ R1 R2 v1 v2, e = .returned (.tuple #[.agg #[.int .i64 (mkR p).n, .slice R1 (mkR p).s.length v1, .slice R2 (mkR p).o.length v2], .bool (good p)]) ∧ OwP w' B R1 R2 v1 v2 (mkR p) ∧ Below w.heap.size w w' := by
  obtain ⟨gd, hgd⟩ : ∃ x, good p = x := ⟨_, rfl⟩
  obtain ⟨A1, c1, hblk, hown⟩ := hm
  have hgl : g < w.heap.size := (Array.getElem?_eq_some_iff.1 hblk).1
  have HBLK := Lib.hid hblk
  have HOW := Lib.hid hown
  have HO := Lib.hid hO
  have HGD := Lib.hid hgd
  have hIf := fun W E1 E2 e1 e2 hrW => planOrNone_any W.heap.size E1 E2 e1 e2 p W (Nat.le_refl _) (by omega) (by omega) hrW
  rw [hgd] at hIf
  have HIF := Lib.hid hIf
  clear hblk hown hO hgd hIf
  go_enter Try.func158, Try.ntmps158
  go_wp2
  generalize hw1 : World.alloc w _ = w1
  obtain ⟨_, _, _, xs, xb⟩ := box3 hw1
  have q0 : w1.heap[w.heap.size]? = some (.cells #[.int .i64 0, .slice none 0 0, .slice none 0 0] 44 (0, 0)) := by subst hw1; exact heap_alloc_new w _
  have hb := (xb.block g hgl).trans HBLK.out
  have x0 : w1.cell? ⟨g, 0, none⟩ = some (.int .i64 p.n) := by rw [cell_of_row w1 g 0 _ _ (0, 0) hb]; rfl
  have x1 : w1.cell? ⟨g, 1, none⟩ = some (.slice A1 p.s.length c1) := by rw [cell_of_row w1 g 1 _ _ (0, 0) hb]; rfl
  have XB := Lib.hid xb
  have XS := Lib.hid xs
  have Q0 := Lib.hid q0
  clear hw1 xb xs q0 hb
  refine wp_region_Tw [0, 1, 2, 3, 4, 5, 6, 7, 8, 9, 11, 12, 14] [3, 7] (.lp 0 (.lp 1 (.lp 2 (.lp 4 (.lp 5 (.lp 6 (.lp 8 (.ls 3 (.ls 7 (.lp 9 (.hv 10 (.lp 11 (.lp 12 (.hv 13 (.lp 14 (.done)))))))))))))))) (by kernel_rfl) (by kernel_rfl) ?_
  (repeat (first | (refine T_lp rfl (fun K hK => ?_); go_simp; refine hK _ ?_; clear hK K) | (refine T_ls rfl rfl (fun K hK => ?_); go_simp; refine hK _ ?_; clear hK K)))
  refine T_hv rfl (by kernel_rfl) (fun K hK => ?_)
  go_simp
  go_at_call 95
  have RD := Lib.hid (show RdP w1.drew w1.drew.heap.size A1 A2 p from ⟨(Rd.of_own (own_below HOW.out XB.out)).drew, (Rd.of_own (own_below HO.out XB.out)).drew⟩)
  refine (HIF.out w1.drew A1 A2 c1 c2 RD.out).mono ?_
  rintro e w5 ⟨rfl, hb5⟩
  have hb15 : Below w1.heap.size w1 w5 := ((Below.refl _ w1).drew).trans hb5
  have Q5 := Lib.hid ((hb15.block w.heap.size (by have := XS.out; omega)).trans Q0.out)
  obtain ⟨t0, t1, t2, g0, g1, g2⟩ := cells3 Q5.out
  have O5 := Lib.hid (own_below (own_below HOW.out XB.out) hb15)
  have I5 := Lib.hid (own_below (own_below HO.out XB.out) hb15)
  have B5 := Lib.hid (XB.out.trans (hb15.mono (by have := XS.out; omega)))
  clear hb15 hb5 x0 x1
  cases gd with
  | false =>
    have ER := Lib.hid (mkR_false HGD.out)
    simp only [selV, Bool.false_eq_true, if_false]
    (go_simp; refine hK _ _ ?_; clear hK K)
    (repeat (first | (refine T_lp rfl (fun K hK => ?_); go_simp; refine hK _ ?_; clear hK K) | (refine T_ls rfl rfl (fun K hK => ?_); go_simp; refine hK _ ?_; clear hK K)))
    (refine T_hv rfl (by kernel_rfl) (fun K hK => ?_); go_simp; refine hK _ _ ?_; clear hK K)
    (repeat (first | (refine T_lp rfl (fun K hK => ?_); go_simp; refine hK _ ?_; clear hK K) | (refine T_ls rfl rfl (fun K hK => ?_); go_simp; refine hK _ ?_; clear hK K)))
    refine T_done ?_
    go_wp2
    refine bodyPost_ret (v := .tuple #[.agg #[.int .i64 0, .slice none 0 0, .slice none 0 0], .bool false]) (by simp [results, Try.results158, go_sem, t0, t1, t2]) rfl ⟨none, none, 0, 0, by rw [ER.out, HGD.out]; rfl, by rw [ER.out]; exact OwP.zero _ _, ?_⟩
    exact ((B5.out.setCell (by simp) _).setCell (by simp) _).setCell (by simp) _
  | true =>
    have ER := Lib.hid (mkR_true HGD.out)
    simp only [selV, if_true]
    (go_simp; refine hK _ _ ?_; clear hK K)
    (repeat (first | (refine T_lp rfl (fun K hK => ?_); go_simp; refine hK _ ?_; clear hK K) | (refine T_ls rfl rfl (fun K hK => ?_); go_simp; refine hK _ ?_; clear hK K)))
    (refine T_hv rfl (by kernel_rfl) (fun K hK => ?_); go_simp; refine hK _ _ ?_; clear hK K)
    (repeat (first | (refine T_lp rfl (fun K hK => ?_); go_simp; refine hK _ ?_; clear hK K) | (refine T_ls rfl rfl (fun K hK => ?_); go_simp; refine hK _ ?_; clear hK K)))
    refine T_done ?_
    go_wp2
    refine bodyPost_ret (v := .tuple #[.agg #[.int .i64 p.n, .slice A1 p.s.length c1, .slice A2 p.o.length c2], .bool true]) (by simp [results, Try.results158, go_sem, t0, t1, t2]) rfl ⟨A1, A2, c1, c2, by rw [ER.out, HGD.out], ?_, ?_⟩
    · rw [ER.out]
      exact owP_of3 O5.out I5.out Q5.out (by decide) (by decide) rfl rfl _ _ _
    · exact ((B5.out.setCell (by simp) _).setCell (by simp) _).setCell (by simp) _
end Go.Proofs.Ytbbjgcagkmlngab
/- A plan with a step more, and its value, by the model. -/
namespace Go.Proofs.Ytbbjgcagkmlngab
open Go.RowKit

theorem mt_set3 {w w' : World} {g : Nat} {a b c a' b' c' : Value} {t : TypeId} (h : w.heap[g]? = some (.cells #[a, b, c] t (0, 0))) (e : ((w.setCell ⟨g, 0, none⟩ a').setCell ⟨g, 1, none⟩ b').setCell ⟨g, 2, none⟩ c' = w') : w'.heap[g]? = some (.cells #[a', b', c'] t (0, 0)) := by
  subst e
  have h1 := heap_setCell_same w g 0 _ t a' h
  have h2 := heap_setCell_same _ g 1 _ t b' h1
  have h3 := heap_setCell_same _ g 2 _ t c' h2
  rw [h3]
  rfl
theorem mt_row {w : World} {B g n : Nat} {t : TypeId} {cs : Array Value} {v u0 u1 u2 : Value} {s : List (Int × Int)} {a b : Int} (h : w.ownsRow B 114 2 v n (fl s ++ [I (leastI a b), I (mostI a b)])) (hg : w.heap[g]? = some (.cells cs t (0, 0))) (hn : n = s.length + 1 := by rfl) (ht : t ≠ 114 := by decide) :
    OwS (((w.drew.setCell ⟨g, 0, none⟩ u0).setCell ⟨g, 1, none⟩ u1).setCell ⟨g, 2, none⟩ u2) B v (s ++ [stI a b]) := by
  subst hn
  unfold OwS
  rw [fl_snoc, List.length_append, List.length_singleton]
  exact own_set3 (w := w.drew) h hg ht _ _ _

end Go.Proofs.Ytbbjgcagkmlngab
/- Code of registers that is called otherwise, by the program, whatever gives the names. -/
namespace Go.Proofs.Ytbbjgcagkmlngab
open Go.RowKit

theorem own_lowC {w w' : World} {B C sz n : Nat} {e : TypeId} {v : Value} {xs : List Value} (h : w.ownsRow B e sz v n xs) (hlt : ∀ k, v.ownBlock = some k → k < C) (hb : Below C w w') : w'.ownsRow B e sz v n xs := by
  refine ⟨h.1, ?_⟩
  rcases h.2 with h0 | ⟨g, cap, cur, hv, hB, hg, r⟩
  · exact .inl h0
  · refine .inr ⟨g, cap, cur, hv, hB, ?_, r⟩
    rw [hb.block g (hlt g (by rw [hv]; rfl))]
    exact hg
theorem map_take_succ {α β : Type} {f : α → β} {l : List α} {k : Nat} (hk : k < l.length) : (l.take (k + 1)).map f = (l.take k).map f ++ [f l[k]] := by
  rw [List.take_succ_eq_append_getElem hk, List.map_append]
  rfl
theorem cells4n {w : World} {g : Nat} {a b c d : Value} {t : TypeId} (h : w.heap[g]? = some (.cells #[a, b, c, d] t (0, 0))) :
    w.cell? ⟨g, 0, none⟩ = some a ∧ w.cell? ⟨g, 1, none⟩ = some b ∧ w.cell? ⟨g, 2, none⟩ = some c ∧ w.cell? ⟨g, 3, none⟩ = some d ∧ w.frozen? ⟨g, 0, none⟩ = false ∧ w.frozen? ⟨g, 1, none⟩ = false ∧ w.frozen? ⟨g, 2, none⟩ = false ∧ w.frozen? ⟨g, 3, none⟩ = false :=
  ⟨by rw [cell_of_row w g 0 _ _ (0, 0) h]; rfl, by rw [cell_of_row w g 1 _ _ (0, 0) h]; rfl, by rw [cell_of_row w g 2 _ _ (0, 0) h]; rfl, by rw [cell_of_row w g 3 _ _ (0, 0) h]; rfl, frozen_of_row w g 0 _ _ h, frozen_of_row w g 1 _ _ h, frozen_of_row w g 2 _ _ h, frozen_of_row w g 3 _ _ h⟩
theorem own_set4 {w : World} {g B sz n : Nat} {t e : TypeId} {v : Value} {xs : List Value} {cs : Array Value} (h : w.ownsRow B e sz v n xs) (hg : w.heap[g]? = some (.cells cs t (0, 0))) (ht : t ≠ e) (a b c d : Value) :
    ((((w.setCell ⟨g, 0, none⟩ a).setCell ⟨g, 1, none⟩ b).setCell ⟨g, 2, none⟩ c).setCell ⟨g, 3, none⟩ d).ownsRow B e sz v n xs := by
  have h1 := own_set (o := 0) h hg ht a
  have k1 := heap_setCell_same _ _ 0 _ _ a hg
  have h2 := own_set (o := 1) h1 k1 ht b
  have k2 := heap_setCell_same _ _ 1 _ _ b k1
  have h3 := own_set (o := 2) h2 k2 ht c
  have k3 := heap_setCell_same _ _ 2 _ _ c k2
  exact own_set (o := 3) h3 k3 ht d

/-- What is asked of the function that gives names. -/
def Names (gf : Nat) (lf : Array Value) (f : Int → Int) (P : Int → Prop) (w : World) : Prop :=
  ∀ (W : World) (x : Int), Below w.heap.size w W → P x → Calls Try.prog gf (#[.int .i64 x] ++ lf) W fun e w' => e = .returned (.int .i64 (f x)) ∧ Below W.heap.size W w'

set_option maxRecDepth 100000 in
set_option maxHeartbeats 8000000 in
theorem called_any (B gf : Nat) (lf : Array Value) (ef : ∀ args w, (callFunc gf args).run Try.prog w = .ok (.enter gf args) w) (f : Int → Int) (P : Int → Prop) (A1 A2 A3 : Option Addr) (c1 c2 c3 : Nat) (c : Rc) (w : World)
    (hl1 : c.i.length ≤ 1048576) (hl2 : c.ops.length ≤ 1048576) (hl3 : c.o.length ≤ 1048576) (hi : ∀ x ∈ c.i, P x) (hp : ∀ x ∈ c.ops, P x.1 ∧ P x.2.1 ∧ P x.2.2) (ho : ∀ x ∈ c.o, P x) (hB : B ≤ w.heap.size) (hr : RdC w B A1 A2 A3 c) (HN : Names gf lf f P w) :
    Calls Try.prog 77 #[.agg #[.int .i64 c.r, .slice A1 c.i.length c1, .slice A2 c.ops.length c2, .slice A3 c.o.length c3], .func (.func gf) #[] lf] w fun e w' =>
      ∃ E1 E2 E3 e1 e2 e3, e = .returned (.agg #[.int .i64 c.r, .slice E1 c.i.length e1, .slice E2 c.ops.length e2, .slice E3 c.o.length e3]) ∧ OwC w' w.heap.size E1 E2 E3 e1 e2 e3 (rnC f c.r c) ∧ Below w.heap.size w w' := by
  have H := Lib.hid hr
  have HI := Lib.hid hi
  have HP := Lib.hid hp
  have HO := Lib.hid ho
  have HF := Lib.hid HN
  clear hr hi hp ho HN
  go_enter Try.func77, Try.ntmps77
  go_wp2
  generalize hw3 : World.alloc (World.alloc (World.alloc w _) _) _ = w3
  have q0 : w3.heap[w.heap.size]? = some (.cells #[.int .i64 c.r, .slice A1 c.i.length c1, .slice A2 c.ops.length c2, .slice A3 c.o.length c3] 29 (0, 0)) := by
    rw [← hw3, Below.heap_alloc _ _ _ (by simp; omega), Below.heap_alloc _ _ _ (by simp)]; exact heap_alloc_new w _
  have q1 : w3.heap[w.heap.size + 1]? = some (.cells #[.int .i64 0, .slice none 0 0, .slice none 0 0, .slice none 0 0] 29 (0, 0)) := by
    rw [← hw3, Below.heap_alloc _ _ _ (by simp)]
    exact heap_alloc_new' (by simp) _
  have q2 : w3.heap[w.heap.size + 2]? = some (.cells #[.int .i64 c.r, .slice none 0 0, .slice none 0 0, .slice none 0 0] 29 (0, 0)) := by
    rw [← hw3]
    exact heap_alloc_new' (by simp) _
  have hs3 : w3.heap.size = w.heap.size + 3 := by rw [← hw3]; simp
  have hb3 : Below w.heap.size w w3 := by rw [← hw3]; exact (((Below.refl _ _).alloc (Nat.le_refl _) _).alloc (by simp) _).alloc (by simp; omega) _
  have Q0 := Lib.hid q0
  have Q1 := Lib.hid q1
  have Q2 := Lib.hid q2
  have HB3 := Lib.hid hb3
  clear hw3 q0 q1 q2 hb3
  go_loopw [18] (fun iv wr => ∃ (k : Nat) (E : Option Addr) (d : Nat), k ≤ c.i.length ∧ iv = .int .i64 k ∧ wr.heap[w.heap.size + 2]? = some (.cells #[.int .i64 c.r, .slice E k d, .slice none 0 0, .slice none 0 0] 29 (0, 0)) ∧
    wr.ownsRow w3.heap.size 3 1 (.slice E k d) k (((c.i.take k).map f).map I) ∧ Below (w.heap.size + 2) w3 wr) (fun i _ => c.i.length - (intOf i).toNat)
  case atStart => exact ⟨0, none, 0, by omega, rfl, Q2.out, World.ownsRow_nil _ _ _ _, Below.refl _ _⟩
  case round =>
    obtain ⟨k, E, d, hk, rfl, hbox, hown, hbel⟩ := hrel
    have hszr : w3.heap.size ≤ wr.heap.size := hbel.size
    have HBW := Lib.hid (HB3.out.trans (hbel.mono (show w.heap.size ≤ w.heap.size + 2 by omega)))
    have BX := Lib.hid hbox
    have OWN := Lib.hid hown
    have BEL := Lib.hid hbel
    clear hbox hown hbel
    by_cases hlt : k < c.i.length
    · have iqk : (k : Int) < (c.i.length : Int) := by omega
      obtain ⟨b, off, rfl, hb, hc⟩ := (H.out.below' HBW.out hB).1.int hlt
      have SUC := Lib.hid (map_take_succ (f := f) hlt)
      have PX := HI.out _ (List.getElem_mem hlt)
      obtain ⟨x, hx⟩ : ∃ x, c.i[k] = x := ⟨_, rfl⟩
      rw [hx] at hc SUC PX
      have HC := Lib.hid (fun W hW => HF.out W x hW PX)
      obtain ⟨y, hy⟩ : ∃ y, f x = y := ⟨_, rfl⟩
      have hcc := HC.out
      rw [hy] at SUC hcc
      have HC := Lib.hid hcc
      clear hx hy PX hcc
      obtain ⟨_, b1, _, _, _, _, _, _⟩ := cells4n BX.out
      have FS := Lib.hid (show ∀ x, Below wr.heap.size wr x → x.cell? ⟨w.heap.size + 2, 1, none⟩ = some (.slice E k d) from fun x hx =>
        (hx.cell (p := ⟨w.heap.size + 2, 1, none⟩) (by simp only []; omega)).trans b1)
      have S0 := Lib.hid (show Below wr.heap.size wr wr.drew from (Below.refl _ _).drew)
      clear b1
      go_wp2
      refine wp_region_T (fun x : World => Below wr.heap.size wr x) [0, 1, 2, 3, 7] [1] (.lp 0 (.lp 2 (.lp 3 (.ls 1 (.hv 4 (.hv 5 (.hv 6 (.lp 7 (.hv 8 (.done)))))))))) (by kernel_rfl) (by kernel_rfl) ?_
      (repeat (refine T_lp rfl (fun K hK => ?_); go_simp; refine hK _ ?_; clear hK K))
      refine T_ls1 (v := .slice E k d) rfl rfl S0.out (fun x hx => (by have h0 := FS.out x hx; go_simp)) (fun K hK => ?_)
      (go_simp; refine hK _ ?_; clear hK K)
      refine T_hvS rfl (fun K hK => ?_)
      go_simp
      go_at_fn gf
      refine (HC.out wr.drew (HBW.out.trans (S0.out.mono HBW.out.size))).mono ?_
      rintro e w5 ⟨rfl, hb5⟩
      have hb5r : Below wr.heap.size wr w5 := S0.out.trans (hb5.mono (by simp))
      have OWN5 := Lib.hid (own_below OWN.out hb5r)
      have BX5 := Lib.hid ((hb5r.block (w.heap.size + 2) (by omega)).trans BX.out)
      have B5 := Lib.hid (BEL.out.trans (hb5r.mono (by omega)))
      have hs5 : wr.heap.size ≤ w5.heap.size := hb5r.size
      have HB5 := Lib.hid hb5r
      go_simp
      refine hK _ _ hb5r ?_
      clear hK K hb5 hb5r
      refine T_hvS rfl (fun K hK => ?_)
      go_simp
      refine hK _ _ (HB5.out.alloc HB5.out.size _) ?_
      clear hK K
      refine T_hv rfl (by kernel_rfl) (fun K hK => ?_)
      refine step_app1 Try.underlying22 info_int rfl (by omega) rfl (.tmp 23) (.tmp 27) rfl w3.heap.size k _ (((c.i.take k).map f).map I) rfl (World.ownsRow.alloc OWN5.out _) w5.heap.size 1 (I y) rfl (by simp) rfl (by omega) (by simp; omega) ?_
      intro E8 d8 w8 hown8 hg8 hbel8
      have bx8 : w8.heap[w.heap.size + 2]? = _ := (hbel8.block (w.heap.size + 2) (by omega)).trans ((Below.heap_alloc w5 _ (w.heap.size + 2) (by omega)).trans BX5.out)
      obtain ⟨_, k2, _, _, _, f2, _, _⟩ := cells4n bx8
      have BX8 := Lib.hid bx8
      have OWN8 := Lib.hid hown8
      have B8 := Lib.hid ((B5.out.alloc (show w.heap.size + 2 ≤ w5.heap.size by omega) (.cells #[.int .i64 y] 3)).trans (hbel8.mono (show w.heap.size + 2 ≤ w3.heap.size by omega)))
      clear bx8 hown8 hbel8 hg8
      (go_simp; refine hK _ _ ?_; clear hK K)
      (repeat (first | (refine T_lp rfl (fun K hK => ?_); go_simp; refine hK _ ?_; clear hK K) | (refine T_ls rfl rfl (fun K hK => ?_); go_simp; refine hK _ ?_; clear hK K)))
      (refine T_hv rfl (by kernel_rfl) (fun K hK => ?_); go_simp; refine hK _ _ ?_; clear hK K)
      refine T_done ?_
      go_wp2
      go_roundw
      case rel =>
        refine ⟨k + 1, E8, d8, by omega, by go_num, ?_, ?_, B8.out.setCell (by simp) _⟩
        · rw [heap_setCell_same w8 _ 1 _ _ _ BX8.out]; rfl
        · rw [SUC.out, List.map_append]
          exact own_set (o := 1) OWN8.out BX8.out (by decide) _
      case measure => simp [intOf]; omega
    · have hk' : k = c.i.length := by omega
      have BX0 := Lib.hid (show wr.heap[w.heap.size + 2]? = some (.cells #[.int .i64 c.r, .slice E c.i.length d, .slice none 0 0, .slice none 0 0] 29 (0, 0)) by rw [← hk']; exact BX.out)
      have OI0 := Lib.hid (show wr.ownsRow w3.heap.size 3 1 (.slice E c.i.length d) c.i.length ((c.i.map f).map I) by
        have h := OWN.out
        rw [hk', List.take_length] at h
        exact h)
      clear hk' BX OWN
      obtain ⟨w4, hw4⟩ : ∃ x, wr = x := ⟨_, rfl⟩
      rw [hw4] at hszr HBW BEL BX0 OI0 ⊢
      clear hw4
      have UI := Lib.hid (fun k (h : (Value.slice E c.i.length d).ownBlock = some k) => (own_block OI0.out k h).2)
      have z2 : w4.cell? ⟨w.heap.size, 2, none⟩ = some (.slice A2 c.ops.length c2) := by
        rw [cell_of_row w4 _ 2 _ _ (0, 0) ((BEL.out.block w.heap.size (by omega)).trans Q0.out)]; rfl
      go_wp2
      go_loopw [34] (fun iv wr => ∃ (k : Nat) (F : Option Addr) (g : Nat), k ≤ c.ops.length ∧ iv = .int .i64 k ∧ wr.heap[w.heap.size + 2]? = some (.cells #[.int .i64 c.r, .slice E c.i.length d, .slice F k g, .slice none 0 0] 29 (0, 0)) ∧
        wr.ownsRow w3.heap.size 3 1 (.slice E c.i.length d) c.i.length ((c.i.map f).map I) ∧
        wr.ownsRow w4.heap.size 88 3 (.slice F k g) k (fl3 ((c.ops.take k).map fun x => (f x.1, f x.2.1, f x.2.2))) ∧ Below (w.heap.size + 2) w3 wr ∧ w4.heap.size ≤ wr.heap.size) (fun i _ => c.ops.length - (intOf i).toNat)
      case atStart => exact ⟨0, none, 0, by omega, rfl, BX0.out, OI0.out, World.ownsRow_nil _ _ _ _, BEL.out, Nat.le_refl _⟩
      case round =>
        obtain ⟨k, F, g, hk, rfl, hbox, hoi, hown, hbel, hsz4⟩ := hrel
        have HBWr := Lib.hid (HB3.out.trans (hbel.mono (show w.heap.size ≤ w.heap.size + 2 by omega)))
        have BX := Lib.hid hbox
        have OI := Lib.hid hoi
        have OWN := Lib.hid hown
        have BL := Lib.hid hbel
        clear hbox hown hbel hoi
        by_cases hlt : k < c.ops.length
        · have iqk : (k : Int) < (c.ops.length : Int) := by omega
          obtain ⟨b, off, rfl, hb, hc1, hc2, hc3⟩ := (H.out.below' HBWr.out hB).2.1.op hlt
          have SUC := Lib.hid (map_take_succ (f := fun x : Int × Int × Int => (f x.1, f x.2.1, f x.2.2)) hlt)
          obtain ⟨P1, P2, P3⟩ := HP.out _ (List.getElem_mem hlt)
          obtain ⟨⟨x1, x2, x3⟩, hx⟩ : ∃ x, c.ops[k] = x := ⟨_, rfl⟩
          rw [hx] at hc1 hc2 hc3 SUC P1 P2 P3
          simp only at hc1 hc2 hc3 SUC P1 P2 P3
          have h1 := fun W hW => HF.out W x1 hW P1
          have h2 := fun W hW => HF.out W x2 hW P2
          have h3 := fun W hW => HF.out W x3 hW P3
          obtain ⟨y1, hy1⟩ : ∃ y, f x1 = y := ⟨_, rfl⟩
          obtain ⟨y2, hy2⟩ : ∃ y, f x2 = y := ⟨_, rfl⟩
          obtain ⟨y3, hy3⟩ : ∃ y, f x3 = y := ⟨_, rfl⟩
          rw [hy1] at SUC h1
          rw [hy2] at SUC h2
          rw [hy3] at SUC h3
          have H1 := Lib.hid h1
          have H2 := Lib.hid h2
          have H3 := Lib.hid h3
          clear hx hy1 hy2 hy3 P1 P2 P3 h1 h2 h3
          go_wp2
          generalize hw5 : World.alloc wr _ = w5
          obtain ⟨⟨e0, e1, e2⟩, es, eb⟩ := box3' hw5
          clear hw5
          have bx5 := (eb.block (w.heap.size + 2) (by omega)).trans BX.out
          obtain ⟨_, _, b2, _, _, _, _, _⟩ := cells4n bx5
          have FS := Lib.hid (show ∀ x, Below w5.heap.size w5 x → x.cell? ⟨w.heap.size + 2, 2, none⟩ = some (.slice F k g) ∧ x.cell? ⟨wr.heap.size, 0, none⟩ = some (.int .i64 x1) ∧ x.cell? ⟨wr.heap.size, 1, none⟩ = some (.int .i64 x2) ∧ x.cell? ⟨wr.heap.size, 2, none⟩ = some (.int .i64 x3) from fun x hx =>
            ⟨(hx.cell (p := ⟨w.heap.size + 2, 2, none⟩) (by simp only []; omega)).trans b2, (hx.cell (p := ⟨wr.heap.size, 0, none⟩) (by simp only []; omega)).trans e0, (hx.cell (p := ⟨wr.heap.size, 1, none⟩) (by simp only []; omega)).trans e1, (hx.cell (p := ⟨wr.heap.size, 2, none⟩) (by simp only []; omega)).trans e2⟩)
          have S0 := Lib.hid (show Below w5.heap.size w5 w5.drew from (Below.refl _ _).drew)
          have HB5 := Lib.hid (HBWr.out.trans (eb.mono HBWr.out.size))
          have BX5 := Lib.hid bx5
          have OI5 := Lib.hid (own_below OI.out eb)
          have OW5 := Lib.hid (own_below OWN.out eb)
          have BL5 := Lib.hid (BL.out.trans (eb.mono (show w.heap.size + 2 ≤ wr.heap.size by omega)))
          have hs45 : w4.heap.size ≤ w5.heap.size := by omega
          clear e0 e1 e2 b2 bx5 hc1 hc2 hc3 eb
          refine wp_region_T (fun x : World => Below w5.heap.size w5 x) [0, 1, 2, 3, 4, 6, 7, 8, 10, 11, 12, 14, 17] [1, 4, 8, 12] (.lp 0 (.lp 2 (.lp 3 (.lp 6 (.lp 7 (.lp 10 (.lp 11 (.ls 1 (.ls 4 (.ls 8 (.ls 12 (.hv 5 (.hv 9 (.hv 13 (.lp 14 (.hv 15 (.hv 16 (.lp 17 (.hv 18 (.done)))))))))))))))))))) (by kernel_rfl) (by kernel_rfl) ?_
          (repeat (refine T_lp rfl (fun K hK => ?_); go_simp; refine hK _ ?_; clear hK K))
          refine T_ls1 (v := .slice F k g) rfl rfl S0.out (fun x hx => (by obtain ⟨h0, h1, h2, h3⟩ := FS.out x hx; go_simp)) (fun K hK => ?_)
          (go_simp; refine hK _ ?_; clear hK K)
          refine T_ls1 (v := .int .i64 x1) rfl rfl S0.out (fun x hx => (by obtain ⟨h0, h1, h2, h3⟩ := FS.out x hx; go_simp)) (fun K hK => ?_)
          (go_simp; refine hK _ ?_; clear hK K)
          refine T_ls1 (v := .int .i64 x2) rfl rfl S0.out (fun x hx => (by obtain ⟨h0, h1, h2, h3⟩ := FS.out x hx; go_simp)) (fun K hK => ?_)
          (go_simp; refine hK _ ?_; clear hK K)
          refine T_ls1 (v := .int .i64 x3) rfl rfl S0.out (fun x hx => (by obtain ⟨h0, h1, h2, h3⟩ := FS.out x hx; go_simp)) (fun K hK => ?_)
          (go_simp; refine hK _ ?_; clear hK K)
          refine T_hvS rfl (fun K hK => ?_)
          go_simp
          go_at_fn gf
          refine (H1.out w5.drew (HB5.out.trans (S0.out.mono HB5.out.size))).mono ?_
          rintro e w6 ⟨rfl, hb6⟩
          have S6 := Lib.hid (S0.out.trans (hb6.mono (by simp)))
          have hs6 := S6.out.size
          go_simp
          refine hK _ _ S6.out ?_
          clear hK K hb6
          refine T_hvS rfl (fun K hK => ?_)
          go_simp
          go_at_fn gf
          refine (H2.out w6 (HB5.out.trans (S6.out.mono HB5.out.size))).mono ?_
          rintro e w7 ⟨rfl, hb7⟩
          have S7 := Lib.hid (S6.out.trans (hb7.mono hs6))
          have hs7 := S7.out.size
          go_simp
          refine hK _ _ S7.out ?_
          clear hK K hb7
          refine T_hvS rfl (fun K hK => ?_)
          go_simp
          go_at_fn gf
          refine (H3.out w7 (HB5.out.trans (S7.out.mono HB5.out.size))).mono ?_
          rintro e w8 ⟨rfl, hb8⟩
          have S8 := Lib.hid (S7.out.trans (hb8.mono hs7))
          have hs8 := S8.out.size
          have BX8 := Lib.hid ((S8.out.block (w.heap.size + 2) (by omega)).trans BX5.out)
          have OI8 := Lib.hid (own_below OI5.out S8.out)
          have OW8 := Lib.hid (own_below OW5.out S8.out)
          have BL8 := Lib.hid (BL5.out.trans (S8.out.mono (show w.heap.size + 2 ≤ w5.heap.size by omega)))
          go_simp
          refine hK _ _ S8.out ?_
          clear hK K hb8
          (repeat (refine T_lp rfl (fun K hK => ?_); go_simp; refine hK _ ?_; clear hK K))
          refine T_hvS rfl (fun K hK => ?_)
          go_simp
          refine hK _ _ (S8.out.alloc S8.out.size _) ?_
          clear hK K
          refine T_hv rfl (by kernel_rfl) (fun K hK => ?_)
          refine step_appN Try.underlying27 info_regop rfl (by omega) (by omega) rfl (.tmp 39) (.tmp 53) rfl w4.heap.size k _ (fl3 ((c.ops.take k).map fun x => (f x.1, f x.2.1, f x.2.2))) rfl (World.ownsRow.alloc OW8.out _) w8.heap.size 1 [I y1, I y2, I y3] rfl rfl (fun j hj => ?_) (by simp; exact ⟨rfl, rfl, rfl⟩) (by omega) (by simp; omega) ?_
          · match j, hj with
            | 0, _ => simp
            | 1, _ => simp
            | 2, _ => simp
          intro F9 g9 w9 hown9 hg9 hbel9
          have bx9 : w9.heap[w.heap.size + 2]? = _ := (hbel9.block (w.heap.size + 2) (by omega)).trans ((Below.heap_alloc w8 _ (w.heap.size + 2) (by omega)).trans BX8.out)
          obtain ⟨_, _, k2, _, _, _, f2, _⟩ := cells4n bx9
          have BX9 := Lib.hid bx9
          have OW9 := Lib.hid hown9
          have OI9 := Lib.hid (own_lowC (World.ownsRow.alloc OI8.out _) UI.out hbel9)
          have B9 := Lib.hid ((BL8.out.alloc (show w.heap.size + 2 ≤ w8.heap.size by omega) (.cells #[.int .i64 y1, .int .i64 y2, .int .i64 y3] 88)).trans (hbel9.mono (show w.heap.size + 2 ≤ w4.heap.size by omega)))
          have hs9 : w4.heap.size ≤ w9.heap.size := by have := hbel9.size; simp at this; omega
          clear bx9 hown9 hbel9 hg9
          (go_simp; refine hK _ _ ?_; clear hK K)
          (repeat (first | (refine T_lp rfl (fun K hK => ?_); go_simp; refine hK _ ?_; clear hK K) | (refine T_ls rfl rfl (fun K hK => ?_); go_simp; refine hK _ ?_; clear hK K)))
          (refine T_hv rfl (by kernel_rfl) (fun K hK => ?_); go_simp; refine hK _ _ ?_; clear hK K)
          refine T_done ?_
          go_wp2
          go_roundw
          case rel =>
            refine ⟨k + 1, F9, g9, by omega, by go_num, ?_, own_set (o := 2) OI9.out BX9.out (by decide) _, ?_, B9.out.setCell (by simp) _, by simpa [World.setCell] using hs9⟩
            · rw [heap_setCell_same w9 _ 2 _ _ _ BX9.out]; rfl
            · rw [SUC.out, fl3_snoc]
              exact own_set (o := 2) OW9.out BX9.out (by decide) _
          case measure => simp [intOf]; omega
        · have hk' : k = c.ops.length := by omega
          have BX0 := Lib.hid (show wr.heap[w.heap.size + 2]? = some (.cells #[.int .i64 c.r, .slice E c.i.length d, .slice F c.ops.length g, .slice none 0 0] 29 (0, 0)) by rw [← hk']; exact BX.out)
          have OO0 := Lib.hid (show wr.ownsRow w4.heap.size 88 3 (.slice F c.ops.length g) c.ops.length (fl3 (c.ops.map fun x => (f x.1, f x.2.1, f x.2.2))) by
            have h := OWN.out
            rw [hk', List.take_length] at h
            exact h)
          clear hk' BX OWN
          obtain ⟨w5, hw5⟩ : ∃ x, wr = x := ⟨_, rfl⟩
          rw [hw5] at hsz4 HBWr BL BX0 OI OO0 ⊢
          clear hw5
          have UO := Lib.hid (fun k (h : (Value.slice F c.ops.length g).ownBlock = some k) => (own_block OO0.out k h).2)
          have UI5 := Lib.hid (fun k (h : (Value.slice E c.i.length d).ownBlock = some k) => Nat.lt_of_lt_of_le (UI.out k h) hsz4)
          have z3 : w5.cell? ⟨w.heap.size, 3, none⟩ = some (.slice A3 c.o.length c3) := by
            rw [cell_of_row w5 _ 3 _ _ (0, 0) ((BL.out.block w.heap.size (by omega)).trans Q0.out)]; rfl
          go_wp2
          go_loopw [60] (fun iv wr => ∃ (k : Nat) (G : Option Addr) (m : Nat), k ≤ c.o.length ∧ iv = .int .i64 k ∧ wr.heap[w.heap.size + 2]? = some (.cells #[.int .i64 c.r, .slice E c.i.length d, .slice F c.ops.length g, .slice G k m] 29 (0, 0)) ∧
            wr.ownsRow w3.heap.size 3 1 (.slice E c.i.length d) c.i.length ((c.i.map f).map I) ∧
            wr.ownsRow w4.heap.size 88 3 (.slice F c.ops.length g) c.ops.length (fl3 (c.ops.map fun x => (f x.1, f x.2.1, f x.2.2))) ∧
            wr.ownsRow w5.heap.size 3 1 (.slice G k m) k (((c.o.take k).map f).map I) ∧ Below (w.heap.size + 2) w3 wr ∧ w5.heap.size ≤ wr.heap.size) (fun i _ => c.o.length - (intOf i).toNat)
          case atStart => exact ⟨0, none, 0, by omega, rfl, BX0.out, OI.out, OO0.out, World.ownsRow_nil _ _ _ _, BL.out, Nat.le_refl _⟩
          case round =>
            obtain ⟨k, G, m, hk, rfl, hbox, hoi, hoo, hown, hbel, hsz5⟩ := hrel
            have HBWq := Lib.hid (HB3.out.trans (hbel.mono (show w.heap.size ≤ w.heap.size + 2 by omega)))
            have BX := Lib.hid hbox
            have OIq := Lib.hid hoi
            have OOq := Lib.hid hoo
            have OWN := Lib.hid hown
            have BLq := Lib.hid hbel
            clear hbox hown hbel hoi hoo
            by_cases hlt : k < c.o.length
            · have iqk : (k : Int) < (c.o.length : Int) := by omega
              obtain ⟨b, off, rfl, hb, hc⟩ := (H.out.below' HBWq.out hB).2.2.int hlt
              have SUC := Lib.hid (map_take_succ (f := f) hlt)
              have PX := HO.out _ (List.getElem_mem hlt)
              obtain ⟨x, hx⟩ : ∃ x, c.o[k] = x := ⟨_, rfl⟩
              rw [hx] at hc SUC PX
              have hcc := fun W hW => HF.out W x hW PX
              obtain ⟨y, hy⟩ : ∃ y, f x = y := ⟨_, rfl⟩
              rw [hy] at SUC hcc
              have HC := Lib.hid hcc
              clear hx hy PX hcc
              obtain ⟨_, _, _, b3, _, _, _, _⟩ := cells4n BX.out
              have FS := Lib.hid (show ∀ x, Below wr.heap.size wr x → x.cell? ⟨w.heap.size + 2, 3, none⟩ = some (.slice G k m) from fun x hx =>
                (hx.cell (p := ⟨w.heap.size + 2, 3, none⟩) (by simp only []; omega)).trans b3)
              have S0 := Lib.hid (show Below wr.heap.size wr wr.drew from (Below.refl _ _).drew)
              clear b3
              go_wp2
              refine wp_region_T (fun x : World => Below wr.heap.size wr x) [0, 1, 2, 3, 7] [1] (.lp 0 (.lp 2 (.lp 3 (.ls 1 (.hv 4 (.hv 5 (.hv 6 (.lp 7 (.hv 8 (.done)))))))))) (by kernel_rfl) (by kernel_rfl) ?_
              (repeat (refine T_lp rfl (fun K hK => ?_); go_simp; refine hK _ ?_; clear hK K))
              refine T_ls1 (v := .slice G k m) rfl rfl S0.out (fun x hx => (by have h0 := FS.out x hx; go_simp)) (fun K hK => ?_)
              (go_simp; refine hK _ ?_; clear hK K)
              refine T_hvS rfl (fun K hK => ?_)
              go_simp
              go_at_fn gf
              refine (HC.out wr.drew (HBWq.out.trans (S0.out.mono HBWq.out.size))).mono ?_
              rintro e w7 ⟨rfl, hb7⟩
              have S7 := Lib.hid (S0.out.trans (hb7.mono (by simp)))
              have OW7 := Lib.hid (own_below OWN.out S7.out)
              have OI7 := Lib.hid (own_below OIq.out S7.out)
              have OO7 := Lib.hid (own_below OOq.out S7.out)
              have BX7 := Lib.hid ((S7.out.block (w.heap.size + 2) (by omega)).trans BX.out)
              have B7 := Lib.hid (BLq.out.trans (S7.out.mono (by omega)))
              have hs7 := S7.out.size
              go_simp
              refine hK _ _ S7.out ?_
              clear hK K hb7
              refine T_hvS rfl (fun K hK => ?_)
              go_simp
              refine hK _ _ (S7.out.alloc S7.out.size _) ?_
              clear hK K
              refine T_hv rfl (by kernel_rfl) (fun K hK => ?_)
              refine step_app1 Try.underlying22 info_int rfl (by omega) rfl (.tmp 65) (.tmp 69) rfl w5.heap.size k _ (((c.o.take k).map f).map I) rfl (World.ownsRow.alloc OW7.out _) w7.heap.size 1 (I y) rfl (by simp) rfl (by omega) (by simp; omega) ?_
              intro G8 m8 w8 hown8 hg8 hbel8
              have bx8 : w8.heap[w.heap.size + 2]? = _ := (hbel8.block (w.heap.size + 2) (by omega)).trans ((Below.heap_alloc w7 _ (w.heap.size + 2) (by omega)).trans BX7.out)
              obtain ⟨_, _, _, k2, _, _, _, f2⟩ := cells4n bx8
              have BX8 := Lib.hid bx8
              have OW8 := Lib.hid hown8
              have OI8 := Lib.hid (own_lowC (World.ownsRow.alloc OI7.out _) UI5.out hbel8)
              have OO8 := Lib.hid (own_lowC (World.ownsRow.alloc OO7.out _) UO.out hbel8)
              have B8 := Lib.hid ((B7.out.alloc (show w.heap.size + 2 ≤ w7.heap.size by omega) (.cells #[.int .i64 y] 3)).trans (hbel8.mono (show w.heap.size + 2 ≤ w5.heap.size by omega)))
              have hs8 : w5.heap.size ≤ w8.heap.size := by have := hbel8.size; simp at this; omega
              clear bx8 hown8 hbel8 hg8
              (go_simp; refine hK _ _ ?_; clear hK K)
              (repeat (first | (refine T_lp rfl (fun K hK => ?_); go_simp; refine hK _ ?_; clear hK K) | (refine T_ls rfl rfl (fun K hK => ?_); go_simp; refine hK _ ?_; clear hK K)))
              (refine T_hv rfl (by kernel_rfl) (fun K hK => ?_); go_simp; refine hK _ _ ?_; clear hK K)
              refine T_done ?_
              go_wp2
              go_roundw
              case rel =>
                refine ⟨k + 1, G8, m8, by omega, by go_num, ?_, own_set (o := 3) OI8.out BX8.out (by decide) _, own_set (o := 3) OO8.out BX8.out (by decide) _, ?_, B8.out.setCell (by simp) _, by simpa [World.setCell] using hs8⟩
                · rw [heap_setCell_same w8 _ 3 _ _ _ BX8.out]; rfl
                · rw [SUC.out, List.map_append]
                  exact own_set (o := 3) OW8.out BX8.out (by decide) _
              case measure => simp [intOf]; omega
            · have hk' : k = c.o.length := by omega
              have OU := Lib.hid (show wr.ownsRow w5.heap.size 3 1 (.slice G c.o.length m) c.o.length ((c.o.map f).map I) by
                have h := OWN.out
                rw [hk', List.take_length] at h
                exact h)
              have APT := Lib.hid (show ∀ j, (Value.slice E c.i.length d).ownBlock = some j → (Value.slice G c.o.length m).ownBlock = some j → False from fun j h1 h2 => by
                have g1 := UI5.out j h1
                have g2 := (own_block OU.out j h2).1
                omega)
              subst hk'
              obtain ⟨a0, a1, a2, a3, _, _, _, _⟩ := cells4n BX.out
              have q1 := (BLq.out.block (w.heap.size + 1) (by omega)).trans Q1.out
              obtain ⟨t0, t1, t2, t3, g0, g1, g2, g3⟩ := cells4n q1
              have Q1r := Lib.hid q1
              clear q1
              go_wp2
              refine bodyPost_ret (v := .agg #[.int .i64 c.r, .slice E c.i.length d, .slice F c.ops.length g, .slice G c.o.length m]) (by simp [results, Try.results77, go_sem, t0, t1, t2, t3]) rfl ⟨E, F, G, d, g, m, rfl, ⟨?_, ?_, ?_, ?_⟩, ?_⟩
              · show World.ownsRow _ _ _ _ _ _ _
                simp only [rnC, List.length_map]
                exact own_set4 (own_base OIq.out (by omega)) Q1r.out (by decide) _ _ _ _
              · show World.ownsRow _ _ _ _ _ _ _
                simp only [rnC, List.length_map]
                exact own_set4 (own_base OOq.out (by omega)) Q1r.out (by decide) _ _ _ _
              · show World.ownsRow _ _ _ _ _ _ _
                simp only [rnC, List.length_map]
                exact own_set4 (own_base OU.out (by omega)) Q1r.out (by decide) _ _ _ _
              · simp only [rnC, List.length_map]
                exact APT.out
              · exact (((HBWq.out.setCell (by simp) _).setCell (by simp) _).setCell (by simp) _).setCell (by simp) _
end Go.Proofs.Ytbbjgcagkmlngab
/- Code of registers that is called otherwise, by the model. -/
namespace Go.Proofs.Ytbbjgcagkmlngab
open Go.RowKit

theorem obj4' {w w1 : World} {o : Obj} (h : w.alloc o = w1) : w1.heap[w.heap.size]? = some o ∧ w1.heap.size = w.heap.size + 1 ∧ Below w.heap.size w w1 := by
  subst h
  exact ⟨heap_alloc_new w _, by simp, (Below.refl _ _).alloc (Nat.le_refl _) _⟩
theorem obj_set4' {w : World} {g : Nat} {a b c d a' b' c' d' : Value} {t : TypeId} (h : w.heap[g]? = some (.cells #[a, b, c, d] t (0, 0))) :
    ((((w.setCell ⟨g, 0, none⟩ a').setCell ⟨g, 1, none⟩ b').setCell ⟨g, 2, none⟩ c').setCell ⟨g, 3, none⟩ d').heap[g]? = some (.cells #[a', b', c', d'] t (0, 0)) := by
  have h1 := heap_setCell_same w g 0 _ t a' h
  have h2 := heap_setCell_same _ g 1 _ t b' h1
  have h3 := heap_setCell_same _ g 2 _ t c' h2
  have h4 := heap_setCell_same _ g 3 _ t d' h3
  rw [h4]
  rfl
theorem bel_set4' {w0 w : World} {g C : Nat} (hb : Below C w0 w) (hC : C ≤ g) (a b c d : Value) : Below C w0 ((((w.setCell ⟨g, 0, none⟩ a).setCell ⟨g, 1, none⟩ b).setCell ⟨g, 2, none⟩ c).setCell ⟨g, 3, none⟩ d) :=
  (((hb.setCell hC _).setCell hC _).setCell hC _).setCell hC _
def nmF (names : List Int) (x : Int) : Int := names.getD x.toNat 0
theorem ow2 {w : World} {B c : Nat} {A : Option Addr} {names o : List Int} (h : OwI w B (.slice A o.length c) (outs 0 names o)) : w.ownsRow B 3 1 (.slice A o.length c) o.length ((o.map (nmF names)).map I) := by
  have h' : w.ownsRow _ _ _ _ _ _ := h
  rw [outs_len] at h'
  exact h'

set_option maxRecDepth 100000 in
set_option maxHeartbeats 16000000 in
theorem reNamed_any (B : Nat) (A1 A2 A3 : Option Addr) (c1 c2 c3 : Nat) (c : Rc) (AN : Option Addr) (cn : Nat) (names : List Int) (m : Int) (w : World) (hl1 : c.i.length ≤ 1000) (hl2 : c.ops.length ≤ 1000) (hl3 : c.o.length ≤ 1000) (hn0 : 0 < names.length)
    (hin : ∀ x ∈ c.i, 0 ≤ x ∧ x < (names.length : Int)) (hop : ∀ x ∈ c.ops, opIn names.length x = true) (hou : ∀ x ∈ c.o, 0 ≤ x ∧ x < (names.length : Int)) (hB : B ≤ w.heap.size) (hr : RdC w B A1 A2 A3 c) (hrn : Rd w B 1 AN names.length (names.map I)) :
    Calls Try.prog 72 #[.agg #[.int .i64 c.r, .slice A1 c.i.length c1, .slice A2 c.ops.length c2, .slice A3 c.o.length c3], .slice AN names.length cn, .int .i64 m] w fun e w' =>
      ∃ E1 E2 E3 e1 e2 e3, e = .returned (.agg #[.int .i64 m, .slice E1 c.i.length e1, .slice E2 c.ops.length e2, .slice E3 c.o.length e3]) ∧ OwC w' w.heap.size E1 E2 E3 e1 e2 e3 (rnC (nmF names) m c) ∧ Below w.heap.size w w' := by
  have H := Lib.hid hr
  have HN := Lib.hid hrn
  have HOP := Lib.hid hop
  have HIN := Lib.hid hin
  have HOU := Lib.hid hou
  clear hr hrn hop hin hou
  go_enter Try.func72, Try.ntmps72
  go_wp2
  generalize hw1 : World.alloc w _ = w1
  obtain ⟨⟨x0, x1, x2, x3⟩, xs, xb⟩ := bx4r hw1
  clear hw1
  generalize hw2 : World.alloc w1 _ = w2
  have q0 : w2.heap[w1.heap.size]? = some (.cells #[.int .i64 0, .slice none 0 0, .slice none 0 0, .slice none 0 0] 29 (0, 0)) := by rw [← hw2]; exact heap_alloc_new w1 _
  obtain ⟨_, ys, yb⟩ := bx4r hw2
  clear hw2
  rw [xs] at q0
  have x1 := (yb.cell (p := ⟨w.heap.size, 1, none⟩) (by simp only []; omega)).trans x1
  have x2 := (yb.cell (p := ⟨w.heap.size, 2, none⟩) (by simp only []; omega)).trans x2
  have x3 := (yb.cell (p := ⟨w.heap.size, 3, none⟩) (by simp only []; omega)).trans x3
  have HB2 := Lib.hid (xb.trans (yb.mono (by omega)))
  have hs2 : w.heap.size + 2 = w2.heap.size := by omega
  have Q0 := Lib.hid q0
  have X2 := Lib.hid x2
  have FS := Lib.hid (show ∀ x, Below w2.heap.size w2 x → x.cell? ⟨w.heap.size, 1, none⟩ = some (.slice A1 c.i.length c1) ∧ x.cell? ⟨w.heap.size, 3, none⟩ = some (.slice A3 c.o.length c3) from fun x hx =>
    ⟨(hx.cell (p := ⟨w.heap.size, 1, none⟩) (by simp only []; omega)).trans x1, (hx.cell (p := ⟨w.heap.size, 3, none⟩) (by simp only []; omega)).trans x3⟩)
  have PI := Lib.hid (fun W (hW : Below w2.heap.size w2 W) => moPick_any w2.heap.size AN A1 cn c1 names c.i W hl1 hW.size HIN.out (((HN.out.below' HB2.out hB).more (by omega)).below hW) ((((H.out.below' HB2.out hB).1).more (by omega)).below hW))
  have PO := Lib.hid (fun W (hW : Below w2.heap.size w2 W) => moPick_any w2.heap.size AN A3 cn c3 names c.o W hl3 hW.size HOU.out (((HN.out.below' HB2.out hB).more (by omega)).below hW) ((((H.out.below' HB2.out hB).2.2).more (by omega)).below hW))
  clear x0 x1 x2 x3 xs ys xb yb q0
  go_cut [7] (fun v wx => ∃ (g : Nat) (E1 E3 : Option Addr) (e1 e3 : Nat), v = .pointer (some ⟨g, 0, none⟩) ∧ w2.heap.size ≤ g ∧ wx.heap[g]? = some (.cells #[.int .i64 m, .slice E1 c.i.length e1, .slice none 0 0, .slice E3 c.o.length e3] 29 (0, 0)) ∧
    wx.ownsRow w2.heap.size 3 1 (.slice E1 c.i.length e1) c.i.length ((c.i.map (nmF names)).map I) ∧ wx.ownsRow w2.heap.size 3 1 (.slice E3 c.o.length e3) c.o.length ((c.o.map (nmF names)).map I) ∧
    (∀ k, (Value.slice E1 c.i.length e1).ownBlock = some k → (Value.slice E3 c.o.length e3).ownBlock = some k → False) ∧ Below w2.heap.size w2 wx)
  case first =>
    refine wp_region_T (fun x : World => Below w2.heap.size w2 x) [0, 1, 2, 3, 5, 6, 7, 9] [3, 7] (.lp 0 (.lp 1 (.lp 2 (.lp 5 (.lp 6 (.ls 3 (.ls 7 (.hv2 4 (.hv2 8 (.lp 9 (.hv 10 (.hv 11 (.done)))) 10 (.hv 8 (.lp 9 (.hv 11 (.done))))) 10 (.hv 4 (.hv 8 (.lp 9 (.hv 11 (.done))))))))))))) (by kernel_rfl) (by kernel_rfl) ?_
    have HW := Lib.hid (show Below w2.heap.size w2 w2.drew from (Below.refl _ _).drew)
    (repeat (refine T_lp rfl (fun K hK => ?_); go_simp; refine hK _ ?_; clear hK K))
    refine T_ls1 (v := .slice A1 c.i.length c1) rfl rfl HW.out (fun x hx => (by obtain ⟨h0, h1⟩ := FS.out x hx; go_simp)) (fun K hK => ?_)
    (go_simp; refine hK _ ?_; clear hK K)
    refine T_ls1 (v := .slice A3 c.o.length c3) rfl rfl HW.out (fun x hx => (by obtain ⟨h0, h1⟩ := FS.out x hx; go_simp)) (fun K hK => ?_)
    (go_simp; refine hK _ ?_; clear hK K)
    generalize hwd : World.drew w2 = wd at HW ⊢
    clear hwd
    refine T_hv2 ?_ ?_
    · refine T_hvS rfl (fun K hK => ?_)
      go_simp
      go_at_call 125
      refine (PI.out wd HW.out).mono ?_
      rintro e wdi ⟨E1, e1, rfl, hO, hst⟩
      have OI := Lib.hid (own_base (ow2 hO) (show w2.heap.size ≤ wd.heap.size from HW.out.size))
      have HW := Lib.hid (HW.out.trans (hst.mono HW.out.size))
      clear hO hst
      go_simp
      refine hK _ _ HW.out ?_
      clear hK K
      refine T_hv2 ?_ ?_
      · refine T_hvS rfl (fun K hK => ?_)
        go_simp
        go_at_call 125
        refine (PO.out wdi HW.out).mono ?_
        rintro e wdio ⟨E3, e3, rfl, hO, hst⟩
        have APT := Lib.hid (show ∀ k, (Value.slice E1 c.i.length e1).ownBlock = some k → (Value.slice E3 c.o.length e3).ownBlock = some k → False from fun k h1 h2 => by have a1 := (own_block OI.out k h1).2; have a2 := (own_block (ow2 hO) k h2).1; omega)
        have OI := Lib.hid (own_below OI.out hst)
        have OU := Lib.hid (own_base (ow2 hO) (show w2.heap.size ≤ wdi.heap.size from HW.out.size))
        have HW := Lib.hid (HW.out.trans (hst.mono HW.out.size))
        clear hO hst
        go_simp
        refine hK _ _ HW.out ?_
        clear hK K
        (repeat (refine T_lp rfl (fun K hK => ?_); go_simp; refine hK _ ?_; clear hK K))
        refine T_hvS rfl (fun K hK => ?_)
        go_simp
        refine hK _ _ (HW.out.alloc HW.out.size _) ?_
        clear hK K
        generalize hwa : World.alloc wdio _ = wdioa
        obtain ⟨hbx, hsx, hst⟩ := obj4' hwa
        clear hwa
        have HGB := Lib.hid (show w2.heap.size ≤ wdio.heap.size from HW.out.size)
        have HW := Lib.hid (HW.out.trans (hst.mono HW.out.size))
        have BX := Lib.hid hbx
        have OI := Lib.hid (own_below OI.out hst)
        have OU := Lib.hid (own_below OU.out hst)
        clear hbx hst
        (repeat (refine T_lp rfl (fun K hK => ?_); go_simp; refine hK _ ?_; clear hK K))
        obtain ⟨b0, b1, b2, b3, q0, q1, q2, q3⟩ := cells4n BX.out
        (refine T_hv rfl (by kernel_rfl) (fun K hK => ?_); go_simp; refine hK _ _ ?_; clear hK K)
        refine T_done ?_
        go_wp2
        go_meet
        case rel => exact ⟨wdio.heap.size, E1, E3, e1, e3, rfl, HGB.out, obj_set4' BX.out, own_set4 OI.out BX.out (by decide) _ _ _ _, own_set4 OU.out BX.out (by decide) _ _ _ _, APT.out, bel_set4' HW.out HGB.out _ _ _ _⟩
      · refine T_hvS rfl (fun K hK => ?_)
        go_simp
        refine hK _ _ (HW.out.alloc HW.out.size _) ?_
        clear hK K
        generalize hwa : World.alloc wdi _ = wdia
        obtain ⟨hbx, hsx, hst⟩ := obj4' hwa
        clear hwa
        have HGB := Lib.hid (show w2.heap.size ≤ wdi.heap.size from HW.out.size)
        have HW := Lib.hid (HW.out.trans (hst.mono HW.out.size))
        have BX := Lib.hid hbx
        have OI := Lib.hid (own_below OI.out hst)
        clear hbx hst
        refine T_hvS rfl (fun K hK => ?_)
        go_simp
        go_at_call 125
        refine (PO.out wdia HW.out).mono ?_
        rintro e wdiao ⟨E3, e3, rfl, hO, hst⟩
        have BX := Lib.hid ((hst.block _ (by have := (Array.getElem?_eq_some_iff.1 BX.out).1; omega)).trans BX.out)
        have APT := Lib.hid (show ∀ k, (Value.slice E1 c.i.length e1).ownBlock = some k → (Value.slice E3 c.o.length e3).ownBlock = some k → False from fun k h1 h2 => by have a1 := (own_block OI.out k h1).2; have a2 := (own_block (ow2 hO) k h2).1; omega)
        have OI := Lib.hid (own_below OI.out hst)
        have OU := Lib.hid (own_base (ow2 hO) (show w2.heap.size ≤ wdia.heap.size from HW.out.size))
        have HW := Lib.hid (HW.out.trans (hst.mono HW.out.size))
        clear hO hst
        go_simp
        refine hK _ _ HW.out ?_
        clear hK K
        (repeat (refine T_lp rfl (fun K hK => ?_); go_simp; refine hK _ ?_; clear hK K))
        obtain ⟨b0, b1, b2, b3, q0, q1, q2, q3⟩ := cells4n BX.out
        (refine T_hv rfl (by kernel_rfl) (fun K hK => ?_); go_simp; refine hK _ _ ?_; clear hK K)
        refine T_done ?_
        go_wp2
        go_meet
        case rel => exact ⟨wdi.heap.size, E1, E3, e1, e3, rfl, HGB.out, obj_set4' BX.out, own_set4 OI.out BX.out (by decide) _ _ _ _, own_set4 OU.out BX.out (by decide) _ _ _ _, APT.out, bel_set4' HW.out HGB.out _ _ _ _⟩
    · refine T_hvS rfl (fun K hK => ?_)
      go_simp
      refine hK _ _ (HW.out.alloc HW.out.size _) ?_
      clear hK K
      generalize hwa : World.alloc wd _ = wda
      obtain ⟨hbx, hsx, hst⟩ := obj4' hwa
      clear hwa
      have HGB := Lib.hid (show w2.heap.size ≤ wd.heap.size from HW.out.size)
      have HW := Lib.hid (HW.out.trans (hst.mono HW.out.size))
      have BX := Lib.hid hbx
      clear hbx hst
      refine T_hvS rfl (fun K hK => ?_)
      go_simp
      go_at_call 125
      refine (PI.out wda HW.out).mono ?_
      rintro e wdai ⟨E1, e1, rfl, hO, hst⟩
      have BX := Lib.hid ((hst.block _ (by have := (Array.getElem?_eq_some_iff.1 BX.out).1; omega)).trans BX.out)
      have OI := Lib.hid (own_base (ow2 hO) (show w2.heap.size ≤ wda.heap.size from HW.out.size))
      have HW := Lib.hid (HW.out.trans (hst.mono HW.out.size))
      clear hO hst
      go_simp
      refine hK _ _ HW.out ?_
      clear hK K
      refine T_hvS rfl (fun K hK => ?_)
      go_simp
      go_at_call 125
      refine (PO.out wdai HW.out).mono ?_
      rintro e wdaio ⟨E3, e3, rfl, hO, hst⟩
      have BX := Lib.hid ((hst.block _ (by have := (Array.getElem?_eq_some_iff.1 BX.out).1; omega)).trans BX.out)
      have APT := Lib.hid (show ∀ k, (Value.slice E1 c.i.length e1).ownBlock = some k → (Value.slice E3 c.o.length e3).ownBlock = some k → False from fun k h1 h2 => by have a1 := (own_block OI.out k h1).2; have a2 := (own_block (ow2 hO) k h2).1; omega)
      have OI := Lib.hid (own_below OI.out hst)
      have OU := Lib.hid (own_base (ow2 hO) (show w2.heap.size ≤ wdai.heap.size from HW.out.size))
      have HW := Lib.hid (HW.out.trans (hst.mono HW.out.size))
      clear hO hst
      go_simp
      refine hK _ _ HW.out ?_
      clear hK K
      (repeat (refine T_lp rfl (fun K hK => ?_); go_simp; refine hK _ ?_; clear hK K))
      obtain ⟨b0, b1, b2, b3, q0, q1, q2, q3⟩ := cells4n BX.out
      (refine T_hv rfl (by kernel_rfl) (fun K hK => ?_); go_simp; refine hK _ _ ?_; clear hK K)
      refine T_done ?_
      go_wp2
      go_meet
      case rel => exact ⟨wd.heap.size, E1, E3, e1, e3, rfl, HGB.out, obj_set4' BX.out, own_set4 OI.out BX.out (by decide) _ _ _ _, own_set4 OU.out BX.out (by decide) _ _ _ _, APT.out, bel_set4' HW.out HGB.out _ _ _ _⟩
  case rest =>
    obtain ⟨g, E1, E3, e1, e3, rfl, hg, hbox, hoi, hou, hapt, hbel⟩ := hcut
    obtain ⟨w3, hw3⟩ : ∃ x, wc = x := ⟨_, rfl⟩
    rw [hw3] at hbox hoi hou hbel ⊢
    clear hw3
    have hgs : g < w3.heap.size := (Array.getElem?_eq_some_iff.1 hbox).1
    have BX0 := Lib.hid hbox
    have OI0 := Lib.hid hoi
    have OU0 := Lib.hid hou
    have APT := Lib.hid hapt
    have HB3 := Lib.hid (HB2.out.trans (hbel.mono HB2.out.size))
    have BL3 := Lib.hid hbel
    have UI := Lib.hid (fun k (h : (Value.slice E1 c.i.length e1).ownBlock = some k) => (own_block hoi k h).2)
    have UU := Lib.hid (fun k (h : (Value.slice E3 c.o.length e3).ownBlock = some k) => (own_block hou k h).2)
    have z2 := (hbel.cell (p := ⟨w.heap.size, 2, none⟩) (by simp only []; omega)).trans X2.out
    obtain ⟨nb, no, rfl, hnb, _⟩ := (HN.out.below' HB3.out hB).int hn0
    have hs3 : w2.heap.size ≤ w3.heap.size := hbel.size
    clear hbox hoi hou hapt hbel
    go_wp2
    go_loopw [23] (fun iv wr => ∃ (k : Nat) (F : Option Addr) (f : Nat), k ≤ c.ops.length ∧ iv = .int .i64 k ∧ wr.heap[g]? = some (.cells #[.int .i64 m, .slice E1 c.i.length e1, .slice F k f, .slice E3 c.o.length e3] 29 (0, 0)) ∧
      wr.ownsRow w2.heap.size 3 1 (.slice E1 c.i.length e1) c.i.length ((c.i.map (nmF names)).map I) ∧ wr.ownsRow w2.heap.size 3 1 (.slice E3 c.o.length e3) c.o.length ((c.o.map (nmF names)).map I) ∧
      wr.ownsRow w3.heap.size 88 3 (.slice F k f) k (fl3 ((c.ops.take k).map fun x => (nmF names x.1, nmF names x.2.1, nmF names x.2.2))) ∧ Below w2.heap.size w2 wr ∧ w3.heap.size ≤ wr.heap.size) (fun i _ => c.ops.length - (intOf i).toNat)
    case atStart => exact ⟨0, none, 0, by omega, rfl, BX0.out, OI0.out, OU0.out, World.ownsRow_nil _ _ _ _, BL3.out, Nat.le_refl _⟩
    case round =>
      obtain ⟨k, F, f, hk, rfl, hbox, hoi, hou, hown, hbel, hsz3⟩ := hrel
      have HBWr := Lib.hid (HB2.out.trans (hbel.mono HB2.out.size))
      have BX := Lib.hid hbox
      have OI := Lib.hid hoi
      have OU := Lib.hid hou
      have OWN := Lib.hid hown
      have BL := Lib.hid hbel
      clear hbox hown hbel hoi hou
      by_cases hlt : k < c.ops.length
      · have iqk : (k : Int) < (c.ops.length : Int) := by omega
        obtain ⟨b, off, rfl, hb, hc1, hc2, hc3⟩ := (H.out.below' HBWr.out hB).2.1.op hlt
        have SUC := Lib.hid (map_take_succ (f := fun x : Int × Int × Int => (nmF names x.1, nmF names x.2.1, nmF names x.2.2)) hlt)
        obtain ⟨t, a, d, hx, ht, ha, hd⟩ := opIn_nat (HOP.out _ (List.getElem_mem hlt))
        rw [hx] at hc1 hc2 hc3 SUC
        simp only at hc1 hc2 hc3 SUC
        obtain ⟨b1, o1, hA1, hb1, d1⟩ := (HN.out.below' HBWr.out hB).int ht
        obtain ⟨b2, o2, hA2, hb2', d2⟩ := (HN.out.below' HBWr.out hB).int ha
        obtain ⟨b3, o3, hA3, hb3', d3⟩ := (HN.out.below' HBWr.out hB).int hd
        simp only [Option.some.injEq, Addr.mk.injEq] at hA1 hA2 hA3
        obtain ⟨rfl, rfl, _⟩ := hA1
        obtain ⟨rfl, rfl, _⟩ := hA2
        obtain ⟨rfl, rfl, _⟩ := hA3
        have n1 : nmF names (t : Int) = names[t] := by unfold nmF; simp [ht]
        have n2 : nmF names (a : Int) = names[a] := by unfold nmF; simp [ha]
        have n3 : nmF names (d : Int) = names[d] := by unfold nmF; simp [hd]
        obtain ⟨y1, hy1⟩ : ∃ y, names[t] = y := ⟨_, rfl⟩
        obtain ⟨y2, hy2⟩ : ∃ y, names[a] = y := ⟨_, rfl⟩
        obtain ⟨y3, hy3⟩ : ∃ y, names[d] = y := ⟨_, rfl⟩
        rw [n1, n2, n3, hy1, hy2, hy3] at SUC
        rw [hy1] at d1
        rw [hy2] at d2
        rw [hy3] at d3
        have it : (t : Int) < (names.length : Int) := by omega
        have ia : (a : Int) < (names.length : Int) := by omega
        have id' : (d : Int) < (names.length : Int) := by omega
        clear hx n1 n2 n3 hy1 hy2 hy3
        go_wp2
        generalize hw5 : World.alloc wr _ = w5
        obtain ⟨⟨e0, e1', e2⟩, es, eb⟩ := box3' hw5
        clear hw5
        have bx5 := (eb.block g (by omega)).trans BX.out
        obtain ⟨_, _, q2, _, _, _, _, _⟩ := cells4n bx5
        have hnw : nb < wr.heap.size := by have := HBWr.out.size; omega
        have g1 := (eb.cell (p := ⟨nb, no + t, none⟩) hnw).trans d1
        have g2 := (eb.cell (p := ⟨nb, no + a, none⟩) hnw).trans d2
        have g3 := (eb.cell (p := ⟨nb, no + d, none⟩) hnw).trans d3
        have FS := Lib.hid (show ∀ x, Below w5.heap.size w5 x → x.cell? ⟨g, 2, none⟩ = some (.slice F k f) ∧ x.cell? ⟨wr.heap.size, 0, none⟩ = some (.int .i64 t) ∧ x.cell? ⟨wr.heap.size, 1, none⟩ = some (.int .i64 a) ∧ x.cell? ⟨wr.heap.size, 2, none⟩ = some (.int .i64 d) ∧ x.cell? ⟨nb, no + t, none⟩ = some (.int .i64 y1) ∧ x.cell? ⟨nb, no + a, none⟩ = some (.int .i64 y2) ∧ x.cell? ⟨nb, no + d, none⟩ = some (.int .i64 y3) from fun x hx =>
          ⟨(hx.cell (p := ⟨g, 2, none⟩) (by simp only []; omega)).trans q2, (hx.cell (p := ⟨wr.heap.size, 0, none⟩) (by simp only []; omega)).trans e0, (hx.cell (p := ⟨wr.heap.size, 1, none⟩) (by simp only []; omega)).trans e1', (hx.cell (p := ⟨wr.heap.size, 2, none⟩) (by simp only []; omega)).trans e2,
          (hx.cell (p := ⟨nb, no + t, none⟩) (by simp only []; omega)).trans g1, (hx.cell (p := ⟨nb, no + a, none⟩) (by simp only []; omega)).trans g2, (hx.cell (p := ⟨nb, no + d, none⟩) (by simp only []; omega)).trans g3⟩)
        have S0 := Lib.hid (show Below w5.heap.size w5 w5.drew from (Below.refl _ _).drew)
        have BX5 := Lib.hid bx5
        have OI5 := Lib.hid (own_below OI.out eb)
        have OU5 := Lib.hid (own_below OU.out eb)
        have OW5 := Lib.hid (own_below OWN.out eb)
        have BL5 := Lib.hid (BL.out.trans (eb.mono (show w2.heap.size ≤ wr.heap.size by omega)))
        have hs45 : w3.heap.size ≤ w5.heap.size := by omega
        clear e0 e1' e2 q2 bx5 hc1 hc2 hc3 eb d1 d2 d3 g1 g2 g3
        refine wp_region_T (fun x : World => Below w5.heap.size w5 x) [0, 1, 2, 3, 4, 5, 6, 7, 8, 9, 10, 11, 12, 13, 14, 15, 16, 17, 20] [1, 4, 6, 9, 11, 14, 16] (.lp 0 (.lp 2 (.lp 3 (.lp 7 (.lp 8 (.lp 12 (.lp 13 (.ls 1 (.ls 4 (.lp 5 (.ls 6 (.ls 9 (.lp 10 (.ls 11 (.ls 14 (.lp 15 (.ls 16 (.lp 17 (.hv 18 (.hv 19 (.lp 20 (.hv 21 (.done))))))))))))))))))))))) (by kernel_rfl) (by kernel_rfl) ?_
        generalize hwd : World.drew w5 = wd at S0 ⊢
        clear hwd
        have hswd : w5.heap.size ≤ wd.heap.size := S0.out.size
        have OId := Lib.hid (own_below OI5.out S0.out)
        have OUd := Lib.hid (own_below OU5.out S0.out)
        have OWd := Lib.hid (own_below OW5.out S0.out)
        have BXd := Lib.hid ((S0.out.block g (by omega)).trans BX5.out)
        (repeat (refine T_lp rfl (fun K hK => ?_); go_simp; refine hK _ ?_; clear hK K))
        refine T_ls1 (v := .slice F k f) rfl rfl S0.out (fun x hx => (by obtain ⟨h0, h1, h2, h3, h4, h5, h6⟩ := FS.out x hx; go_simp)) (fun K hK => ?_)
        (go_simp; refine hK _ ?_; clear hK K)
        refine T_ls1 (v := .int .i64 t) rfl rfl S0.out (fun x hx => (by obtain ⟨h0, h1, h2, h3, h4, h5, h6⟩ := FS.out x hx; go_simp)) (fun K hK => ?_)
        (go_simp; refine hK _ ?_; clear hK K)
        (repeat (refine T_lp rfl (fun K hK => ?_); go_simp; refine hK _ ?_; clear hK K))
        refine T_ls1 (v := .int .i64 y1) rfl rfl S0.out (fun x hx => (by obtain ⟨h0, h1, h2, h3, h4, h5, h6⟩ := FS.out x hx; go_simp)) (fun K hK => ?_)
        (go_simp; refine hK _ ?_; clear hK K)
        refine T_ls1 (v := .int .i64 a) rfl rfl S0.out (fun x hx => (by obtain ⟨h0, h1, h2, h3, h4, h5, h6⟩ := FS.out x hx; go_simp)) (fun K hK => ?_)
        (go_simp; refine hK _ ?_; clear hK K)
        (repeat (refine T_lp rfl (fun K hK => ?_); go_simp; refine hK _ ?_; clear hK K))
        refine T_ls1 (v := .int .i64 y2) rfl rfl S0.out (fun x hx => (by obtain ⟨h0, h1, h2, h3, h4, h5, h6⟩ := FS.out x hx; go_simp)) (fun K hK => ?_)
        (go_simp; refine hK _ ?_; clear hK K)
        refine T_ls1 (v := .int .i64 d) rfl rfl S0.out (fun x hx => (by obtain ⟨h0, h1, h2, h3, h4, h5, h6⟩ := FS.out x hx; go_simp)) (fun K hK => ?_)
        (go_simp; refine hK _ ?_; clear hK K)
        (repeat (refine T_lp rfl (fun K hK => ?_); go_simp; refine hK _ ?_; clear hK K))
        refine T_ls1 (v := .int .i64 y3) rfl rfl S0.out (fun x hx => (by obtain ⟨h0, h1, h2, h3, h4, h5, h6⟩ := FS.out x hx; go_simp)) (fun K hK => ?_)
        (go_simp; refine hK _ ?_; clear hK K)
        (repeat (refine T_lp rfl (fun K hK => ?_); go_simp; refine hK _ ?_; clear hK K))
        refine T_hvS rfl (fun K hK => ?_)
        go_simp
        refine hK _ _ (S0.out.alloc hswd _) ?_
        clear hK K
        refine T_hv rfl (by kernel_rfl) (fun K hK => ?_)
        refine step_appN Try.underlying27 info_regop rfl (by omega) (by omega) rfl (.tmp 28) (.tmp 45) rfl w3.heap.size k _ (fl3 ((c.ops.take k).map fun x => (nmF names x.1, nmF names x.2.1, nmF names x.2.2))) rfl (World.ownsRow.alloc OWd.out _) wd.heap.size 1 [I y1, I y2, I y3] rfl rfl (fun j hj => ?_) (by simp; exact ⟨rfl, rfl, rfl⟩) (by omega) (by simp; omega) ?_
        · match j, hj with
          | 0, _ => simp
          | 1, _ => simp
          | 2, _ => simp
        intro F9 f9 w9 hown9 hg9 hbel9
        have bx9 : w9.heap[g]? = _ := (hbel9.block g (by omega)).trans ((Below.heap_alloc wd _ g (by omega)).trans BXd.out)
        obtain ⟨_, _, k2, _, _, _, f2, _⟩ := cells4n bx9
        have BX9 := Lib.hid bx9
        have OW9 := Lib.hid hown9
        have OI9 := Lib.hid (own_lowC (World.ownsRow.alloc OId.out _) UI.out hbel9)
        have OU9 := Lib.hid (own_lowC (World.ownsRow.alloc OUd.out _) UU.out hbel9)
        have B9 := Lib.hid (((BL5.out.trans (S0.out.mono (show w2.heap.size ≤ w5.heap.size by omega))).alloc (show w2.heap.size ≤ wd.heap.size by omega) (.cells #[.int .i64 y1, .int .i64 y2, .int .i64 y3] 88)).trans (hbel9.mono hs3))
        have hs9 : w3.heap.size ≤ w9.heap.size := by have := hbel9.size; simp at this; omega
        clear bx9 hown9 hbel9 hg9
        (go_simp; refine hK _ _ ?_; clear hK K)
        (repeat (first | (refine T_lp rfl (fun K hK => ?_); go_simp; refine hK _ ?_; clear hK K) | (refine T_ls rfl rfl (fun K hK => ?_); go_simp; refine hK _ ?_; clear hK K)))
        (refine T_hv rfl (by kernel_rfl) (fun K hK => ?_); go_simp; refine hK _ _ ?_; clear hK K)
        refine T_done ?_
        go_wp2
        go_roundw
        case rel =>
          refine ⟨k + 1, F9, f9, by omega, by go_num, ?_, own_set (o := 2) OI9.out BX9.out (by decide) _, own_set (o := 2) OU9.out BX9.out (by decide) _, ?_, B9.out.setCell hg _, by simpa [World.setCell] using hs9⟩
          · rw [heap_setCell_same w9 _ 2 _ _ _ BX9.out]; rfl
          · rw [SUC.out, fl3_snoc]
            exact own_set (o := 2) OW9.out BX9.out (by decide) _
        case measure => simp [intOf]; omega
      · have hk' : k = c.ops.length := by omega
        have OO := Lib.hid (show wr.ownsRow w3.heap.size 88 3 (.slice F c.ops.length f) c.ops.length (fl3 (c.ops.map fun x => (nmF names x.1, nmF names x.2.1, nmF names x.2.2))) by
          have h := OWN.out
          rw [hk', List.take_length] at h
          exact h)
        subst hk'
        obtain ⟨a0, a1, a2, a3, _, _, _, _⟩ := cells4n BX.out
        have q1 := (BL.out.block (w.heap.size + 1) (by omega)).trans Q0.out
        obtain ⟨t0, t1, t2, t3, g0, g1, g2, g3⟩ := cells4n q1
        have Q1r := Lib.hid q1
        clear q1
        go_wp2
        refine bodyPost_ret (v := .agg #[.int .i64 m, .slice E1 c.i.length e1, .slice F c.ops.length f, .slice E3 c.o.length e3]) (by simp [results, Try.results72, go_sem, t0, t1, t2, t3]) rfl ⟨E1, F, E3, e1, f, e3, rfl, ⟨?_, ?_, ?_, ?_⟩, ?_⟩
        · show World.ownsRow _ _ _ _ _ _ _
          simp only [rnC, List.length_map]
          exact own_set4 (own_base OI.out (by omega)) Q1r.out (by decide) _ _ _ _
        · show World.ownsRow _ _ _ _ _ _ _
          simp only [rnC, List.length_map]
          exact own_set4 (own_base OO.out (by omega)) Q1r.out (by decide) _ _ _ _
        · show World.ownsRow _ _ _ _ _ _ _
          simp only [rnC, List.length_map]
          exact own_set4 (own_base OU.out (by omega)) Q1r.out (by decide) _ _ _ _
        · simp only [rnC, List.length_map]
          exact APT.out
        · exact (((HBWr.out.setCell (by simp) _).setCell (by simp) _).setCell (by simp) _).setCell (by simp) _
end Go.Proofs.Ytbbjgcagkmlngab
/- Registers that are told, by the program; where a number stands in a list. -/
namespace Go.Proofs.Ytbbjgcagkmlngab
open Go.RowKit

section
variable {ops : Array Oper} {o : Oper} {a : Act} {Q : Exit → Act → World → Prop} {w : World}
/-- append(v, x) of an integer; where the row lies then. -/
theorem step_app_intG {K : Act → World → Prop} {E : Prop} (hgd : o.guard = none) (s x : Operand)
    (ho : o.op = .call { callee := .builtin .append, args := #[s, x], argTypes := #[22, 22] })
    (B n : Nat) (v : Value) (l : List Int) (hs : a.eval s = v) (hown : OwI w B v l) (hl : l.length = n) (b c : Nat) (u : Int) (hx : a.eval x = .slice (some ⟨b, 0, none⟩) 1 c)
    (hu : w.cell? ⟨b, 0, none⟩ = some (I u)) (hn : n ≤ 4000000) (hB : B ≤ w.heap.size)
    (h : ∀ g cap w', OwI w' B (.slice (some ⟨g, 0, none⟩) (n + 1) cap) (l ++ [u]) → w.grownBy w' v.ownBlock → Below B w w' → (v.ownBlock = some g ∨ g = w.heap.size) → K (a.put o.dst (.slice (some ⟨g, 0, none⟩) (n + 1) cap)) w') :
    if Region.wanted o (yielded ops a.tmps) = true then Oper.wp Try.prog o a w K Q else E := by
  subst hl
  obtain ⟨i0, hi, hz0, hz1, hz2⟩ := info_parts info_int
  refine step_append_lies _ hgd s x _ ho B 3 i0 _ 1 8 Try.underlying22 hi hz0 hz1 hz2 rfl (by omega) v l.length (l.map I) hs hown ⟨b, 0, none⟩ 1 c [I u] hx rfl ?_ ?_ (by omega) (by unfold maxLen; omega) (by omega) hB w.heap.size rfl ?_
  · intro j y hj
    match j, hj with
    | 0, hj => simp at hj; subst hj; simpa [Addr.add] using hu
  · intro y hy; simp at hy; subst hy; rfl
  · intro g cap w' hown' hg hl _
    refine h g cap w' ?_ hg (below_of_own hown hB hg) hl
    show World.ownsRow _ _ _ _ _ _ _
    rw [List.length_append, List.length_singleton, List.map_append]
    exact hown'
end

set_option maxRecDepth 100000 in
set_option maxHeartbeats 1000000 in
theorem indexI_any (B : Nat) (A : Option Addr) (c : Nat) (l : List Int) (n : Int) (w : World) (hm : l.length ≤ 4000000) (hr : Rd w B 1 A l.length (l.map I)) :
    Calls Try.prog 79 #[.slice A l.length c, .int .i64 n] w fun e w' => e = .returned (.int .i64 (plc l n 0)) ∧ w = w' := by
  have H := Lib.hid hr
  clear hr
  go_enter Try.func79, Try.ntmps79
  go_wp2
  go_loopw [8] (fun iv wr => ∃ k : Nat, k ≤ l.length ∧ iv = .int .i64 k ∧ hasI (l.take k) n = false ∧ w = wr) (fun i _ => l.length - (intOf i).toNat)
  case atStart => exact ⟨0, by omega, rfl, by simp [hasI], rfl⟩
  case round =>
    obtain ⟨k, hk, rfl, hno, rfl⟩ := hrel
    have NO := Lib.hid hno
    clear hno
    by_cases hlt : k < l.length
    · have iqk : (k : Int) < (l.length : Int) := by omega
      obtain ⟨b, off, rfl, hb, hc⟩ := H.out.int hlt
      obtain ⟨x, hx⟩ : ∃ x, l[k] = x := ⟨_, rfl⟩
      have HX := Lib.hid hx
      rw [hx] at hc
      clear hx
      by_cases he : n = x
      · have q1 : (n == x) = true := by simpa using he
        have E := Lib.hid (show plc l n 0 = (k : Int) from plc_hit hlt NO.out (by rw [HX.out, he]; simp))
        clear he
        go_wp2
        go_ret
        exact ⟨by rw [E.out]; rfl, rfl⟩
      · have q1 : (n == x) = false := by simpa using he
        have E := Lib.hid (show hasI (l.take (k + 1)) n = false by rw [hasI_take hlt NO.out, HX.out]; simpa using fun e => he e.symm)
        clear he
        go_wp2
        go_roundw
        case rel => exact ⟨k + 1, by omega, by go_num, E.out, trivial⟩
        case measure => simp [intOf]; omega
    · have E := Lib.hid (plc_none (hasI_end hlt NO.out) 0)
      go_wp2
      go_ret
      exact ⟨by rw [E.out]; rfl, rfl⟩
theorem plc_sign {l : List Int} {n : Int} : decide (0 ≤ plc l n 0) = hasI l n := by
  cases h : hasI l n with
  | true => have := plc_nonneg h 0; simp; omega
  | false => rw [plc_none h]; rfl
set_option maxRecDepth 100000 in
set_option maxHeartbeats 1000000 in
theorem containsI_any (B : Nat) (A : Option Addr) (c : Nat) (l : List Int) (n : Int) (w : World) (hm : l.length ≤ 4000000) (hr : Rd w B 1 A l.length (l.map I)) :
    Calls Try.prog 128 #[.slice A l.length c, .int .i64 n] w fun e w' => e = .returned (.bool (hasI l n)) ∧ w = w' := by
  have HI := Lib.hid (indexI_any B A c l n w hm hr)
  have E := Lib.hid (plc_sign (l := l) (n := n))
  clear hr
  go_enter Try.func128, Try.ntmps128
  go_wp2_with fail
  go_at_call 79
  refine HI.out.mono ?_
  rintro e w2 ⟨rfl, rfl⟩
  go_wp2
  go_ret
  exact ⟨by rw [← E.out]; rfl, rfl⟩

/-- Behind j of the numbers q. -/
def tlJ (t q : List Int) : Nat → List Int
  | 0 => t
  | j + 1 => adT (tlJ t q j) (q.getD j 0)
theorem tlJ_le (t q : List Int) : ∀ j, (tlJ t q j).length ≤ t.length + j := by
  intro j
  induction j with
  | zero => exact Nat.le_refl _
  | succ j ih => simp only [tlJ]; have := adT_le (tlJ t q j) (q.getD j 0); omega
theorem tlK_three {i : List Int} {ops : List (Int × Int × Int)} {k : Nat} (hk : k < ops.length) {a b t : Int} (h : ops[k] = (t, a, b)) : tlK i ops (k + 1) = tlJ (tlK i ops k) [a, b, t] 3 := by
  have hg : ops.getD k (0, 0, 0) = ops[k] := by simp [hk]
  simp only [tlK, tlJ]
  rw [hg, h]
  rfl
theorem three_cells {w : World} {g : Nat} {a b c : Int} (h : w.heap[g]? = some (.cells #[.int .i64 a, .int .i64 b, .int .i64 c] 3 (0, 0))) {j : Nat} (hj : j < 3) : w.cell? ⟨g, j, none⟩ = some (.int .i64 ([a, b, c].getD j 0)) := by
  rw [cell_of_row w g j _ _ (0, 0) h]
  match j, hj with
  | 0, _ => rfl
  | 1, _ => rfl
  | 2, _ => rfl

set_option maxRecDepth 100000 in
set_option maxHeartbeats 8000000 in
theorem told_any (B : Nat) (A1 A2 A3 : Option Addr) (c1 c2 c3 : Nat) (c : Rc) (w : World) (h0 : 0 < c.i.length) (hi6 : c.i.length ≤ 6) (hp40 : c.ops.length ≤ 40) (hB : B ≤ w.heap.size) (hr : RdC w B A1 A2 A3 c) :
    Calls Try.prog 76 #[.agg #[.int .i64 c.r, .slice A1 c.i.length c1, .slice A2 c.ops.length c2, .slice A3 c.o.length c3]] w fun e w' =>
      ∃ E d, e = .returned (.slice E (tld c).length d) ∧ OwI w' w.heap.size (.slice E (tld c).length d) (tld c) ∧ Below w.heap.size w w' := by
  have H := Lib.hid hr
  have CL := Lib.hid (fun W hW hrW => cloneI_any B A1 c1 c.i W (by omega) h0 hW hrW)
  have TLE := Lib.hid (tlK_le c.i c.ops)
  clear hr
  go_enter Try.func76, Try.ntmps76
  go_wp2_with fail
  go_at_call 110
  generalize hw1 : World.alloc w _ = w1
  obtain ⟨⟨x0, x1, x2, x3⟩, xs, xb⟩ := bx4r hw1
  clear hw1
  have XB := Lib.hid xb
  refine (CL.out w1 (by omega) (H.out.below' xb hB).1).mono ?_
  rintro e w2 ⟨E0, d0, rfl, hown, hb2⟩
  have y2 := (hb2.cell (p := ⟨w.heap.size, 2, none⟩) (by simp only []; omega)).trans x2
  have OW := Lib.hid hown
  have HB2 := Lib.hid (XB.out.trans (hb2.mono (by omega)))
  have hs2 : w1.heap.size ≤ w2.heap.size := hb2.size
  clear x0 x1 x2 x3 xb hown hb2
  go_wp2
  go_loopw [3, 14] (fun tv iv wr => ∃ (k : Nat) (E : Option Addr) (d : Nat), k ≤ c.ops.length ∧ iv = .int .i64 k ∧ tv = .slice E (tlK c.i c.ops k).length d ∧ OwI wr w1.heap.size (.slice E (tlK c.i c.ops k).length d) (tlK c.i c.ops k) ∧ Below w1.heap.size w2 wr) (fun _ i _ => c.ops.length - (intOf i).toNat)
  case atStart => exact ⟨0, E0, d0, by omega, rfl, rfl, OW.out, Below.refl _ _⟩
  case round =>
    obtain ⟨k, E, d, hk, rfl, rfl, hown, hbel⟩ := hrel
    have OWN := Lib.hid hown
    have BEL := Lib.hid hbel
    have hsz := hbel.size
    have HBW := Lib.hid (HB2.out.trans (hbel.mono (show w.heap.size ≤ w1.heap.size by omega)))
    by_cases hlt : k < c.ops.length
    · have iqk : (k : Int) < (c.ops.length : Int) := by omega
      obtain ⟨b, off, rfl, hb, hc1, hc2, hc3⟩ := (H.out.below' HBW.out hB).2.1.op hlt
      obtain ⟨⟨t, a, d'⟩, hx⟩ : ∃ x, c.ops[k] = x := ⟨_, rfl⟩
      rw [hx] at hc1 hc2 hc3
      simp only at hc1 hc2 hc3
      have TH := Lib.hid (tlK_three (i := c.i) hlt hx)
      have tle := TLE.out k
      obtain ⟨T, hT⟩ : ∃ T, tlK c.i c.ops k = T := ⟨_, rfl⟩
      have th := TH.out
      rw [hT] at OWN tle th ⊢
      have TH := Lib.hid th
      clear hown hbel hx th hT
      go_wp2
      generalize hw5 : World.alloc (World.alloc wr _) _ = w5
      have q1 : w5.heap[wr.heap.size + 1]? = some (.cells #[.int .i64 a, .int .i64 d', .int .i64 t] 3 (0, 0)) := by rw [← hw5]; exact heap_alloc_new' (by simp) _
      have hb5 : Below wr.heap.size wr w5 := by rw [← hw5]; exact ((Below.refl _ _).alloc (Nat.le_refl _) _).alloc (by simp) _
      have hs5 : w5.heap.size = wr.heap.size + 2 := by rw [← hw5]; simp
      clear hw5
      have Q1 := Lib.hid q1
      have O5 := Lib.hid (own_below OWN.out hb5)
      have B5 := Lib.hid (BEL.out.trans (hb5.mono (by omega)))
      have NE := Lib.hid (show ∀ q, (Value.slice E T.length d).ownBlock = some q → q ≠ wr.heap.size + 1 from fun q h => by have := (own_block OWN.out q h).2; omega)
      obtain ⟨ga, hga⟩ : ∃ ga, wr.heap.size + 1 = ga := ⟨_, rfl⟩
      rw [hga] at Q1 NE ⊢
      have hgl : ga < w5.heap.size := by omega
      have hgw : w1.heap.size ≤ ga := by omega
      clear q1 hb5 hga hs5 hc1 hc2 hc3
      go_loopw [3, 26] (fun tv jv wq => ∃ (j : Nat) (F : Option Addr) (f : Nat), j ≤ 3 ∧ jv = .int .i64 j ∧ tv = .slice F (tlJ T [a, d', t] j).length f ∧ OwI wq w1.heap.size (.slice F (tlJ T [a, d', t] j).length f) (tlJ T [a, d', t] j) ∧ (∀ q, (Value.slice F (tlJ T [a, d', t] j).length f).ownBlock = some q → q ≠ ga) ∧ wq.heap[ga]? = some (.cells #[.int .i64 a, .int .i64 d', .int .i64 t] 3 (0, 0)) ∧ Below w1.heap.size w2 wq) (fun _ j _ => 3 - (intOf j).toNat)
      case atStart => exact ⟨0, E, d, by omega, rfl, rfl, O5.out, NE.out, Q1.out, B5.out⟩
      case round =>
        obtain ⟨j, F, f, hj, rfl, rfl, hown, hne, hga, hbel⟩ := hrel
        have OW := Lib.hid hown
        have NEq := Lib.hid hne
        have GA := Lib.hid hga
        have BL := Lib.hid hbel
        have hgr : ga < wr.heap.size := (Array.getElem?_eq_some_iff.1 hga).1
        have hjl := tlJ_le T [a, d', t] j
        by_cases hjt : j < 3
        · have iqj : (j : Int) < 3 := by omega
          have hcell := three_cells hga hjt
          have SUC := Lib.hid (show tlJ T [a, d', t] (j + 1) = adT (tlJ T [a, d', t] j) ([a, d', t].getD j 0) from rfl)
          obtain ⟨x, hx⟩ : ∃ x, [a, d', t].getD j 0 = x := ⟨_, rfl⟩
          have suc := SUC.out
          rw [hx] at hcell suc
          obtain ⟨L, hL⟩ : ∃ L, tlJ T [a, d', t] j = L := ⟨_, rfl⟩
          rw [hL] at suc OW NEq hjl ⊢
          have SUC := Lib.hid suc
          have CO := containsI_any wr.heap.size F f L x wr (by omega) OW.out.rd
          obtain ⟨u, hu⟩ : ∃ u, hasI L x = u := ⟨_, rfl⟩
          rw [hu] at CO
          have CO := Lib.hid CO
          have HU := Lib.hid hu
          clear hx hL suc hu hown hne hga hbel
          go_wp2_with fail
          go_at_call 128
          refine CO.out.mono ?_
          rintro e w6 ⟨rfl, rfl⟩
          cases u with
          | true =>
            have E2 := Lib.hid (show tlJ T [a, d', t] (j + 1) = L by rw [SUC.out]; unfold adT; rw [HU.out]; rfl)
            go_wp2
            go_roundw
            case rel => exact ⟨j + 1, F, f, by omega, by go_num, by rw [E2.out], by rw [E2.out]; exact OW.out, by rw [E2.out]; exact NEq.out, GA.out, BL.out⟩
            case measure => simp [intOf]; omega
          | false =>
            have E2 := Lib.hid (show tlJ T [a, d', t] (j + 1) = L ++ [x] by rw [SUC.out]; unfold adT; rw [HU.out]; rfl)
            have hss := BL.out.size
            go_wp2_with (at_builtin; refine list_step (fun K hK => ?_); refine step_app_intG rfl (.tmp 34) (.tmp 36) rfl w1.heap.size L.length _ L rfl (own_below OW.out ((Below.refl _ _).alloc (Nat.le_refl _) _)) rfl wr.heap.size 1 x rfl (by simp) (by omega) (by simp; omega) ?_; intro g7 c7 w7 hown7 hg7 hbel7 hlie7; go_simp; refine hK _ _ ?_; clear hK K)
            go_roundw
            case rel =>
              have el : (L ++ [x]).length = L.length + 1 := by simp
              refine ⟨j + 1, some ⟨g7, 0, none⟩, c7, by omega, by go_num, by rw [E2.out, el], by rw [E2.out, el]; exact hown7, ?_, ?_, (BL.out.alloc (by omega) _).trans hbel7⟩
              · rw [E2.out]
                intro q hq
                have hq' : g7 = q := by simpa [Value.ownBlock] using hq
                rcases hlie7 with h | h
                · exact hq' ▸ NEq.out g7 h
                · simp at h; omega
              · have := hg7.block ga (by simp; omega) (fun e => NEq.out ga e.symm rfl)
                rw [this, Below.heap_alloc _ _ _ hgr]
                exact GA.out
            case measure => simp [intOf]; omega
        · have hj' : j = 3 := by omega
          subst hj'
          clear hown hne hga hbel
          go_wp2
          go_roundw
          case rel => exact ⟨k + 1, F, f, by omega, by go_num, by rw [TH.out], by rw [TH.out]; exact OW.out, BL.out⟩
          case measure => simp [intOf]; omega
    · have hk' : k = c.ops.length := by omega
      subst hk'
      go_wp2
      go_ret
      exact ⟨E, d, rfl, OwI.base OWN.out (by omega), HBW.out⟩
end Go.Proofs.Ytbbjgcagkmlngab
/- Whether code tells only registers that it has, by the program. -/
namespace Go.Proofs.Ytbbjgcagkmlngab
open Go.RowKit

set_option maxRecDepth 100000 in
set_option maxHeartbeats 2000000 in
theorem equalOps_any (B B' : Nat) (A A' : Option Addr) (c c' : Nat) (a b : List (Int × Int × Int)) (w : World) (hm : a.length ≤ 4000000) (_hm' : b.length ≤ 4000000) (hr : Rd w B 3 A a.length (fl3 a)) (hr' : Rd w B' 3 A' b.length (fl3 b)) :
    Calls Try.prog 173 #[.slice A a.length c, .slice A' b.length c'] w fun e w' => e = .returned (.bool (decide (a = b))) ∧ Dr w w' := by
  have H := Lib.hid hr
  have H' := Lib.hid hr'
  clear hr hr'
  by_cases hl : a.length = b.length
  · have hlb : ((a.length : Int) != (b.length : Int)) = false := by simp [hl]
    have L := Lib.hid hl
    clear hl
    go_enter Try.func173, Try.ntmps173
    go_wp2
    go_loopw [13] (fun i wr => ∃ k n : Nat, k ≤ a.length ∧ i = .int .i64 k ∧ a.take k = b.take k ∧ wr = w.drewN n) (fun i _ => a.length - (intOf i).toNat)
    case atStart => exact ⟨0, 0, by omega, rfl, rfl, rfl⟩
    case round =>
      obtain ⟨k, n, hk, rfl, hq, rfl⟩ := hrel
      have Q := Lib.hid hq
      clear hq
      by_cases hlt : k < a.length
      · have hlt' : k < b.length := by have := L.out; omega
        obtain ⟨b1, off, rfl, hb, hc1, hc2, hc3⟩ := H.out.op hlt
        obtain ⟨b2, off2, rfl, hb2, hd1, hd2, hd3⟩ := H'.out.op hlt'
        have i1 : (k : Int) < (a.length : Int) := by omega
        have i2 : (k : Int) < (b.length : Int) := by omega
        have i0 : (0 : Int) ≤ (k : Int) := by omega
        obtain ⟨⟨x, y, z⟩, hx⟩ : ∃ x, a[k] = x := ⟨_, rfl⟩
        obtain ⟨⟨x', y', z'⟩, hy⟩ : ∃ x, b[k] = x := ⟨_, rfl⟩
        rw [hx] at hc1 hc2 hc3
        rw [hy] at hd1 hd2 hd3
        simp only at hc1 hc2 hc3 hd1 hd2 hd3
        have XX := Lib.hid hx
        have YY := Lib.hid hy
        clear hx hy
        have MISS := Lib.hid (show ¬ (x, y, z) = (x', y', z') → decide (a = b) = false from fun h => by
          rw [decide_eq_false_iff_not]
          intro e
          subst e
          exact h (XX.out.symm.trans YY.out))
        by_cases h1 : x = x'
        · by_cases h2 : y = y'
          · by_cases h3 : z = z'
            · subst h1
              subst h2
              subst h3
              go_wp2
              go_quiet (fail)
              go_wp2
              go_roundw
              case rel => exact ⟨k + 1, _, by omega, by go_num, by rw [List.take_succ_eq_append_getElem hlt, List.take_succ_eq_append_getElem hlt', Q.out, XX.out, YY.out], rfl⟩
              case measure => simp [intOf]; omega
            · have E := Lib.hid (MISS.out (by simp [h3]))
              go_wp2
              go_quiet (fail)
              go_wp2
              go_ret
              exact ⟨ret_bool E.out.symm, Dr.mk2 _ _ _⟩
          · have E := Lib.hid (MISS.out (by simp [h2]))
            go_wp2
            go_quiet (fail)
            go_wp2
            go_ret
            exact ⟨ret_bool E.out.symm, Dr.mk2 _ _ _⟩
        · have E := Lib.hid (MISS.out (by simp [h1]))
          go_wp2
          go_quiet (fail)
          go_wp2
          go_ret
          exact ⟨ret_bool E.out.symm, Dr.mk2 _ _ _⟩
      · go_wp2
        go_ret
        refine ⟨ret_bool ?_, Dr.mk _ _⟩
        have h := Q.out
        have h2 := L.out
        rw [List.take_of_length_le (by omega), List.take_of_length_le (by omega)] at h
        simp [h]
  · have hlb : ((a.length : Int) != (b.length : Int)) = true := by rw [bne_iff_ne]; omega
    have L := Lib.hid hl
    clear hl
    go_enter Try.func173, Try.ntmps173
    go_wp2
    go_ret
    refine ⟨ret_bool ?_, Dr.refl _⟩
    symm
    rw [decide_eq_false_iff_not]
    intro e
    exact L.out (by rw [e])

/-- Brought into the range of the registers. -/
def clI (r x : Int) : Int := min (max x 0) (r - 1)
theorem cl_fix {r x : Int} (hr : 1 ≤ r) : clI r x = x ↔ inB x 0 (r - 1) = true := by
  unfold clI inB
  simp only [Bool.and_eq_true, decide_eq_true_eq]
  omega
theorem cl_list {r : Int} (hr : 1 ≤ r) (l : List Int) : decide (l = l.map (clI r)) = allB l 0 (r - 1) := by
  rw [Bool.eq_iff_iff, decide_eq_true_eq]
  unfold allB
  rw [List.all_eq_true]
  constructor
  · intro h x hx
    obtain ⟨i, hi, e⟩ := List.mem_iff_getElem.1 hx
    have h1 : l[i] = (l.map (clI r))[i]'(by simpa using hi) := by congr 1
    rw [List.getElem_map, e] at h1
    exact (cl_fix hr).1 h1.symm
  · intro h
    exact (List.map_id l).symm.trans (List.map_congr_left fun x hx => ((cl_fix hr).2 (h x hx)).symm)
theorem cl_ops {r : Int} (hr : 1 ≤ r) (l : List (Int × Int × Int)) : decide (l = l.map fun x => (clI r x.1, clI r x.2.1, clI r x.2.2)) = l.all (opIn r) := by
  rw [Bool.eq_iff_iff, decide_eq_true_eq, List.all_eq_true]
  constructor
  · intro h x hx
    obtain ⟨i, hi, e⟩ := List.mem_iff_getElem.1 hx
    have h1 : l[i] = (l.map fun x => (clI r x.1, clI r x.2.1, clI r x.2.2))[i]'(by simpa using hi) := by congr 1
    rw [List.getElem_map, e] at h1
    unfold opIn
    rw [Bool.and_eq_true, Bool.and_eq_true]
    obtain ⟨a, b, d⟩ := x
    simp only [Prod.mk.injEq] at h1
    exact ⟨(cl_fix hr).1 h1.1.symm, (cl_fix hr).1 h1.2.1.symm, (cl_fix hr).1 h1.2.2.symm⟩
  · intro h
    refine (List.map_id l).symm.trans (List.map_congr_left fun x hx => ?_)
    have := h x hx
    unfold opIn at this
    rw [Bool.and_eq_true, Bool.and_eq_true] at this
    obtain ⟨a, b, d⟩ := x
    simp only [id, Prod.mk.injEq]
    exact ⟨((cl_fix hr).2 this.1).symm, ((cl_fix hr).2 this.2.1).symm, ((cl_fix hr).2 this.2.2).symm⟩

set_option maxRecDepth 100000 in
set_option maxHeartbeats 1000000 in
theorem clamp_any (g : Nat) (r x : Int) (w : World) (hr1 : 1 ≤ r) (hr2 : r ≤ 46) (hg : w.cell? ⟨g, 0, none⟩ = some (.int .i64 r)) :
    Calls Try.prog 171 #[.int .i64 x, .pointer (some ⟨g, 0, none⟩)] w fun e w' => e = .returned (.int .i64 (clI r x)) ∧ Below w.heap.size w w' := by
  have hrw : IntKind.i64.wrap (r - 1) = r - 1 := IntWalk.i64_in _ (by omega)
  go_enter Try.func171, Try.ntmps171
  go_wp2
  trace_state
  go_ret
  exact ⟨rfl, Below.refl _ _⟩
end Go.Proofs.Ytbbjgcagkmlngab
/- The plan of code of registers, by the program: whether its registers are there. -/
namespace Go.Proofs.Ytbbjgcagkmlngab
open Go.RowKit

set_option maxHeartbeats 400000 in
theorem equalInts_any (B : Nat) (A A' : Option Addr) (c c' : Nat) (a b : List Int) (w : World) (hm : a.length ≤ 4000000) (_hm' : b.length ≤ 4000000) (hr : Rd w B 1 A a.length (a.map I)) (hr' : Rd w B 1 A' b.length (b.map I)) :
    Calls Try.prog 172 #[.slice A a.length c, .slice A' b.length c'] w fun e w' => e = .returned (.bool (eqI a b)) ∧ Dr w w' := by
  have H := Lib.hid hr
  have H' := Lib.hid hr'
  clear hr hr'
  by_cases hl : a.length = b.length
  · have hlb : ((a.length : Int) == (b.length : Int)) = true := by simp [hl]
    have L := Lib.hid hl
    clear hl
    go_enter Try.func172, Try.ntmps172
    go_wp2
    go_loopw [13] (fun i wr => ∃ k n : Nat, k ≤ a.length ∧ i = .int .i64 k ∧ a.take k = b.take k ∧ wr = w.drewN n) (fun i _ => a.length - (intOf i).toNat)
    case atStart => exact ⟨0, 0, by omega, rfl, rfl, rfl⟩
    case round =>
      obtain ⟨k, n, hk, rfl, hq, rfl⟩ := hrel
      have Q := Lib.hid hq
      clear hq
      by_cases hlt : k < a.length
      · have hlt' : k < b.length := by have := L.out; omega
        obtain ⟨b1, off, rfl, hb, hcell⟩ := H.out.int hlt
        obtain ⟨b2, off2, rfl, hb2, hcell2⟩ := H'.out.int hlt'
        have i1 : (k : Int) < (a.length : Int) := by omega
        have i2 : (k : Int) < (b.length : Int) := by omega
        have i0 : (0 : Int) ≤ (k : Int) := by omega
        go_wp2
        go_quiet (fail)
        go_wp2
        · go_ret
          exact ⟨ret_bool (eqI_miss hlt hlt' (by assumption)).symm, Dr.mk2 _ _ _⟩
        · have he : (a[k] != b[k]) = false := by assumption
          go_roundw
          case rel => exact ⟨k + 1, _, by omega, by go_num, same_take hlt hlt' Q.out (by simpa using he), rfl⟩
          case measure => simp [intOf]; omega
      · go_wp2
        go_ret
        exact ⟨ret_bool (eqI_end L.out hlt Q.out).symm, Dr.mk _ _⟩
  · have hlb : ((a.length : Int) != (b.length : Int)) = true := by rw [bne_iff_ne]; omega
    have L := Lib.hid hl
    clear hl
    go_enter Try.func172, Try.ntmps172
    go_wp2
    go_ret
    exact ⟨ret_bool (eqI_len L.out).symm, Dr.refl _⟩

set_option maxRecDepth 100000 in
set_option maxHeartbeats 4000000 in
theorem tells_any (B : Nat) (A1 A2 A3 : Option Addr) (c1 c2 c3 : Nat) (c : Rc) (w : World) (hB : B ≤ w.heap.size) (hl1 : c.i.length ≤ 1048576) (hl2 : c.ops.length ≤ 1048576) (hl3 : c.o.length ≤ 1048576) (hr1 : 1 ≤ c.r) (hr2 : c.r ≤ 46) (hr : RdC w B A1 A2 A3 c) :
    Calls Try.prog 154 #[.agg #[.int .i64 c.r, .slice A1 c.i.length c1, .slice A2 c.ops.length c2, .slice A3 c.o.length c3]] w fun e w' => e = .returned (.bool (rcIn c)) ∧ Below w.heap.size w w' := by
  have H := Lib.hid hr
  have CL := Lib.hid (fun W hW hrW HN => called_any B 171 #[.pointer (some ⟨w.heap.size, 0, none⟩)] (enters_of Try.func171 (by kernel_rfl) rfl) (clI c.r) (fun _ => True) A1 A2 A3 c1 c2 c3 c W hl1 hl2 hl3 (fun _ _ => trivial) (fun _ _ => ⟨trivial, trivial, trivial⟩) (fun _ _ => trivial) hW hrW HN)
  have CM := Lib.hid (fun x W h => clamp_any w.heap.size c.r x W hr1 hr2 h)
  have hq1 := cl_list hr1 c.i
  have hq2 := cl_ops hr1 c.ops
  have hq3 := cl_list hr1 c.o
  obtain ⟨t1, ht1⟩ : ∃ t, allB c.i 0 (c.r - 1) = t := ⟨_, rfl⟩
  obtain ⟨t2, ht2⟩ : ∃ t, c.ops.all (opIn c.r) = t := ⟨_, rfl⟩
  obtain ⟨t3, ht3⟩ : ∃ t, allB c.o 0 (c.r - 1) = t := ⟨_, rfl⟩
  have EQ := Lib.hid (show rcIn c = (t1 && (t2 && t3)) by unfold rcIn; rw [ht1, ht2, ht3])
  rw [ht1] at hq1
  rw [ht2] at hq2
  rw [ht3] at hq3
  have Q1 := Lib.hid hq1
  have Q2 := Lib.hid hq2
  have Q3 := Lib.hid hq3
  clear hr hq1 hq2 hq3 ht1 ht2 ht3
  go_enter Try.func154, Try.ntmps154
  go_wp2_with fail
  go_at_call 77
  generalize hw1 : World.alloc w _ = w1
  obtain ⟨⟨x0, x1, x2, x3⟩, xs, xb⟩ := bx4r hw1
  clear hw1
  have XB := Lib.hid xb
  clear xb
  have hh : Names 171 #[.pointer (some ⟨w.heap.size, 0, none⟩)] (clI c.r) (fun _ => True) w1 := by
    intro W x hW _
    have e : (#[Value.int .i64 x] ++ #[.pointer (some ⟨w.heap.size, 0, none⟩)] : Array Value) = #[.int .i64 x, .pointer (some ⟨w.heap.size, 0, none⟩)] := rfl
    rw [e]
    exact CM.out x W ((hW.cell (p := ⟨w.heap.size, 0, none⟩) (by simp only []; omega)).trans x0)
  refine (CL.out w1 (by omega) (H.out.below' XB.out hB) hh).mono ?_
  rintro e w2 ⟨E1, E2, E3, e1, e2, e3, rfl, hown, hb2⟩
  have y1 := (hb2.cell (p := ⟨w.heap.size, 1, none⟩) (by simp only []; omega)).trans x1
  have y2 := (hb2.cell (p := ⟨w.heap.size, 2, none⟩) (by simp only []; omega)).trans x2
  have y3 := (hb2.cell (p := ⟨w.heap.size, 3, none⟩) (by simp only []; omega)).trans x3
  have HB2 := Lib.hid (XB.out.trans (hb2.mono (by omega)))
  have OWN := Lib.hid hown
  have hs2 : w.heap.size + 1 ≤ w2.heap.size := by have := hb2.size; omega
  have Y1 := cell_kept y1
  clear hh x0 x1 x2 x3 hb2 hown y1
  go_wp2_with fail
  go_at_call 172
  clear Y1
  generalize hw3 : World.alloc w2 _ = w3
  obtain ⟨⟨f0, f1, f2, f3⟩, fs, fb⟩ := bx4r hw3
  clear hw3
  have y2 := (fb.cell (p := ⟨w.heap.size, 2, none⟩) (by simp only []; omega)).trans y2
  have y3 := (fb.cell (p := ⟨w.heap.size, 3, none⟩) (by simp only []; omega)).trans y3
  have HB3 := Lib.hid (HB2.out.trans (fb.mono HB2.out.size))
  have OWN3 := Lib.hid (OWN.out.below fb)
  have hs3 : w.heap.size + 1 ≤ w3.heap.size := by omega
  have E1' := equalInts_any w3.heap.size A1 E1 c1 e1 c.i (c.i.map (clI c.r)) w3 (by omega) (by rw [List.length_map]; omega) ((H.out.below' HB3.out hB).1.more (by omega)) (OWN3.out.rd.1)
  have E2' := fun W hd => equalOps_any w3.heap.size w3.heap.size A2 E2 c2 e2 c.ops (c.ops.map fun x : Int × Int × Int => (clI c.r x.1, clI c.r x.2.1, clI c.r x.2.2)) W (by omega) (by rw [List.length_map]; omega) (((H.out.below' HB3.out hB).2.1.more (by omega)).below hd) (OWN3.out.rd.2.1.below hd)
  have E3' := fun W hd => equalInts_any w3.heap.size A3 E3 c3 e3 c.o (c.o.map (clI c.r)) W (by omega) (by rw [List.length_map]; omega) (((H.out.below' HB3.out hB).2.2.more (by omega)).below hd) (OWN3.out.rd.2.2.below hd)
  unfold eqI at E1' E3'
  rw [List.length_map, Q1.out] at E1'
  rw [List.length_map, Q2.out] at E2'
  rw [List.length_map, Q3.out] at E3'
  have E2' := Lib.hid E2'
  have E3' := Lib.hid E3'
  refine E1'.mono ?_
  rintro e w4 ⟨rfl, hd4⟩
  have hb4 := hd4.below w3.heap.size
  have HB4 := Lib.hid hb4
  have y2 := (hb4.cell (p := ⟨w.heap.size, 2, none⟩) (by simp only []; omega)).trans y2
  have y3 := (hb4.cell (p := ⟨w.heap.size, 3, none⟩) (by simp only []; omega)).trans y3
  have f2 := (hb4.cell (p := ⟨w2.heap.size, 2, none⟩) (by simp only []; omega)).trans f2
  have f3 := (hb4.cell (p := ⟨w2.heap.size, 3, none⟩) (by simp only []; omega)).trans f3
  have hs4 : w3.heap.size ≤ w4.heap.size := hb4.size
  clear E1' hd4 hb4 f0 f1 fb
  cases t1 with
  | false =>
    go_wp2
    go_ret
    exact ⟨ret_bool EQ.out.symm, HB3.out.trans (HB4.out.mono HB3.out.size)⟩
  | true =>
    go_wp2_with fail
    go_at_call 173
    refine (E2'.out w4 HB4.out).mono ?_
    rintro e w5 ⟨rfl, hd5⟩
    have hb5 := HB4.out.trans (hd5.below w3.heap.size)
    have HB5 := Lib.hid hb5
    have y3 := ((hd5.below w3.heap.size).cell (p := ⟨w.heap.size, 3, none⟩) (by simp only []; omega)).trans y3
    have f3 := ((hd5.below w3.heap.size).cell (p := ⟨w2.heap.size, 3, none⟩) (by simp only []; omega)).trans f3
    clear hd5 hb5 y2 f2
    cases t2 with
    | false =>
      go_wp2
      go_ret
      exact ⟨ret_bool EQ.out.symm, HB3.out.trans (HB5.out.mono HB3.out.size)⟩
    | true =>
      go_wp2_with fail
      go_at_call 172
      refine (E3'.out w5 HB5.out).mono ?_
      rintro e w6 ⟨rfl, hd6⟩
      go_wp2
      go_ret
      exact ⟨ret_bool (by rw [EQ.out]; cases t3 <;> rfl), HB3.out.trans ((HB5.out.trans (hd6.below w3.heap.size)).mono HB3.out.size)⟩

theorem zeros_rowL {w : World} {B : Nat} (n : Nat) (hn : n ≤ 1048576) (hB : B ≤ w.heap.size) :
    (w.alloc (.cells (madeCells #[Value.int .i64 0] n) 3)).ownsRow B 3 1 (.slice (some ⟨w.heap.size, 0, none⟩) n n) n (List.replicate n (I 0)) := by
  have h := World.ownsRow_lit (base := B) (e := 3) (size := 1) w (madeCells #[Value.int .i64 0] n) n hB (by unfold maxLen; omega) (by simp [size_madeCells])
  rw [toList_madeCells_one] at h
  exact h


set_option maxRecDepth 100000 in
set_option maxHeartbeats 1000000 in
theorem renamedL_any (B : Nat) (A A' : Option Addr) (c c' : Nat) (o nm : List Int) (w : World) (hm : o.length ≤ 1048576) (hB : B ≤ w.heap.size) (hin : ∀ x ∈ o, 0 ≤ x ∧ x < nm.length) (hr : Rd w B 1 A o.length (o.map I)) (hr' : Rd w B 1 A' nm.length (nm.map I)) :
    Calls Try.prog 98 #[.slice A o.length c, .slice A' nm.length c'] w fun e w' => ∃ A2 c2, e = .returned (.slice A2 o.length c2) ∧ OwI w' w.heap.size (.slice A2 o.length c2) (o.map fun x => nm.getD x.toNat 0) ∧ Below w.heap.size w w' := by
  have H := Lib.hid hr
  have H' := Lib.hid hr'
  have HIN := Lib.hid hin
  clear hr hr' hin
  have hmk := run_make_row' (P := Try.prog) 22 3 (.int .i64 0) 8 Try.underlying22 info_int rfl .i64 .i64 o.length (by omega) (by omega)
  go_enter Try.func98, Try.ntmps98
  go_wp2
  clear hmk
  generalize hw2 : World.alloc w _ = w2
  have hmade : w2.ownsRow w.heap.size 3 1 (.slice (some ⟨w.heap.size, 0, none⟩) o.length o.length) o.length (List.replicate o.length (I 0)) := by rw [← hw2]; exact zeros_rowL o.length hm (Nat.le_refl _)
  have hb2 : Below w.heap.size w w2 := by rw [← hw2]; exact (Below.refl _ _).alloc (Nat.le_refl _) _
  clear hw2
  have HM := Lib.hid hmade
  have HB2 := Lib.hid hb2
  clear hmade hb2
  go_loopw [13] (fun i wr => ∃ k : Nat, k ≤ o.length ∧ i = .int .i64 k ∧ wr.ownsRow w.heap.size 3 1 (.slice (some ⟨w.heap.size, 0, none⟩) o.length o.length) o.length (((o.take k).map fun x => nm.getD x.toNat 0).map I ++ List.replicate (o.length - k) (I 0)) ∧ Below w.heap.size w wr) (fun i _ => o.length - (intOf i).toNat)
  case atStart => exact ⟨0, by omega, rfl, by simpa using HM.out, HB2.out⟩
  case round =>
    obtain ⟨k, hk, rfl, hown, hbel⟩ := hrel
    have OWN := Lib.hid hown
    have BEL := Lib.hid hbel
    by_cases hlt : k < o.length
    · obtain ⟨ob, oo, rfl, hob, hoc⟩ := (H.out.below' hbel hB).int hlt
      obtain ⟨q1, q2⟩ := HIN.out _ (List.getElem_mem hlt)
      obtain ⟨v, hv⟩ : ∃ v : Nat, o[k] = v := ⟨(o[k]).toNat, by omega⟩
      rw [hv] at hoc q2
      have hvl : v < nm.length := by omega
      obtain ⟨nb, no, rfl, hnb, hnc⟩ := (H'.out.below' hbel hB).int hvl
      have hkl : (List.map I (List.map (fun x => nm.getD x.toNat 0) (List.take k o))).length = k := by simp; omega
      have hc : wr.cell? ⟨w.heap.size, k, none⟩ = some (I 0) := by
        rw [hown.cellAt _ (by omega)]
        exact rep_at (by omega) (by omega)
      have hf : wr.frozen? ⟨w.heap.size, k, none⟩ = false := hown.frozenAt _
      have HV := Lib.hid hv
      clear hown hbel hkl hv q1
      go_wp2
      go_roundw
      case rel =>
        refine ⟨k + 1, by omega, by go_num, ?_, BEL.out.setCell (Nat.le_refl _) _⟩
        have h := (OWN.out.stored k (I nm[v])).1
        rw [fill_next _ nm[v] (by simp; omega) hlt] at h
        have e : (List.take (k + 1) o).map (fun x => nm.getD x.toNat 0) = (List.take k o).map (fun x => nm.getD x.toNat 0) ++ [nm[v]] := by
          rw [List.take_succ_eq_append_getElem hlt, List.map_append, HV.out]
          simp [hvl]
        rw [e]
        exact h
      case measure => simp [intOf]; omega
    · have hk' : k = o.length := by omega
      subst hk'
      clear hown hbel
      go_wp2
      go_ret
      have h := OWN.out
      rw [List.take_of_length_le (Nat.le_refl _)] at h
      refine ⟨_, _, rfl, ?_, BEL.out⟩
      show World.ownsRow _ _ _ _ _ _ _
      rw [List.length_map]
      simpa using h



theorem full_bool {l : List Int} {r : Int} : (reg l r != -1) = decide (reg l r ≠ -1) := by
  rw [Bool.eq_iff_iff]
  simp
set_option maxRecDepth 100000 in
set_option maxHeartbeats 1000000 in
theorem isFull_any (B g r : Nat) (l : List Int) (w : World) (hr : r < 46) (hA : ArO w B g l) :
    Calls Try.prog 156 #[.pointer (some ⟨g, 0, none⟩), .int .i64 (r : Int)] w fun e w' => e = .returned (.bool (reg l (r : Int) != -1)) ∧ w = w' := by
  have d0 := hA.at_ hr
  have ir : (r : Int) < 46 := by omega
  clear hA
  go_enter Try.func156, Try.ntmps156
  go_wp2
  go_ret
  exact ⟨rfl, rfl⟩
end Go.Proofs.Ytbbjgcagkmlngab
/- The plan of code of registers, by the program. -/
namespace Go.Proofs.Ytbbjgcagkmlngab
open Go.RowKit

theorem own0 : ownK 0 46 = List.replicate 46 (-1) := by decide
theorem rcIn_facts {c : Rc} (h : rcIn c = true) (h1 : 1 ≤ c.r) (h2 : c.r ≤ 46) : ∃ R : Nat, c.r = R ∧ R ≤ 46 ∧ (∀ x ∈ c.i, 0 ≤ x ∧ x < (R : Int)) ∧ (∀ x ∈ c.ops, opIn R x = true) ∧ (∀ x ∈ c.o, 0 ≤ x ∧ x < (R : Int)) := by
  unfold rcIn at h
  simp only [Bool.and_eq_true] at h
  obtain ⟨h6, h7, h8⟩ := h
  refine ⟨c.r.toNat, by omega, by omega, ?_, ?_, ?_⟩
  · intro x hx
    have := List.all_eq_true.1 h6 x hx
    unfold inB at this
    simp only [Bool.and_eq_true, decide_eq_true_eq] at this
    omega
  · intro x hx
    have := List.all_eq_true.1 h7 x hx
    rw [show ((c.r.toNat : Nat) : Int) = c.r by omega]
    exact this
  · intro x hx
    have := List.all_eq_true.1 h8 x hx
    unfold inB at this
    simp only [Bool.and_eq_true, decide_eq_true_eq] at this
    omega
theorem nod_full {R : Nat} {i : List Int} (hR : R ≤ 46) (hin : ∀ x ∈ i, 0 ≤ x ∧ x < (R : Int)) {k : Nat} (hk : k < i.length) : (reg (rgI 46 i k) i[k] != -1) = hasI (i.take k) i[k] := by
  obtain ⟨x0, x1⟩ := hin _ (List.getElem_mem hk)
  rw [Bool.eq_iff_iff]
  unfold hasI
  rw [List.contains_iff_mem, bne_iff_ne]
  rcases rgI_full (m := 46) (i := i) (fun x hx => ⟨(hin x hx).1, by have := (hin x hx).2; omega⟩) x0 (by omega) k (by omega) with ⟨h1, h2⟩ | ⟨h1, _, h2⟩
  · exact ⟨fun h => absurd h1 h, fun h => absurd h h2⟩
  · exact ⟨fun _ => h2, fun _ => by omega⟩
theorem rcB_dup {c : Rc} (h : nodI c.i = false) : rcB c = false := by unfold rcB; rw [h]; simp
theorem rcB_out {c : Rc} (h : rcIn c = false) : rcB c = false := by unfold rcB; rw [h]; simp
theorem rcB_few {c : Rc} (h : c.r < 1) : rcB c = false := by
  unfold rcB inB
  rw [decide_eq_false (show ¬ 1 ≤ c.r by omega)]
  rfl
theorem rcB_many {c : Rc} (h : 46 < c.r) : rcB c = false := by
  unfold rcB inB
  rw [decide_eq_false (show ¬ c.r ≤ 46 by omega)]
  simp
theorem names_reg {l o : List Int} (h : ∀ x ∈ o, 0 ≤ x ∧ x < l.length) : (o.map fun x => l.getD x.toNat 0) = o.map (reg l) := by
  refine List.map_congr_left fun x hx => ?_
  obtain ⟨h0, h1⟩ := h x hx
  have : x.toNat < l.length := by omega
  unfold reg
  simp [this]
theorem MkS.new {w w' : World} {n : Int} (h : w.alloc (.cells #[.int .i64 n, .slice none 0 0] 186) = w') : MkS w' w.heap.size w.heap.size n [] := by
  subst h
  exact ⟨none, 0, heap_alloc_new w _, World.ownsRow_nil _ _ _ _⟩

set_option maxRecDepth 100000 in
set_option maxHeartbeats 16000000 in
theorem implRcPlan_any (B : Nat) (A1 A2 A3 : Option Addr) (c1 c2 c3 : Nat) (c : Rc) (w : World) (hB : B ≤ w.heap.size) (hl1 : c.i.length ≤ 1048576) (hl2 : c.ops.length ≤ 1048576) (hl3 : c.o.length ≤ 1048576) (_hcap : c.i.length ≤ c1 ∧ c.ops.length ≤ c2 ∧ c.o.length ≤ c3) (hr : RdC w B A1 A2 A3 c) :
    Calls Try.prog 127 #[.agg #[.int .i64 c.r, .slice A1 c.i.length c1, .slice A2 c.ops.length c2, .slice A3 c.o.length c3]] w fun e w' =>
      ∃ E1 E2 e1 e2, e = .returned (.tuple #[.agg #[.int .i64 (rcR c).n, .slice E1 (rcR c).s.length e1, .slice E2 (rcR c).o.length e2], .bool (rcB c)]) ∧ OwP w' w.heap.size E1 E2 e1 e2 (rcR c) ∧ Below w.heap.size w w' := by
  have H := Lib.hid hr
  clear hr
  by_cases hr1 : c.r < 1
  · have EB := Lib.hid (rcB_few hr1)
    have ER := Lib.hid (rcR_false (rcB_few hr1))
    go_enter Try.func127, Try.ntmps127
    go_wp2
    refine bodyPost_ret (v := .tuple #[.agg #[.int .i64 0, .slice none 0 0, .slice none 0 0], .bool false]) (by simp [results, Try.results127, go_sem]) rfl ⟨none, none, 0, 0, by rw [ER.out, EB.out]; rfl, by rw [ER.out]; exact OwP.zero _ _, ?_⟩
    exact ((Below.refl _ _).alloc (Nat.le_refl _) _).alloc (by simp) _
  by_cases hr2 : 46 < c.r
  · have EB := Lib.hid (rcB_many hr2)
    have ER := Lib.hid (rcR_false (rcB_many hr2))
    go_enter Try.func127, Try.ntmps127
    go_wp2
    refine bodyPost_ret (v := .tuple #[.agg #[.int .i64 0, .slice none 0 0, .slice none 0 0], .bool false]) (by simp [results, Try.results127, go_sem]) rfl ⟨none, none, 0, 0, by rw [ER.out, EB.out]; rfl, by rw [ER.out]; exact OwP.zero _ _, ?_⟩
    exact ((Below.refl _ _).alloc (Nat.le_refl _) _).alloc (by simp) _
  have TE := fun W hW hrW => tells_any B A1 A2 A3 c1 c2 c3 c W hW hl1 hl2 hl3 (by omega) (by omega) hrW
  obtain ⟨t, ht⟩ : ∃ t, rcIn c = t := ⟨_, rfl⟩
  rw [ht] at TE
  have TE := Lib.hid TE
  have HT := Lib.hid ht
  clear ht
  go_enter Try.func127, Try.ntmps127
  go_wp2_with fail
  go_at_call 154
  generalize hw1 : World.alloc w _ = w1
  obtain ⟨⟨x0, x1, x2, x3⟩, xs, xb⟩ := bx4r hw1
  clear hw1
  generalize hw2 : World.alloc w1 _ = w2
  have q0 : w2.heap[w1.heap.size]? = some (.cells #[.int .i64 0, .slice none 0 0, .slice none 0 0] 44 (0, 0)) := by rw [← hw2]; exact heap_alloc_new w1 _
  obtain ⟨_, ys, yb⟩ := box3' hw2
  clear hw2
  rw [xs] at q0
  have x1 := (yb.cell (p := ⟨w.heap.size, 1, none⟩) (by simp only []; omega)).trans x1
  have x2 := (yb.cell (p := ⟨w.heap.size, 2, none⟩) (by simp only []; omega)).trans x2
  have x3 := (yb.cell (p := ⟨w.heap.size, 3, none⟩) (by simp only []; omega)).trans x3
  have HB2 := Lib.hid (xb.trans (yb.mono (by omega)))
  have hs2 : w.heap.size + 2 = w2.heap.size := by omega
  clear x0 xs ys xb yb
  refine (TE.out w2 (by omega) (H.out.below' HB2.out hB)).mono ?_
  rintro e w3 ⟨rfl, hb3⟩
  have y1 := (hb3.cell (p := ⟨w.heap.size, 1, none⟩) (by simp only []; omega)).trans x1
  have y2 := (hb3.cell (p := ⟨w.heap.size, 2, none⟩) (by simp only []; omega)).trans x2
  have y3 := (hb3.cell (p := ⟨w.heap.size, 3, none⟩) (by simp only []; omega)).trans x3
  have q3 := (hb3.block (w.heap.size + 1) (by omega)).trans q0
  have HB3 := Lib.hid (HB2.out.trans (hb3.mono (by omega)))
  have hs3 : w.heap.size + 2 ≤ w3.heap.size := by have := hb3.size; omega
  have Q3 := Lib.hid q3
  clear x1 x2 x3 q0 q3 hb3 hs2
  cases t with
  | false =>
    have EB := Lib.hid (rcB_out HT.out)
    have ER := Lib.hid (rcR_false EB.out)
    obtain ⟨t0, t1, t2, g0, g1, g2⟩ := cells3n Q3.out
    go_wp2
    refine bodyPost_ret (v := .tuple #[.agg #[.int .i64 0, .slice none 0 0, .slice none 0 0], .bool false]) (by simp [results, Try.results127, go_sem, t0, t1, t2]) rfl ⟨none, none, 0, 0, by rw [ER.out, EB.out]; rfl, by rw [ER.out]; exact OwP.zero _ _, ?_⟩
    exact ((HB3.out.setCell (by simp) _).setCell (by simp) _).setCell (by simp) _
  | true =>
    obtain ⟨R, hR, hR46, hin, hop, hou⟩ := rcIn_facts HT.out (by omega) (by omega)
    have HIN := Lib.hid hin
    have HOP := Lib.hid hop
    have HOU := Lib.hid hou
    have HR := Lib.hid hR
    have OR := Lib.hid (ownRegisters_any 0)
    have HR1 := Lib.hid (show 1 ≤ c.r ∧ c.r ≤ 46 by omega)
    clear hin hop hou hR hr1 hr2
    go_wp2_with fail
    go_at_call 155
    refine (OR.out w3).mono ?_
    rintro e w4 ⟨rfl, hb4⟩
    have y1 := (hb4.cell (p := ⟨w.heap.size, 1, none⟩) (by simp only []; omega)).trans y1
    have y2 := (hb4.cell (p := ⟨w.heap.size, 2, none⟩) (by simp only []; omega)).trans y2
    have y3 := (hb4.cell (p := ⟨w.heap.size, 3, none⟩) (by simp only []; omega)).trans y3
    have q4 := (hb4.block (w.heap.size + 1) (by omega)).trans Q3.out
    have HB4 := Lib.hid (HB3.out.trans (hb4.mono (by omega)))
    have hs4 : w.heap.size + 2 ≤ w4.heap.size := by have := hb4.size; omega
    have Q4 := Lib.hid q4
    have Y1 := cell_kept y1
    clear q4 hb4
    rw [own0]
    have EQB := Lib.hid (show nodI c.i = true → rcB c = good (rcP c) from fun h => by
      unfold rcB inB
      rw [HT.out, h, decide_eq_true HR1.out.1, decide_eq_true HR1.out.2]
      rfl)
    go_wp2_with (refine wpList_arstore (B := w4.heap.size) (l := List.replicate 46 0) (l' := List.replicate 46 (-1)) (ArO.of_heap (heap_alloc_new _ _) (Nat.le_refl _) (by simp)) rfl rfl rfl rfl (by simp) ?_; intro w5 hw5 hA5; have HA5 := Lib.hid hA5; have hb5 : Below w4.heap.size w4 w5 := (by rw [hw5]; exact bel_setRow ((Below.refl _ _).alloc (Nat.le_refl _) _) (Nat.le_refl _)); have y15 := (hb5.cell (p := ⟨w.heap.size, 1, none⟩) (by simp only []; omega)).trans y1; have BEL5 := Lib.hid hb5; clear hw5 hA5 hb5 Y1; go_simp)
    go_loopw [28] (fun iv wr => ∃ k : Nat, k ≤ c.i.length ∧ iv = .int .i64 k ∧ ArO wr w4.heap.size w4.heap.size (rgI 46 c.i k) ∧ (c.i.take k).Nodup ∧ Below w4.heap.size w4 wr) (fun i _ => c.i.length - (intOf i).toNat)
    case atStart => exact ⟨0, by omega, rfl, HA5.out, by simp, BEL5.out⟩
    case round =>
      obtain ⟨k, hk, rfl, hA, hnd, hbel⟩ := hrel
      have HA := Lib.hid hA
      have ND := Lib.hid hnd
      have BEL := Lib.hid hbel
      have HBW := Lib.hid (HB4.out.trans (hbel.mono (show w.heap.size ≤ w4.heap.size by omega)))
      have hszr : w4.heap.size + 1 ≤ wr.heap.size := by have := (own_block hA w4.heap.size rfl).2; omega
      by_cases hlt : k < c.i.length
      · have iqk : (k : Int) < (c.i.length : Int) := by omega
        obtain ⟨b, off, rfl, hb, hc⟩ := (H.out.below' HBW.out hB).1.int hlt
        obtain ⟨v0, v1⟩ := HIN.out _ (List.getElem_mem hlt)
        obtain ⟨v, hv⟩ : ∃ v : Nat, c.i[k] = v := ⟨(c.i[k]).toNat, by omega⟩
        have hv46 : v < 46 := by omega
        have iv46 : (v : Int) < 46 := by omega
        have IF := isFull_any w4.heap.size w4.heap.size v (rgI 46 c.i k) wr hv46 hA
        have hnf := nod_full hR46 HIN.out hlt
        obtain ⟨t, ht⟩ : ∃ t, hasI (c.i.take k) c.i[k] = t := ⟨_, rfl⟩
        rw [ht] at hnf
        have HT2 := Lib.hid ht
        rw [hv] at hnf hc
        rw [hnf] at IF
        have IF := Lib.hid IF
        have SUC := Lib.hid (show rgI 46 c.i (k + 1) = (rgI 46 c.i k).set v (k : Int) by rw [rgI_succ hlt, hv]; rfl)
        obtain ⟨t0, t1, t2, g0, g1, g2⟩ := cells3n ((hbel.block (w.heap.size + 1) (by omega)).trans Q4.out)
        have d0 := hA.at_ hv46
        have f0 := hA.frz (r := v)
        clear hA hnd hbel hv v0 v1 ht hnf
        go_wp2_with fail
        go_at_call 156
        refine IF.out.mono ?_
        rintro e w6 ⟨rfl, rfl⟩
        cases t with
        | true =>
          have EB := Lib.hid (rcB_dup (nod_hit hlt HT2.out))
          have ER := Lib.hid (rcR_false EB.out)
          clear d0 f0
          go_wp2
          refine bodyPost_ret (v := .tuple #[.agg #[.int .i64 0, .slice none 0 0, .slice none 0 0], .bool false]) (by simp [results, Try.results127, go_sem, t0, t1, t2]) rfl ⟨none, none, 0, 0, by rw [ER.out, EB.out]; rfl, by rw [ER.out]; exact OwP.zero _ _, ?_⟩
          exact ((HBW.out.setCell (by simp) _).setCell (by simp) _).setCell (by simp) _
        | false =>
          have N2 := Lib.hid (nod_take hlt ND.out HT2.out)
          clear t0 t1 t2 g0 g1 g2
          go_wp2
          go_roundw
          case rel => exact ⟨k + 1, by omega, by go_num, by rw [SUC.out]; exact HA.out.set _, N2.out, BEL.out.setCell (Nat.le_refl _) _⟩
          case measure => simp [intOf]; omega
      · have hk' : k = c.i.length := by omega
        have NOD := Lib.hid (show nodI c.i = true by have := ND.out; rw [hk', List.take_length] at this; exact decide_eq_true this)
        have EQ := Lib.hid (EQB.out NOD.out)
        have HA0 := Lib.hid (show ArO wr w4.heap.size w4.heap.size (rcA 46 c 0) by have h := HA.out; rw [hk'] at h; exact h)
        have z1 := (hbel.cell (p := ⟨w.heap.size, 1, none⟩) (by simp only []; omega)).trans y1
        have z2 := (hbel.cell (p := ⟨w.heap.size, 2, none⟩) (by simp only []; omega)).trans y2
        have z3 := (hbel.cell (p := ⟨w.heap.size, 3, none⟩) (by simp only []; omega)).trans y3
        have Q5 := Lib.hid ((hbel.block (w.heap.size + 1) (by omega)).trans Q4.out)
        clear hA hnd hbel ND HA hk'
        obtain ⟨w5, hw5⟩ : ∃ x, wr = x := ⟨_, rfl⟩
        rw [hw5] at hszr HBW HA0 BEL z1 z2 z3 Q5 ⊢
        clear hw5
        have Z2 := cell_kept z2
        go_wp2
        clear Z2
        have z35 := z3
        generalize hw6 : World.alloc w5 _ = w6
        have MK := Lib.hid (MkS.new hw6)
        have hb6 : Below w5.heap.size w5 w6 := by rw [← hw6]; exact (Below.refl _ _).alloc (Nat.le_refl _) _
        have z2 := (hb6.cell (p := ⟨w.heap.size, 2, none⟩) (by simp only []; omega)).trans z2
        have z3 := (hb6.cell (p := ⟨w.heap.size, 3, none⟩) (by simp only []; omega)).trans z3
        have HA6 := Lib.hid (HA0.out.below hb6)
        have HB6 := Lib.hid hb6
        have hs6 : w5.heap.size + 1 = w6.heap.size := by rw [← hw6]; simp
        clear hw6 hb6 z1 y1 y2 y3
        go_loopw [47] (fun iv wr => ∃ n : Nat, n ≤ c.ops.length ∧ iv = .int .i64 n ∧ MkS wr w5.heap.size w5.heap.size (c.i.length : Int) (rgS (rgI 46 c.i c.i.length) c.i.length c.ops n) ∧ ArO wr w4.heap.size w4.heap.size (rcA 46 c n) ∧ Below w4.heap.size w5 wr) (fun i _ => c.ops.length - (intOf i).toNat)
        case atStart => exact ⟨0, by omega, rfl, MK.out, HA6.out, HB6.out.mono (by omega)⟩
        case round =>
          obtain ⟨n, hn, rfl, hM, hA, hbel⟩ := hrel
          have hszm : w5.heap.size + 1 ≤ wr.heap.size := by have := hM.lt; omega
          have MM := Lib.hid hM
          have AA := Lib.hid hA
          have BL := Lib.hid hbel
          have HBWr := Lib.hid (HBW.out.trans (hbel.mono (show w.heap.size ≤ w4.heap.size by omega)))
          by_cases hlt : n < c.ops.length
          · have iqn : (n : Int) < (c.ops.length : Int) := by omega
            obtain ⟨b, off, rfl, hb, hc1, hc2, hc3⟩ := (H.out.below' HBWr.out hB).2.1.op hlt
            obtain ⟨t, a, d, hx, ht, ha, hd⟩ := opIn_nat (HOP.out _ (List.getElem_mem hlt))
            have SUA := Lib.hid (show rcA 46 c (n + 1) = (rcA 46 c n).set t (((c.i.length + n : Nat) : Int)) by rw [rcA_succ hlt, hx]; rfl)
            obtain ⟨va, hva⟩ : ∃ v, reg (rcA 46 c n) (a : Int) = v := ⟨_, rfl⟩
            obtain ⟨vd, hvd⟩ : ∃ v, reg (rcA 46 c n) (d : Int) = v := ⟨_, rfl⟩
            have SUS := Lib.hid (show rgS (rgI 46 c.i c.i.length) c.i.length c.ops (n + 1) = rgS (rgI 46 c.i c.i.length) c.i.length c.ops n ++ [stI va vd] by
              rw [rgS_succ hlt, hx]
              show _ ++ [stI (reg (rcA 46 c n) (a : Int)) (reg (rcA 46 c n) (d : Int))] = _
              rw [hva, hvd])
            rw [hx] at hc1 hc2 hc3
            simp only at hc1 hc2 hc3
            have da := hA.at_ (show a < 46 by omega)
            have dd := hA.at_ (show d < 46 by omega)
            rw [hva] at da
            rw [hvd] at dd
            have ia46 : (a : Int) < 46 := by omega
            have id46 : (d : Int) < 46 := by omega
            have it46 : (t : Int) < 46 := by omega
            have hgs := (own_block hA w4.heap.size rfl).2
            have HVA := Lib.hid hva
            have HVD := Lib.hid hvd
            clear hx hva hvd hM hA hbel
            go_wp2
            generalize hw7 : World.alloc wr _ = w7
            have OB := Lib.hid (show w7.ownsRow wr.heap.size 88 1 (.slice (some ⟨wr.heap.size, 0, none⟩) 3 3) 3 [I t, I a, I d] by rw [← hw7]; exact World.ownsRow_lit wr #[.int .i64 t, .int .i64 a, .int .i64 d] 3 (Nat.le_refl _) (by unfold maxLen; omega) rfl)
            obtain ⟨⟨e0, e1, e2⟩, es, eb⟩ := box3' hw7
            clear hw7
            have ga := (eb.cell (p := ⟨w4.heap.size, a, none⟩) hgs).trans da
            have gd := (eb.cell (p := ⟨w4.heap.size, d, none⟩) hgs).trans dd
            have S0 := Lib.hid (show w7.drew.cell? ⟨wr.heap.size, 0, none⟩ = some (.int .i64 t) ∧ w7.drew.cell? ⟨wr.heap.size, 1, none⟩ = some (.int .i64 a) ∧ w7.drew.cell? ⟨wr.heap.size, 2, none⟩ = some (.int .i64 d) ∧ w7.drew.cell? ⟨w4.heap.size, a, none⟩ = some (.int .i64 va) ∧ w7.drew.cell? ⟨w4.heap.size, d, none⟩ = some (.int .i64 vd) from ⟨e0, e1, e2, ga, gd⟩)
            have MM7 := Lib.hid (MM.out.below eb)
            have AA7 := Lib.hid (AA.out.below eb)
            have BL7 := Lib.hid (BL.out.trans (eb.mono (by omega)))
            have hs7 : wr.heap.size + 1 = w7.heap.size := es.symm
            clear e0 e1 e2 eb es da dd ga gd hc1 hc2 hc3 z2 z3
            refine wp_region_T (fun x : World => x.cell? ⟨wr.heap.size, 0, none⟩ = some (.int .i64 t) ∧ x.cell? ⟨wr.heap.size, 1, none⟩ = some (.int .i64 a) ∧ x.cell? ⟨wr.heap.size, 2, none⟩ = some (.int .i64 d) ∧ x.cell? ⟨w4.heap.size, a, none⟩ = some (.int .i64 va) ∧ x.cell? ⟨w4.heap.size, d, none⟩ = some (.int .i64 vd)) [0, 1, 2, 3, 4, 5, 6, 7, 8, 9, 11] [1, 3, 5, 7, 9] (.lp 0 (.lp 2 (.lp 6 (.ls 1 (.ls 3 (.lp 4 (.ls 5 (.ls 7 (.lp 8 (.ls 9 (.hv 10 (.lp 11 (.hv 12 (.done)))))))))))))) (by kernel_rfl) (by kernel_rfl) ?_
            (repeat (refine T_lp rfl (fun K hK => ?_); go_simp; refine hK _ ?_; clear hK K))
            refine T_ls1 (v := .int .i64 t) rfl rfl S0.out (fun x hx => (by obtain ⟨h0, h1, h2, h3, h4⟩ := hx; go_simp)) (fun K hK => ?_)
            (go_simp; refine hK _ ?_; clear hK K)
            refine T_ls1 (v := .int .i64 a) rfl rfl S0.out (fun x hx => (by obtain ⟨h0, h1, h2, h3, h4⟩ := hx; go_simp)) (fun K hK => ?_)
            (go_simp; refine hK _ ?_; clear hK K)
            (repeat (refine T_lp rfl (fun K hK => ?_); go_simp; refine hK _ ?_; clear hK K))
            refine T_ls1 (v := .int .i64 va) rfl rfl S0.out (fun x hx => (by obtain ⟨h0, h1, h2, h3, h4⟩ := hx; go_simp)) (fun K hK => ?_)
            (go_simp; refine hK _ ?_; clear hK K)
            refine T_ls1 (v := .int .i64 d) rfl rfl S0.out (fun x hx => (by obtain ⟨h0, h1, h2, h3, h4⟩ := hx; go_simp)) (fun K hK => ?_)
            (go_simp; refine hK _ ?_; clear hK K)
            (repeat (refine T_lp rfl (fun K hK => ?_); go_simp; refine hK _ ?_; clear hK K))
            refine T_ls1 (v := .int .i64 vd) rfl rfl S0.out (fun x hx => (by obtain ⟨h0, h1, h2, h3, h4⟩ := hx; go_simp)) (fun K hK => ?_)
            (go_simp; refine hK _ ?_; clear hK K)
            refine T_hvS rfl (fun K hK => ?_)
            go_simp
            go_at_call 157
            have lst := rgS_len (rgI 46 c.i c.i.length) c.i.length c.ops n
            have hmu := makerMul_any w5.heap.size w5.heap.size (c.i.length : Int) (rgS (rgI 46 c.i c.i.length) c.i.length c.ops n) va vd w7.drew (Nat.le_refl _) (MM7.out.below (Below.refl _ w7).drew) (by omega) (by omega) (by omega)
            rw [lst] at hmu
            refine hmu.mono ?_
            rintro e w8 ⟨rfl, hM8, hb8, hkp⟩
            clear hmu lst
            have hb78 : Below w5.heap.size w7 w8 := ((show Below w7.heap.size w7 w7.drew from (Below.refl _ _).drew).mono (show w5.heap.size ≤ w7.heap.size by omega)).trans hb8
            have AA8 := Lib.hid (show ArO w8 w4.heap.size w4.heap.size (rcA 46 c n) from own_lowC AA7.out (fun k h => by simp only [Value.ownBlock, Option.some.injEq] at h; omega) hb78)
            have MM8 := Lib.hid hM8
            have BL8 := Lib.hid (BL7.out.trans (hb78.mono (by omega)))
            have ob8 := hkp.1 _ _ _ _ _ _ (by decide) (by decide) (show w7.drew.ownsRow _ _ _ _ _ _ from OB.out)
            have da8 := AA8.out.at_ (show a < 46 by omega)
            have dd8 := AA8.out.at_ (show d < 46 by omega)
            rw [HVA.out] at da8
            rw [HVD.out] at dd8
            have S8 := Lib.hid (show w8.cell? ⟨wr.heap.size, 0, none⟩ = some (.int .i64 t) ∧ w8.cell? ⟨wr.heap.size, 1, none⟩ = some (.int .i64 a) ∧ w8.cell? ⟨wr.heap.size, 2, none⟩ = some (.int .i64 d) ∧ w8.cell? ⟨w4.heap.size, a, none⟩ = some (.int .i64 va) ∧ w8.cell? ⟨w4.heap.size, d, none⟩ = some (.int .i64 vd) from ⟨ob8.cellAt 0 (by omega), ob8.cellAt 1 (by omega), ob8.cellAt 2 (by omega), da8, dd8⟩)
            clear ob8 da8 dd8 hkp
            have d8 := AA8.out.at_ (show t < 46 by omega)
            have f8 := AA8.out.frz (r := t)
            clear hM8 hb8 hb78
            go_simp
            refine hK _ _ S8.out ?_
            clear hK K
            (repeat (refine T_lp rfl (fun K hK => ?_); go_simp; refine hK _ ?_; clear hK K))
            (refine T_hv rfl (by kernel_rfl) (fun K hK => ?_); go_simp; refine hK _ _ ?_; clear hK K)
            refine T_done ?_
            go_wp2
            go_roundw
            case rel =>
              refine ⟨n + 1, by omega, by go_num, ?_, ?_, BL8.out.setCell (Nat.le_refl _) _⟩
              · obtain ⟨A9, c9, h1, h2⟩ := MM8.out
                rw [SUS.out]
                exact ⟨A9, c9, (Below.heap_setCell _ _ _ _ (by simp only []; omega)).trans h1, own_set h2 AA8.out.heap (by decide) _⟩
              · rw [SUA.out]
                have e : ((c.i.length + n : Nat) : Int) = (c.i.length : Int) + (n : Int) := by push_cast; rfl
                rw [e]
                exact AA8.out.set _
            case measure => simp [intOf]; omega
          · have hn' : n = c.ops.length := by omega
            have z3r := (BL.out.cell (p := ⟨w.heap.size, 3, none⟩) (by simp only []; omega)).trans z35
            have Q5r := Lib.hid ((BL.out.block (w.heap.size + 1) (by omega)).trans Q5.out)
            have LS := Lib.hid (show (rcP c).s.length = c.ops.length from rgS_len _ _ _ _)
            have LO := Lib.hid (show (rcP c).o.length = c.o.length from List.length_map _)
            have MMn := Lib.hid (show MkS wr w5.heap.size w5.heap.size (rcP c).n (rcP c).s by have h := MM.out; rw [hn'] at h; exact h)
            have hrn := fun W (hW : Below wr.heap.size wr W) => renamedL_any wr.heap.size A3 (some ⟨w4.heap.size, 0, none⟩) c3 46 c.o (rcA 46 c n) W hl3 hW.size (by rw [rcA_len]; intro x hx; have := HOU.out x hx; omega) (((H.out.below' HBWr.out hB).2.2.more (by have := HBWr.out.size; omega)).below hW) (AA.out.rd.below hW)
            rw [rcA_len, names_reg (by rw [rcA_len]; intro x hx; have := HOU.out x hx; omega)] at hrn
            have RN := Lib.hid hrn
            have FS := Lib.hid (show ∀ x, Below wr.heap.size wr x → x.cell? ⟨w.heap.size, 3, none⟩ = some (.slice A3 c.o.length c3) from fun x hx => (hx.cell (p := ⟨w.heap.size, 3, none⟩) (by simp only []; omega)).trans z3r)
            have S0 := Lib.hid (show Below wr.heap.size wr wr.drew from (Below.refl _ _).drew)
            clear hrn z3r z35 z2 z3 hM hA hbel
            go_wp2
            refine wp_region_T (fun x : World => Below wr.heap.size wr x) [0, 1, 2, 5, 6, 8] [1] (.lp 0 (.lp 2 (.ls 1 (.hv 3 (.hv 4 (.lp 5 (.lp 6 (.hv 7 (.lp 8 (.done)))))))))) (by kernel_rfl) (by kernel_rfl) ?_
            (repeat (refine T_lp rfl (fun K hK => ?_); go_simp; refine hK _ ?_; clear hK K))
            refine T_ls1 (v := .slice A3 c.o.length c3) rfl rfl S0.out (fun x hx => (by have h0 := FS.out x hx; go_simp)) (fun K hK => ?_)
            (go_simp; refine hK _ ?_; clear hK K)
            refine T_hvS rfl (fun K hK => ?_)
            go_simp
            go_at_call 98
            refine (RN.out wr.drew S0.out).mono ?_
            rintro e w7 ⟨D, d', rfl, hO, hb7⟩
            have S7 := Lib.hid (S0.out.trans (hb7.mono (by simp)))
            have OO := Lib.hid (show OwI w7 w5.heap.size (.slice D (rcP c).o.length d') (rcP c).o by
              have e : (rcP c).o = c.o.map (reg (rcA 46 c n)) := by rw [hn']; rfl
              rw [e, List.length_map]
              exact own_base hO (by simp; omega))
            have hpl := makerPlan_any w5.heap.size w5.heap.size D d' (rcP c) w7 (Nat.le_refl _) (MMn.out.below S7.out) OO.out (by rw [LS.out]; omega) (by rw [LO.out]; omega)
            rw [LO.out] at hpl
            have HPL := Lib.hid hpl
            go_simp
            refine hK _ _ S7.out ?_
            clear hK K hO hb7 hpl
            refine T_hvS rfl (fun K hK => ?_)
            go_simp
            go_at_call 158
            refine HPL.out.mono ?_
            rintro e w8 ⟨R1, R2, v1, v2, rfl, hP, hb8⟩
            have S8 := Lib.hid (S7.out.trans (hb8.mono S7.out.size))
            have PP := Lib.hid (OwP.base hP (show w.heap.size ≤ w5.heap.size by omega))
            have Q8 := Lib.hid ((S8.out.block (w.heap.size + 1) (by omega)).trans Q5r.out)
            obtain ⟨t0, t1, t2, g0, g1, g2⟩ := cells3n Q8.out
            have HB8 := Lib.hid (HBWr.out.trans (S8.out.mono HBWr.out.size))
            have ER := Lib.hid (show rcR c = mkR (rcP c) by unfold rcR mkR; rw [EQ.out])
            go_simp
            refine hK _ _ S8.out ?_
            clear hK K hb8 hP
            obtain ⟨m, hm⟩ : ∃ m, mkR (rcP c) = m := ⟨_, rfl⟩
            obtain ⟨gb, hgb⟩ : ∃ b, good (rcP c) = b := ⟨_, rfl⟩
            have er := ER.out
            have eb := EQ.out
            have pp := PP.out
            rw [hm] at er pp ⊢
            rw [hgb] at eb ⊢
            have ER := Lib.hid er
            have EB := Lib.hid eb
            have PP := Lib.hid pp
            clear er eb pp hm hgb
            (repeat (refine T_lp rfl (fun K hK => ?_); go_simp; refine hK _ ?_; clear hK K))
            (refine T_hv rfl (by kernel_rfl) (fun K hK => ?_); go_simp; refine hK _ _ ?_; clear hK K)
            (repeat (first | (refine T_lp rfl (fun K hK => ?_); go_simp; refine hK _ ?_; clear hK K) | (refine T_ls rfl rfl (fun K hK => ?_); go_simp; refine hK _ ?_; clear hK K)))
            refine T_done ?_
            go_wp2
            refine bodyPost_ret (v := .tuple #[.agg #[.int .i64 m.n, .slice R1 m.s.length v1, .slice R2 m.o.length v2], .bool gb]) (by simp [results, Try.results127, go_sem, t0, t1, t2]) rfl ⟨R1, R2, v1, v2, by rw [ER.out, EB.out], ?_, ?_⟩
            · rw [ER.out]
              exact ⟨own_set3 PP.out.1 Q8.out (by decide) _ _ _, own_set3 PP.out.2 Q8.out (by decide) _ _ _⟩
            · exact ((HB8.out.setCell (by simp) _).setCell (by simp) _).setCell (by simp) _
end Go.Proofs.Ytbbjgcagkmlngab
/- Whether it is code, by the program; runs and checks of code. -/
namespace Go.Proofs.Ytbbjgcagkmlngab
open Go.RowKit

theorem bx3r {w w1 : World} {a b c : Value} {t : TypeId} (h : w.alloc (.cells #[a, b, c] t) = w1) :
    (w1.cell? ⟨w.heap.size, 0, none⟩ = some a ∧ w1.cell? ⟨w.heap.size, 1, none⟩ = some b ∧ w1.cell? ⟨w.heap.size, 2, none⟩ = some c) ∧ w1.heap.size = w.heap.size + 1 ∧ Below w.heap.size w w1 := box3' h

set_option maxRecDepth 100000 in
set_option maxHeartbeats 2000000 in
theorem implIsRc_any (B : Nat) (A1 A2 A3 : Option Addr) (c1 c2 c3 : Nat) (c : Rc) (w : World) (hB : B ≤ w.heap.size) (hl1 : c.i.length ≤ 1048576) (hl2 : c.ops.length ≤ 1048576) (hl3 : c.o.length ≤ 1048576) (hcap : c.i.length ≤ c1 ∧ c.ops.length ≤ c2 ∧ c.o.length ≤ c3) (hr : RdC w B A1 A2 A3 c) :
    Calls Try.prog 75 #[.agg #[.int .i64 c.r, .slice A1 c.i.length c1, .slice A2 c.ops.length c2, .slice A3 c.o.length c3]] w fun e w' => e = .returned (.bool (rcB c)) ∧ Below w.heap.size w w' := by
  have H := Lib.hid hr
  have RP := Lib.hid (fun W hW hrW => implRcPlan_any B A1 A2 A3 c1 c2 c3 c W hW hl1 hl2 hl3 hcap hrW)
  clear hr hcap
  go_enter Try.func75, Try.ntmps75
  go_wp2_with fail
  go_at_call 127
  generalize hw1 : World.alloc w _ = w1
  obtain ⟨_, xs, xb⟩ := bx4r hw1
  clear hw1
  refine (RP.out w1 (by omega) (H.out.below' xb hB)).mono ?_
  rintro e w2 ⟨E1, E2, e1, e2, rfl, hV, hb⟩
  have HB := Lib.hid (xb.trans (hb.mono (by omega)))
  clear hV hb xb
  go_wp2
  go_ret
  exact ⟨rfl, HB.out.alloc HB.out.size _⟩
end Go.Proofs.Ytbbjgcagkmlngab
/- Values that are there and needed, by the program, whatever tells which values are there. -/
namespace Go.Proofs.Ytbbjgcagkmlngab
open Go.RowKit

/-- What is asked of the function that tells which values are there. -/
def Here (gf : Nat) (lf : Array Value) (f : Nat → Bool) (R : Nat) (w : World) : Prop :=
  ∀ (W : World) (n : Nat), Below w.heap.size w W → n < R → Calls Try.prog gf (#[.int .i64 (n : Int)] ++ lf) W fun e w' => e = .returned (.bool (f n)) ∧ Below W.heap.size W w'
theorem Here.below {gf : Nat} {lf : Array Value} {f : Nat → Bool} {R : Nat} {w w' : World} (h : Here gf lf f R w) (hb : Below w.heap.size w w') : Here gf lf f R w' :=
  fun W n hW hn => h W n (hb.trans (hW.mono hb.size)) hn

/-- One of the first j uses is a step whose value is not there. -/
def wtK (N : Nat) (f : Nat → Bool) (l : List Int) (j : Nat) : Bool := (l.take j).any fun i => !f (N + i.toNat)
theorem wtK_succ {N : Nat} {f : Nat → Bool} {l : List Int} {j : Nat} (h : j < l.length) : wtK N f l (j + 1) = (wtK N f l j || !f (N + l[j].toNat)) := by
  unfold wtK
  rw [List.take_succ_eq_append_getElem h, List.any_append]
  simp
theorem wtK_mono {N : Nat} {f : Nat → Bool} {l : List Int} {j : Nat} (h : wtK N f l j = true) : wtK N f l l.length = true := by
  unfold wtK at h ⊢
  rw [List.any_eq_true] at h ⊢
  obtain ⟨x, hx, h2⟩ := h
  exact ⟨x, by rw [List.take_length]; exact List.mem_of_mem_take hx, h2⟩

set_option maxRecDepth 100000 in
set_option maxHeartbeats 1000000 in
theorem waits_any (gf : Nat) (lf : Array Value) (ef : ∀ args w, (callFunc gf args).run Try.prog w = .ok (.enter gf args) w) (f : Nat → Bool) (R N g1 g2 x : Nat) (w : World) (hN : N ≤ 1000) (hx : N + x < R) (hR : R ≤ 1000) (h1 : w.cell? ⟨g1, 0, none⟩ = some (.func (.func gf) #[] lf)) (h2 : w.cell? ⟨g2, 0, none⟩ = some (.int .i64 N)) (H : Here gf lf f R w) :
    Calls Try.prog 161 #[.int .i64 (x : Int), .pointer (some ⟨g1, 0, none⟩), .pointer (some ⟨g2, 0, none⟩)] w fun e w' => e = .returned (.bool (!f (N + x))) ∧ Below w.heap.size w w' := by
  have HC := H w (N + x) (Below.refl _ _) hx
  have hw1 : IntKind.i64.wrap ((N : Int) + (x : Int)) = ((N + x : Nat) : Int) := by rw [IntWalk.i64_in _ (by omega)]; omega
  obtain ⟨t, ht⟩ : ∃ t, f (N + x) = t := ⟨_, rfl⟩
  rw [ht] at HC
  rw [ht]
  obtain ⟨M, hM⟩ : ∃ M, N + x = M := ⟨_, rfl⟩
  rw [hM] at hw1 HC
  have HC := Lib.hid HC
  clear H ht hx hM
  go_enter Try.func161, Try.ntmps161
  go_wp2_with fail
  go_at_fn gf
  refine HC.out.mono ?_
  rintro e w2 ⟨rfl, hb⟩
  have HB := Lib.hid hb
  clear hb h1 h2
  go_wp2
  go_ret
  exact ⟨by cases t <;> rfl, HB.out⟩

set_option maxRecDepth 100000 in
set_option maxHeartbeats 2000000 in
theorem indexWaits_any (B gf : Nat) (lf : Array Value) (ef : ∀ args w, (callFunc gf args).run Try.prog w = .ok (.enter gf args) w) (f : Nat → Bool) (R N g1 g2 : Nat) (A : Option Addr) (c : Nat) (l : List Int) (w : World) (hN : N ≤ 1000) (hR : R ≤ 1000) (hB : B ≤ w.heap.size) (hin : ∀ x ∈ l, 0 ≤ x ∧ (N : Int) + x < R) (hl : l.length ≤ 1000)
    (h1 : w.cell? ⟨g1, 0, none⟩ = some (.func (.func gf) #[] lf)) (h2 : w.cell? ⟨g2, 0, none⟩ = some (.int .i64 N)) (h1s : g1 < w.heap.size) (h2s : g2 < w.heap.size) (HH : Here gf lf f R w) (hr : Rd w B 1 A l.length (l.map I)) :
    Calls Try.prog 175 #[.slice A l.length c, .func (.func 161) #[] #[.pointer (some ⟨g1, 0, none⟩), .pointer (some ⟨g2, 0, none⟩)]] w fun e w' => (∃ i : Int, e = .returned (.int .i64 i) ∧ decide (0 ≤ i) = wtK N f l l.length) ∧ Below w.heap.size w w' := by
  have H := Lib.hid hr
  have HIN := Lib.hid hin
  have W0 := Lib.hid (fun (x : Nat) (W : World) (hW : Below w.heap.size w W) (hx : N + x < R) => waits_any gf lf ef f R N g1 g2 x W hN hx hR ((hW.cell (p := ⟨g1, 0, none⟩) h1s).trans h1) ((hW.cell (p := ⟨g2, 0, none⟩) h2s).trans h2) (HH.below hW))
  clear hr h1 h2 HH hin
  go_enter Try.func175, Try.ntmps175
  go_wp2
  go_loopw [8] (fun iv wr => ∃ j : Nat, j ≤ l.length ∧ iv = .int .i64 j ∧ wtK N f l j = false ∧ Below w.heap.size w wr) (fun i _ => l.length - (intOf i).toNat)
  case atStart => exact ⟨0, by omega, rfl, rfl, Below.refl _ _⟩
  case round =>
    obtain ⟨j, hj, rfl, hno, hbel⟩ := hrel
    by_cases hlt : j < l.length
    · have iqk : (j : Int) < (l.length : Int) := by omega
      obtain ⟨b, off, rfl, hb, hc⟩ := (H.out.below' hbel hB).int hlt
      have hno2 := wtK_succ (N := N) (f := f) hlt
      rw [hno, Bool.false_or] at hno2
      obtain ⟨hx0, hxR⟩ := HIN.out _ (List.getElem_mem hlt)
      obtain ⟨x, hx⟩ : ∃ x : Nat, l[j] = (x : Int) := ⟨l[j].toNat, by omega⟩
      rw [hx] at hc hno2
      rw [Int.toNat_natCast] at hno2
      have HB := W0.out x wr hbel (by omega)
      obtain ⟨t, ht⟩ : ∃ t, (!f (N + x)) = t := ⟨_, rfl⟩
      rw [ht] at hno2 HB
      have HB := Lib.hid HB
      have NO2 := Lib.hid hno2
      have BEL := Lib.hid hbel
      have hsz := hbel.size
      clear hno hno2 hx ht hbel hx0 hxR
      go_wp2_with fail
      refine HB.out.mono ?_
      rintro e w5 ⟨rfl, hb5⟩
      have BEL5 := Lib.hid (BEL.out.trans (hb5.mono hsz))
      clear hb5
      cases t with
      | true =>
        go_wp2
        go_ret
        refine ⟨⟨_, rfl, ?_⟩, BEL5.out⟩
        rw [wtK_mono NO2.out]
        exact decide_eq_true (by omega)
      | false =>
        go_wp2
        go_roundw
        case rel => exact ⟨j + 1, by omega, by go_num, NO2.out, BEL5.out⟩
        case measure => simp [intOf]; omega
    · have hj' : j = l.length := by omega
      subst hj'
      go_wp2
      go_ret
      exact ⟨⟨_, rfl, by rw [hno]; rfl⟩, hbel⟩

set_option maxRecDepth 100000 in
set_option maxHeartbeats 1000000 in
theorem containsWaits_any (B gf : Nat) (lf : Array Value) (ef : ∀ args w, (callFunc gf args).run Try.prog w = .ok (.enter gf args) w) (f : Nat → Bool) (R N g1 g2 : Nat) (A : Option Addr) (c : Nat) (l : List Int) (w : World) (hN : N ≤ 1000) (hR : R ≤ 1000) (hB : B ≤ w.heap.size) (hin : ∀ x ∈ l, 0 ≤ x ∧ (N : Int) + x < R) (hl : l.length ≤ 1000)
    (h1 : w.cell? ⟨g1, 0, none⟩ = some (.func (.func gf) #[] lf)) (h2 : w.cell? ⟨g2, 0, none⟩ = some (.int .i64 N)) (h1s : g1 < w.heap.size) (h2s : g2 < w.heap.size) (HH : Here gf lf f R w) (hr : Rd w B 1 A l.length (l.map I)) :
    Calls Try.prog 163 #[.slice A l.length c, .func (.func 161) #[] #[.pointer (some ⟨g1, 0, none⟩), .pointer (some ⟨g2, 0, none⟩)]] w fun e w' => e = .returned (.bool (wtK N f l l.length)) ∧ Below w.heap.size w w' := by
  have HI := Lib.hid (indexWaits_any B gf lf ef f R N g1 g2 A c l w hN hR hB hin hl h1 h2 h1s h2s HH hr)
  clear hr h1 h2 HH hin
  go_enter Try.func163, Try.ntmps163
  go_wp2_with fail
  go_at_call 175
  refine HI.out.mono ?_
  rintro e w2 ⟨⟨i, rfl, hi⟩, hb⟩
  have HII := Lib.hid hi
  have HB := Lib.hid hb
  clear hi hb
  go_wp2
  go_ret
  exact ⟨by rw [← HII.out]; rfl, HB.out⟩

theorem lgB_any (N : Nat) (s : List (Int × Int)) (o : List Int) (f : Nat → Bool) (v : Int) : lgB N s o f v = (decide (0 < (usO o v o.length).length) || wtK N f (usS s v s.length) (usS s v s.length).length) := by
  unfold lgB wtK
  rw [List.take_length]
theorem box4w {w w1 : World} {a b c d : Value} {t : TypeId} (h : w.alloc (.cells #[a, b, c, d] t) = w1) :
    (w1.cell? ⟨w.heap.size, 0, none⟩ = some a ∧ w1.cell? ⟨w.heap.size, 1, none⟩ = some b ∧ w1.cell? ⟨w.heap.size, 2, none⟩ = some c ∧ w1.cell? ⟨w.heap.size, 3, none⟩ = some d) ∧ w1.heap.size = w.heap.size + 1 ∧ Below w.heap.size w w1 :=
  let ⟨h0, h1, h2, h3, hs, hb⟩ := box4 h
  ⟨⟨h0, h1, h2, h3⟩, hs, hb⟩
theorem box1w {w w1 : World} {a : Value} {t : TypeId} (h : w.alloc (.cells #[a] t) = w1) :
    w1.cell? ⟨w.heap.size, 0, none⟩ = some a ∧ w1.heap.size = w.heap.size + 1 ∧ Below w.heap.size w w1 := by
  subst h
  refine ⟨?_, by simp, (Below.refl _ _).alloc (Nat.le_refl _) _⟩
  rw [World.cell?_alloc_at _ _ _ _ rfl]; rfl
theorem usS_inI (s : List (Int × Int)) (v : Int) : ∀ x ∈ usS s v s.length, 0 ≤ x ∧ x < s.length := by
  intro x hx
  obtain ⟨i, h1, rfl, _⟩ := mem_usS.1 hx
  omega

set_option maxRecDepth 100000 in
set_option maxHeartbeats 8000000 in
theorem live_any (B N R gf : Nat) (lf : Array Value) (ef : ∀ args w, (callFunc gf args).run Try.prog w = .ok (.enter gf args) w) (f : Nat → Bool) (A1 A2 A : Option Addr) (c1 c2 c : Nat) (p : Pl) (w : World) (hs40 : p.s.length ≤ 40) (ho6 : p.o.length ≤ 6) (hN : N ≤ 6) (hR : R = N + p.s.length) (hB : B ≤ w.heap.size) (hr : RdP w B A1 A2 p) (HH : Here gf lf f R w) :
    Calls Try.prog 137 #[.agg #[.int .i64 N, .slice A1 p.s.length c1, .slice A2 p.o.length c2, .slice A R c], .func (.func gf) #[] lf] w fun e w' =>
      ∃ A' c', e = .returned (.slice A' (lg N p.s p.o f).length c') ∧ OwI w' w.heap.size (.slice A' (lg N p.s p.o f).length c') (lg N p.s p.o f) ∧ (lg N p.s p.o f = [] → A' = none ∧ c' = 0) ∧ Below w.heap.size w w' := by
  have US := Lib.hid (fun W hW hr => allUses_any B N R A1 A2 A c1 c2 c p W hs40 ho6 (by omega) hW hr)
  have H := Lib.hid hr
  have EL := Lib.hid (show lg N p.s p.o f = lgK N p.s p.o f R by unfold lg; rw [hR])
  have hR46 : R ≤ 46 := by omega
  have HUI := Lib.hid (fun v => (fun x hx => ⟨(usS_inI p.s v x hx).1, by have := (usS_inI p.s v x hx).2; omega⟩ : ∀ x ∈ usS p.s v p.s.length, 0 ≤ x ∧ (N : Int) + x < R))
  have HH0 := Lib.hid HH
  clear hr hR HH
  go_enter Try.func137, Try.ntmps137
  go_wp2_with fail
  go_at_call 162
  generalize hw1 : World.alloc w _ = w1
  obtain ⟨⟨x0, x1, x2, x3⟩, xs, xb⟩ := box4w hw1
  clear hw1
  generalize hw2 : World.alloc w1 _ = w2
  obtain ⟨y0, ys, yb⟩ := box1w hw2
  clear hw2
  rw [xs] at y0
  have x0 := (yb.cell (p := ⟨w.heap.size, 0, none⟩) (by simp only []; omega)).trans x0
  have HB2 := Lib.hid (xb.trans (yb.mono (by omega)))
  have hs2 : w.heap.size + 2 = w2.heap.size := by omega
  clear x1 x2 x3 xs xb ys yb
  refine (US.out w2 (by omega) (H.out.below' HB2.out hB)).mono ?_
  rintro e w3 ⟨A3, c3, fo, fs, rfl, hU, hb3⟩
  have HU := Lib.hid hU
  have HB3 := Lib.hid (HB2.out.trans (hb3.mono (by omega)))
  have x0 := (hb3.cell (p := ⟨w.heap.size, 0, none⟩) (by simp only []; omega)).trans x0
  have y0 := (hb3.cell (p := ⟨w.heap.size + 1, 0, none⟩) (by simp only []; omega)).trans y0
  have hs3 : w.heap.size + 2 ≤ w3.heap.size := by have := hb3.size; omega
  have icap : (R : Int) ≤ (c3 : Int) := by have := own_cap hU.1; omega
  clear hU hb3 hs2
  go_wp2
  go_loopw [6, 13] (fun ov iv wr => ∃ (j : Nat) (A4 : Option Addr) (c4 : Nat), j ≤ R ∧ iv = .int .i64 j ∧ ov = .slice A4 (lgK N p.s p.o f j).length c4 ∧ wr.ownsRow w3.heap.size 3 1 (.slice A4 (lgK N p.s p.o f j).length c4) (lgK N p.s p.o f j).length ((lgK N p.s p.o f j).map I) ∧ (lgK N p.s p.o f j = [] → A4 = none ∧ c4 = 0) ∧ Below w3.heap.size w3 wr) (fun _ i _ => R - (intOf i).toNat)
  case atStart => exact ⟨0, none, 0, by omega, rfl, rfl, by simpa [lgK] using World.ownsRow_nil _ _ _ _, fun _ => ⟨rfl, rfl⟩, Below.refl _ _⟩
  case round =>
    obtain ⟨j, A4, c4, hj, rfl, rfl, hown, hnil, hbel⟩ := hrel
    have hsz : w3.heap.size ≤ wr.heap.size := hbel.size
    have hle := lgK_le N p.s p.o f j
    by_cases hlt : j < R
    · have iqj : (j : Int) < (R : Int) := by omega
      have hUr := HU.out.below hbel
      obtain ⟨g, rfl, _, hg4, d0, d1⟩ := hUr.at_ hlt
      have hS := (hUr.2 j hlt).2.rd
      have l1 := usS_le p.s (j : Int) p.s.length
      have hlv := lgB_any N p.s p.o f (j : Int)
      have z0 := (hbel.cell (p := ⟨w.heap.size, 0, none⟩) (by simp only []; omega)).trans x0
      have z1 := (hbel.cell (p := ⟨w.heap.size + 1, 0, none⟩) (by simp only []; omega)).trans y0
      obtain ⟨a1, ha1⟩ : ∃ a, fo j = a := ⟨_, rfl⟩
      obtain ⟨a2, ha2⟩ : ∃ a, fs j = a := ⟨_, rfl⟩
      rw [ha1] at d0
      rw [ha2] at d1 hS
      have HBW := Lib.hid (HB3.out.trans (hbel.mono (show w.heap.size ≤ w3.heap.size by omega)))
      have CW := Lib.hid (fun W (hW : Below wr.heap.size wr W) => containsWaits_any wr.heap.size gf lf ef f R N (w.heap.size + 1) w.heap.size a2.1 a2.2 (usS p.s (j : Int) p.s.length) W (by omega) (by omega) hW.size (HUI.out _) (by omega) ((hW.cell (p := ⟨w.heap.size + 1, 0, none⟩) (by simp only []; omega)).trans z1) ((hW.cell (p := ⟨w.heap.size, 0, none⟩) (by simp only []; omega)).trans z0) (by have := hW.size; omega) (by have := hW.size; omega) (HH0.out.below (HBW.out.trans (hW.mono (by omega)))) (hS.below hW))
      have HF := Lib.hid (fun W (hW : Below wr.heap.size wr W) => HH0.out W j (HBW.out.trans (hW.mono (show w.heap.size ≤ wr.heap.size by omega))) hlt)
      obtain ⟨q, hq⟩ : ∃ q, (usO p.o (j : Int) p.o.length).length = q := ⟨_, rfl⟩
      obtain ⟨s1, hs1⟩ : ∃ q, (usS p.s (j : Int) p.s.length).length = q := ⟨_, rfl⟩
      obtain ⟨t, ht⟩ : ∃ t, f j = t := ⟨_, rfl⟩
      obtain ⟨u, hu⟩ : ∃ t, wtK N f (usS p.s (j : Int) p.s.length) (usS p.s (j : Int) p.s.length).length = t := ⟨_, rfl⟩
      have hcw := CW.out
      have hff := HF.out
      rw [hu] at hcw hlv
      rw [hs1] at hcw d1 l1
      rw [ht] at hff
      rw [hq] at d0 hlv
      have HCW := Lib.hid hcw
      have HFF := Lib.hid hff
      have LV := Lib.hid hlv
      have HT := Lib.hid ht
      have OWN := Lib.hid hown
      have NIL := Lib.hid hnil
      have BEL := Lib.hid hbel
      clear hUr hS hlv ht hu hs1 hq ha1 ha2 hown hnil hbel hcw hff CW HF
      have Z1 := cell_kept z1
      go_wp2_with fail
      go_at_fn gf
      clear Z1
      generalize hw5 : World.alloc wr _ = w5
      obtain ⟨e0, e1, es, eb⟩ := box2 hw5
      clear hw5
      refine (HFF.out w5 eb).mono ?_
      rintro e w6 ⟨rfl, hb6⟩
      have hb56 : Below wr.heap.size wr w6 := eb.trans (hb6.mono (by omega))
      have OWN6 := Lib.hid (own_below OWN.out hb56)
      have BEL6 := Lib.hid (BEL.out.trans (hb56.mono hsz))
      have B56 := Lib.hid hb56
      have hs6 : w3.heap.size ≤ w6.heap.size := BEL6.out.size
      have e0 := (hb6.cell (p := ⟨wr.heap.size, 0, none⟩) (by simp only []; omega)).trans e0
      have e1 := (hb6.cell (p := ⟨wr.heap.size, 1, none⟩) (by simp only []; omega)).trans e1
      clear es eb hb6 hb56 d0 d1 z0 z1
      cases t with
      | false =>
        have MISS := Lib.hid (lgK_miss (N := N) (s := p.s) (o := p.o) (f := f) (m := j) (by rw [HT.out]; rfl))
        clear e0 e1
        go_wp2
        go_roundw
        case rel => exact ⟨j + 1, A4, c4, by omega, by go_num, by rw [MISS.out], by rw [MISS.out]; exact OWN6.out, by rw [MISS.out]; exact NIL.out, BEL6.out⟩
        case measure => simp [intOf]; omega
      | true =>
        by_cases hq0 : 0 < q
        · have iq : (0 : Int) < (q : Int) := by omega
          have HIT := Lib.hid (lgK_hit (N := N) (s := p.s) (o := p.o) (f := f) (m := j) (by rw [HT.out, LV.out, decide_eq_true hq0]; rfl))
          clear hq0
          go_wp2_with (at_builtin; refine list_step (fun K hK => ?_); refine step_app1 Try.underlying22 info_int rfl (by omega) rfl (.tmp 33) (.tmp 35) rfl w3.heap.size (lgK N p.s p.o f j).length _ _ rfl (World.ownsRow.alloc OWN6.out _) w6.heap.size 1 (I (j : Int)) rfl (by simp) rfl (by omega) (by simp; omega) ?_; intro A7 c7 w7 hown7 hg7 hbel7; go_simp; refine hK _ _ ?_; clear hK K)
          go_roundw
          case rel =>
            have hl : (lgK N p.s p.o f (j + 1)).length = (lgK N p.s p.o f j).length + 1 := by rw [HIT.out]; simp
            have hm : (lgK N p.s p.o f (j + 1)).map I = (lgK N p.s p.o f j).map I ++ [I (j : Int)] := by rw [HIT.out]; simp
            exact ⟨j + 1, A7, c7, by omega, by go_num, by rw [hl], by rw [hl, hm]; exact hown7, fun h => by rw [HIT.out] at h; simp at h, (BEL6.out.alloc hs6 _).trans hbel7⟩
          case measure => simp [intOf]; omega
        · have iq : ¬ (0 : Int) < (q : Int) := by omega
          have L2 := Lib.hid (show lgB N p.s p.o f (j : Int) = u by rw [LV.out, decide_eq_false hq0]; rfl)
          clear hq0
          go_wp2_with fail
          go_at_call 163
          refine (HCW.out w6 B56.out).mono ?_
          rintro e w8 ⟨rfl, hb8⟩
          have OWN8 := Lib.hid (own_below' OWN6.out hb8 (by omega))
          have BEL8 := Lib.hid (BEL6.out.trans (hb8.mono hs6))
          have hs8 : w3.heap.size ≤ w8.heap.size := BEL8.out.size
          clear hb8 e0 e1
          cases u with
          | false =>
            have MISS := Lib.hid (lgK_miss (N := N) (s := p.s) (o := p.o) (f := f) (m := j) (by rw [L2.out]; simp))
            go_wp2
            go_roundw
            case rel => exact ⟨j + 1, A4, c4, by omega, by go_num, by rw [MISS.out], by rw [MISS.out]; exact OWN8.out, by rw [MISS.out]; exact NIL.out, BEL8.out⟩
            case measure => simp [intOf]; omega
          | true =>
            have HIT := Lib.hid (lgK_hit (N := N) (s := p.s) (o := p.o) (f := f) (m := j) (by rw [HT.out, L2.out]; rfl))
            go_wp2_with (at_builtin; refine list_step (fun K hK => ?_); refine step_app1 Try.underlying22 info_int rfl (by omega) rfl (.tmp 33) (.tmp 35) rfl w3.heap.size (lgK N p.s p.o f j).length _ _ rfl (World.ownsRow.alloc OWN8.out _) w8.heap.size 1 (I (j : Int)) rfl (by simp) rfl (by omega) (by simp; omega) ?_; intro A7 c7 w7 hown7 hg7 hbel7; go_simp; refine hK _ _ ?_; clear hK K)
            go_roundw
            case rel =>
              have hl : (lgK N p.s p.o f (j + 1)).length = (lgK N p.s p.o f j).length + 1 := by rw [HIT.out]; simp
              have hm : (lgK N p.s p.o f (j + 1)).map I = (lgK N p.s p.o f j).map I ++ [I (j : Int)] := by rw [HIT.out]; simp
              exact ⟨j + 1, A7, c7, by omega, by go_num, by rw [hl], by rw [hl, hm]; exact hown7, fun h => by rw [HIT.out] at h; simp at h, (BEL8.out.alloc hs8 _).trans hbel7⟩
            case measure => simp [intOf]; omega
    · have hj' : j = R := by omega
      subst hj'
      have OWN := Lib.hid (own_base hown (show w.heap.size ≤ w3.heap.size by omega))
      have NIL := Lib.hid hnil
      have HB4 := Lib.hid (HB3.out.trans (hbel.mono (by omega)))
      clear hown hbel hnil
      go_wp2
      go_ret
      refine ⟨A4, c4, by rw [EL.out]; rfl, ?_, fun h => NIL.out (by rw [← EL.out]; exact h), HB4.out⟩
      show World.ownsRow _ _ _ _ _ _ _
      rw [EL.out]
      exact OWN.out
end Go.Proofs.Ytbbjgcagkmlngab
