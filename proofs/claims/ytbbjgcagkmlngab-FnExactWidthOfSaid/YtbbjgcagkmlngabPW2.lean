/- Joined: Bl Qj Qn Qq Qt Qp Qu Qv Qw Ra Jl Jn Rla Rlv Jo Jq Jr. -/
import Derived.Shelf.Small.Bits
import Derived.Test.YtbbjgcagkmlngabPW0
import Derived.Lib.BitFns
import Derived.Test.YtbbjgcagkmlngabPW1
import Derived.Lib.AppendZeros
import Derived.Lib.AppendZerosOnto
import Derived.Lib.Overlaps
import Derived.Lib.SliceRun
import Derived.Laws.Externs
import Derived.Laws.IdiomCopy
/- The library's bit length, at this program. -/
namespace Go.Proofs.Ytbbjgcagkmlngab
open Go.Shelf
end Go.Proofs.Ytbbjgcagkmlngab
/- Bit lengths. -/
namespace Go.Proofs.Ytbbjgcagkmlngab
open Go.RowKit

def bl (n : Int) : Nat := Lib.bitLen n.toNat
theorem bl_more {n : Nat} {b : Nat} (hn : n ≤ 1000000) (h : 2 ^ b ≤ n) : b + 1 ≤ Lib.bitLen n := by
  rw [Lib.bitLen_shift b n h (by omega)]
  have h1 : n / 2 ^ b ≠ 0 := by
    have := Nat.div_pos h (Nat.two_pow_pos b)
    omega
  have h2 : n / 2 ^ b ≤ n := Nat.div_le_self _ _
  rw [Lib.bitLen_half (n / 2 ^ b) h1 (by omega)]
  omega
theorem bl_bd {n : Nat} (hn : n ≤ 1000000) : Lib.bitLen n ≤ 20 := Lib.bitLen_le n 20 (by omega) (by omega)

def isNum (n : Int) : Bool := inB n 1 1000000
def bitN (n : Int) : Int := if isNum n then (bl n : Int) else 0
theorem bitN_true {n : Int} (h : isNum n = true) : bitN n = bl n := by unfold bitN; rw [if_pos h]
theorem bitN_false {n : Int} (h : isNum n = false) : bitN n = 0 := by unfold bitN; rw [h]; rfl
theorem isNum_rng {n : Int} (h : isNum n = true) : 1 ≤ n ∧ n ≤ 1000000 := by
  unfold isNum inB at h
  simpa using h


end Go.Proofs.Ytbbjgcagkmlngab
/- Lists that are answered if they are chains; copies of lists. -/
namespace Go.Proofs.Ytbbjgcagkmlngab
open Go.RowKit

/-- A list that is answered if b. -/
def selL (b : Bool) (l : List Int) : List Int := if b then l else []
theorem selL_true {b : Bool} {l : List Int} (h : b = true) : selL b l = l := by unfold selL; rw [if_pos h]
theorem selL_false {b : Bool} {l : List Int} (h : b = false) : selL b l = [] := by unfold selL; rw [h]; rfl
theorem selL_le {b : Bool} {l : List Int} (h : b = true → chG l = true) : (selL b l).length ≤ 1000 := by
  cases b with
  | false => simp [selL]
  | true => have := (chG_chn (h rfl)).most; rw [selL_true rfl]; omega
theorem and_chG {b : Bool} {l : List Int} (h : (b && chG l) = true) : chG l = true := by simp only [Bool.and_eq_true] at h; exact h.2

end Go.Proofs.Ytbbjgcagkmlngab
/- A number put into a list of own memory, by the library. -/
namespace Go.Proofs.Ytbbjgcagkmlngab
open Go.RowKit

/-- The operation copy, where its run is known. -/
theorem at_copy (w : World) {o : Oper} {a : Act} {K : Act → World → Prop} {Q : Exit → Act → World → Prop} (d s : Operand) (t t' : TypeId)
    (ho : o.op = .call { callee := .builtin .copy, args := #[d, s], argTypes := #[t, t'] }) (v u : Value) (hd : a.eval d = v) (hs : a.eval s = u) {v' : Value} {w' : World}
    (hr : (Builtin.copy_ #[t, t'] o.type #[v, u]).run Try.prog w = .ok v' w') (h : K (a.put o.dst v') w') : o.wp Try.prog a w K Q := by
  unfold Oper.wp execOp
  simp only [ho, resolve, invoke, builtin, Sem.run_bind, Sem.run_pure, Result.andThen_ok, List.map_toArray, List.map_cons, List.map_nil, hd, hs, hr]
  exact h
theorem list_copy (w : World) {ops : Array Oper} {rest : List Oper} {o : Oper} {a : Act} {Q : Exit → Act → World → Prop} (hgd : o.guard = none) (d s : Operand) (t t' : TypeId)
    (ho : o.op = .call { callee := .builtin .copy, args := #[d, s], argTypes := #[t, t'] }) (v u : Value) (hd : a.eval d = v) (hs : a.eval s = u) {v' : Value} {w' : World}
    (hr : (Builtin.copy_ #[t, t'] o.type #[v, u]).run Try.prog w = .ok v' w') (h : wpList Try.prog ops Q rest (a.put o.dst v') w') : wpList Try.prog ops Q (o :: rest) a w :=
  wpList_plain hgd fun _ hK => at_copy w d s t t' ho v u hd hs hr (hK _ _ h)
theorem step_copy {ops : Array Oper} {o : Oper} {a : Act} {w : World} {K : Act → World → Prop} {Q : Exit → Act → World → Prop} {E : Prop}
    (hg : o.guard = none) (d x : Operand) (dT sT : TypeId) (hop : o.op = Op.call { callee := Callee.builtin Builtin.copy, args := #[d, x], argTypes := #[dT, sT] })
    (v u : Value) (hd : a.eval d = v) (hx : a.eval x = u) {v' : Value} {w' : World} (hr : (Builtin.copy_ #[dT, sT] o.type #[v, u]).run Try.prog w = .ok v' w') (hK : K (a.put o.dst v') w') :
    if Region.wanted o (yielded ops a.tmps) = true then Oper.wp Try.prog o a w K Q else E := by
  have hw : Region.wanted o (yielded ops a.tmps) = true := by simp [Region.wanted, hg]
  rw [if_pos hw]
  unfold Oper.wp
  simp [execOp, hop, resolve, invoke, builtin, hd, hx, hr, Result.andThen]
  exact hK

/-- Stores of a list keep the block's size and type. -/
theorem setCells_heap (b : Nat) : ∀ (vs : List Value) (o : Nat) (w : World) (cur : Array Value) (t : TypeId), w.heap[b]? = some (.cells cur t (0, 0)) →
    ∃ cur', (w.setCells b o vs).heap[b]? = some (.cells cur' t (0, 0)) ∧ cur'.size = cur.size
  | [], _, _, cur, _, h => ⟨cur, h, rfl⟩
  | v :: vs, o, _, cur, t, h => by
    have h1 := heap_setCell_same _ b o cur t v h
    obtain ⟨cur', h2, h3⟩ := setCells_heap b vs (o + 1) _ _ t h1
    exact ⟨cur', h2, by rw [h3]; simp⟩
theorem setCells_below {B b : Nat} (hB : B ≤ b) : ∀ (vs : List Value) (o : Nat) (w0 w : World), Below B w0 w → Below B w0 (w.setCells b o vs)
  | [], _, _, _, h => h
  | v :: vs, o, w0, _, h => setCells_below hB vs (o + 1) w0 _ (h.setCell (p := ⟨b, o, none⟩) hB v)
/-- A row by its block and its cells. -/
theorem own_cells_mk {w : World} {B g cap n : Nat} {cur : Array Value} {t : TypeId} {xs : List Value} (hB : B ≤ g) (hg : w.heap[g]? = some (.cells cur t (0, 0))) (hs : cur.size = cap) (hn : n ≤ cap) (hM : cap ≤ maxLen) (hl : xs.length = n)
    (hc : ∀ j, j < n → w.cell? ⟨g, j, none⟩ = xs[j]?) : w.ownsRow B t 1 (.slice (some ⟨g, 0, none⟩) n cap) n xs := by
  refine ⟨by omega, .inr ⟨g, cap, cur, rfl, hB, hg, hn, hM, by omega, ?_⟩⟩
  refine List.ext_getElem (by rw [List.length_take, Array.length_toList]; omega) fun j h1 h2 => ?_
  have hj : j < n := by omega
  have h := hc j hj
  unfold World.cell? at h
  rw [hg] at h
  simp only [Option.isSome_none, Bool.false_eq_true, if_false] at h
  rw [List.getElem?_eq_getElem h2] at h
  rw [List.getElem_take]
  have h3 : j < cur.size := by omega
  rw [Array.getElem?_eq_getElem h3] at h
  simp only [Option.some.injEq] at h
  rw [Array.getElem_toList]
  exact h
/-- The list with x at index i. -/
def insA (l : List Int) (i : Nat) (x : Int) : List Int := l.take i ++ x :: l.drop i
theorem insA_length (l : List Int) {i : Nat} (x : Int) (hi : i ≤ l.length) : (insA l i x).length = l.length + 1 := by
  unfold insA
  rw [List.length_append, List.length_cons, List.length_take, List.length_drop]
  omega
theorem insA_at (l : List Int) {i : Nat} (x : Int) (hi : i ≤ l.length) (j : Nat) : ((insA l i x).map I)[j]? = if j < i then (l.map I)[j]? else if j = i then some (I x) else (l.map I)[j - 1]? := by
  unfold insA
  rw [List.map_append, List.map_cons, List.map_take, List.map_drop]
  by_cases h1 : j < i
  · rw [if_pos h1, List.getElem?_append_left (by simp; omega), List.getElem?_take, if_pos h1]
  · rw [if_neg h1, List.getElem?_append_right (by simp; omega)]
    have e : (List.take i (l.map I)).length = i := by simp; omega
    rw [e]
    by_cases h2 : j = i
    · subst h2
      simp
    · rw [if_neg h2, show j - i = (j - i - 1) + 1 by omega, List.getElem?_cons_succ, List.getElem?_drop]
      congr 1
      omega

theorem cells_some {w : World} {b : Nat} {cur : Array Value} {t : TypeId} (h : w.heap[b]? = some (.cells cur t (0, 0))) {j : Nat} (hj : j < cur.size) : (w.cell? ⟨b, j, none⟩).isSome = true := by
  unfold World.cell?
  rw [h]
  simp [hj]
theorem cells_free {w : World} {b : Nat} {cur : Array Value} {t : TypeId} (h : w.heap[b]? = some (.cells cur t (0, 0))) (j : Nat) : w.frozen? ⟨b, j, none⟩ = false := by
  unfold World.frozen?
  rw [h]
  simp
theorem cells_shape {w : World} {b : Nat} {cur : Array Value} {t : TypeId} (h : w.heap[b]? = some (.cells cur t (0, 0))) : w.shape? b = some (t, cur.size) := by
  unfold World.shape?
  rw [h]
theorem isSome_set (b : Nat) (vs : List Value) (o : Nat) (w : World) (h : ∀ j, j < vs.length → (w.cell? ⟨b, o + j, none⟩).isSome = true) (k : Nat) (hk : (w.cell? ⟨b, k, none⟩).isSome = true) : ((w.setCells b o vs).cell? ⟨b, k, none⟩).isSome = true := by
  by_cases hin : o ≤ k ∧ k < o + vs.length
  · have := World.cell?_setCells_in b vs o w h (k - o) (by omega)
    rw [show o + (k - o) = k by omega] at this
    rw [this]; rfl
  · rw [World.cell?_setCells_out b vs o w ⟨b, k, none⟩ (fun _ _ => by show k < o ∨ o + vs.length ≤ k; omega)]
    exact hk

theorem cell_blk {w : World} {b o : Nat} {v : Value} (h : w.cell? ⟨b, o, none⟩ = some v) : b < w.heap.size := by
  unfold World.cell? at h
  simp only at h
  cases hb : w.heap[b]? with
  | none => rw [hb] at h; simp at h
  | some o => exact (Array.getElem?_eq_some_iff.1 hb).1

end Go.Proofs.Ytbbjgcagkmlngab
/- A number put into a rising list. -/
namespace Go.Proofs.Ytbbjgcagkmlngab
open Go.RowKit

/-- The list with x at its place. -/
def putI (l : List Int) (x : Int) : List Int := if x ∈ l then l else insA l (cnt l x) x
theorem putI_has {l : List Int} {x : Int} (h : x ∈ l) : putI l x = l := by unfold putI; rw [if_pos h]
theorem putI_new {l : List Int} {x : Int} (h : ¬ x ∈ l) : putI l x = insA l (cnt l x) x := by unfold putI; rw [if_neg h]
theorem cnt_le (l : List Int) (x : Int) : cnt l x ≤ l.length := List.countP_le_length
theorem putI_le (l : List Int) (x : Int) : (putI l x).length ≤ l.length + 1 := by
  unfold putI
  split
  · omega
  · rw [insA_length l x (cnt_le l x)]; omega
theorem insA_getD (l : List Int) {i : Nat} (x : Int) (hi : i ≤ l.length) (j : Nat) : (insA l i x).getD j 0 = if j < i then l.getD j 0 else if j = i then x else l.getD (j - 1) 0 := by
  unfold insA
  rw [List.getD_eq_getElem?_getD]
  by_cases h1 : j < i
  · rw [if_pos h1, List.getElem?_append_left (by simp; omega), List.getElem?_take, if_pos h1, List.getD_eq_getElem?_getD]
  · rw [if_neg h1, List.getElem?_append_right (by simp; omega)]
    have e : (List.take i l).length = i := by simp; omega
    rw [e]
    by_cases h2 : j = i
    · subst h2
      simp
    · rw [if_neg h2, show j - i = (j - i - 1) + 1 by omega, List.getElem?_cons_succ, List.getElem?_drop, List.getD_eq_getElem?_getD, show i + (j - i - 1) = j - 1 by omega]
/-- What lies before the place is less, what lies behind it greater. -/
theorem cnt_parts {l : List Int} (ha : Asc l) (x : Int) : (∀ t, t < cnt l x → l.getD t 0 < x) ∧ ∀ t, cnt l x ≤ t → t < l.length → x ≤ l.getD t 0 := by
  have key : ∀ n, n ≤ l.length → ∃ i, i ≤ n ∧ (∀ t, t < i → l.getD t 0 < x) ∧ ∀ t, i ≤ t → t < n → x ≤ l.getD t 0 := by
    intro n
    induction n with
    | zero => intro _; exact ⟨0, by omega, fun t h => absurd h (by omega), fun t _ h => absurd h (by omega)⟩
    | succ n ih =>
      intro hn
      obtain ⟨i, h1, h2, h3⟩ := ih (by omega)
      by_cases hi : i = n
      · by_cases hx : l.getD n 0 < x
        · refine ⟨n + 1, by omega, fun t ht => ?_, fun t h h' => absurd h (by omega)⟩
          rcases Nat.lt_or_eq_of_le (Nat.le_of_lt_succ ht) with h | rfl
          · exact h2 t (by omega)
          · exact hx
        · refine ⟨i, by omega, h2, fun t h h' => ?_⟩
          have : t = n := by omega
          subst this
          omega
      · refine ⟨i, by omega, h2, fun t h h' => ?_⟩
        rcases Nat.lt_or_eq_of_le (Nat.le_of_lt_succ h') with h'' | rfl
        · exact h3 t h h''
        · have := h3 i (Nat.le_refl _) (by omega)
          have := ha i t (by omega) (by omega)
          omega
  obtain ⟨i, h1, h2, h3⟩ := key l.length (Nat.le_refl _)
  rw [cnt_at h1 h2 h3]
  exact ⟨h2, h3⟩
theorem mem_getD {l : List Int} {t : Nat} (h : t < l.length) : l.getD t 0 ∈ l := by
  have e : l.getD t 0 = l[t] := by simp [h]
  rw [e]
  exact List.getElem_mem h
theorem putI_asc {l : List Int} (ha : Asc l) (x : Int) : Asc (putI l x) := by
  by_cases hx : x ∈ l
  · rw [putI_has hx]; exact ha
  · rw [putI_new hx]
    obtain ⟨h1, h2⟩ := cnt_parts ha x
    have hc := cnt_le l x
    intro i j hij hj
    rw [insA_length l x hc] at hj
    rw [insA_getD l x hc, insA_getD l x hc]
    have h3 : ∀ t, cnt l x ≤ t → t < l.length → x < l.getD t 0 := fun t h h' => by
      have := h2 t h h'
      rcases Int.lt_or_eq_of_le this with h4 | h4
      · exact h4
      · exact absurd (h4 ▸ mem_getD h') hx
    by_cases c1 : i < cnt l x
    · rw [if_pos c1]
      by_cases c2 : j < cnt l x
      · rw [if_pos c2]; exact ha i j hij (by omega)
      · rw [if_neg c2]
        by_cases c3 : j = cnt l x
        · rw [if_pos c3]; exact h1 i c1
        · rw [if_neg c3]; exact ha i (j - 1) (by omega) (by omega)
    · rw [if_neg c1, if_neg (by omega : ¬ j < cnt l x), if_neg (by omega : ¬ j = cnt l x)]
      by_cases c3 : i = cnt l x
      · rw [if_pos c3]; exact h3 (j - 1) (by omega) (by omega)
      · rw [if_neg c3]; exact ha (i - 1) (j - 1) (by omega) (by omega)

end Go.Proofs.Ytbbjgcagkmlngab
/- What is in both of two chains. -/
namespace Go.Proofs.Ytbbjgcagkmlngab
open Go.RowKit

theorem hasI_mem (l : List Int) (n : Int) : hasI l n = decide (n ∈ l) := by unfold hasI; exact List.contains_eq_mem n l
def metK (a b : List Int) (k : Nat) : List Int := (a.take k).filter fun n => hasI b n
def met (a b : List Int) : List Int := a.filter fun n => hasI b n
theorem metK_end (a b : List Int) : metK a b a.length = met a b := by unfold metK met; rw [List.take_length]
theorem metK_hit {a b : List Int} {k : Nat} (hk : k < a.length) (h : hasI b (a.getD k 0) = true) : metK a b (k + 1) = metK a b k ++ [a.getD k 0] := by
  unfold metK
  rw [take_succ_getD hk, List.filter_append]
  simp only [List.filter_cons, List.filter_nil, h]
  rfl
theorem metK_miss {a b : List Int} {k : Nat} (hk : k < a.length) (h : hasI b (a.getD k 0) = false) : metK a b (k + 1) = metK a b k := by
  unfold metK
  rw [take_succ_getD hk, List.filter_append]
  simp only [List.filter_cons, List.filter_nil, h]
  simp
theorem metK_le (a b : List Int) (k : Nat) : (metK a b k).length ≤ k := by
  unfold metK
  exact Nat.le_trans (List.length_filter_le _ _) (by simp; omega)
theorem met_le (a b : List Int) : (met a b).length ≤ a.length := List.length_filter_le _ _
def meG (a b : List Int) : Bool := (chG a && chG b) && chG (met a b)

end Go.Proofs.Ytbbjgcagkmlngab
/- A number put into a rising list, by the model. -/
namespace Go.Proofs.Ytbbjgcagkmlngab
open Go.RowKit

theorem Rd.drop {w : World} {B : Nat} {b off k : Nat} {l : List Int} (h : Rd w B 1 (some ⟨b, off, none⟩) l.length (l.map I)) (hk : k < l.length) : Rd w B 1 (some ⟨b, off + k, none⟩) (l.length - k) ((l.drop k).map I) := by
  refine ⟨by simp, fun _ => ?_⟩
  obtain ⟨b', off', e, hb, hc⟩ := h.2 (by omega)
  simp only [Option.some.injEq, Addr.mk.injEq, and_true] at e
  obtain ⟨rfl, rfl⟩ := e
  refine ⟨b, off + k, rfl, hb, fun j hj => ?_⟩
  rw [Nat.add_assoc, hc (k + j) (by omega), List.map_drop, List.getElem?_drop]
theorem put_below2 {B : Nat} {w : World} {o1 o2 : Obj} {w2 w3 : World} (hB : B ≤ w.heap.size) (h2 : Below B (w.alloc o1) w2) (h3 : Below B (w2.alloc o2) w3) : Below B w w3 := by
  have h1 : Below B w w2 := ((Below.refl _ _).alloc hB _).trans h2
  exact (h1.alloc (Nat.le_trans hB h1.size) _).trans h3

set_option maxRecDepth 100000 in
set_option maxHeartbeats 2000000 in
theorem l1PutN_any (B : Nat) (A : Option Addr) (c : Nat) (l : List Int) (x : Int) (w : World) (hm : l.length ≤ 1000) (ha : Asc l) (hx : ¬ x ∈ l) (hcap : l.length ≤ c) (hB : B ≤ w.heap.size) (hr : Rd w B 1 A l.length (l.map I)) :
    Calls Try.prog 132 #[.slice A l.length c, .int .i64 x] w fun e w' => ∃ A' c', e = .returned (.slice A' (putI l x).length c') ∧ OwI w' w.heap.size (.slice A' (putI l x).length c') (putI l x) ∧ Below w.heap.size w w' := by
  have H := Lib.hid hr
  obtain ⟨p1, p2⟩ := cnt_parts ha x
  have P1 := Lib.hid p1
  have P2 := Lib.hid p2
  have hcx := cnt_le l x
  have P := Lib.hid (putI_new hx)
  have hpl : (putI l x).length = l.length + 1 := by rw [P.out, insA_length l x hcx]
  have HPL := Lib.hid hpl
  have HX := Lib.hid hx
  obtain ⟨a, haa⟩ : ∃ a, cnt l x = a := ⟨_, rfl⟩
  rw [haa] at hcx
  have AA := Lib.hid haa
  have HAS := Lib.hid ha
  clear hr p1 p2 hpl hx haa ha
  have hbig : (l.length : Int) ≤ 1000 := by omega
  go_enter Try.func132, Try.ntmps132
  go_wp2
  go_loop [5] (fun i => ∃ k : Nat, k ≤ a ∧ i = .int .i64 k) (fun i => a - (intOf i).toNat)
  case atStart => exact ⟨0, by omega, rfl⟩
  case round =>
    obtain ⟨k, hk, rfl⟩ := hrel
    by_cases hka : k < a
    · obtain ⟨b, off, rfl, hb, hc⟩ := H.out.cells (by omega)
      have ck := hc k (by omega)
      have hlt : l.getD k 0 < x := P1.out k (by rw [AA.out]; exact hka)
      obtain ⟨y, hy⟩ : ∃ y, l.getD k 0 = y := ⟨_, rfl⟩
      rw [hy] at ck hlt
      have ik : (k : Int) < (l.length : Int) := by omega
      clear hc hy
      go_wp2
      go_round
      case rel => exact ⟨k + 1, by omega, by go_num⟩
      case measure => simp [intOf]; omega
    · have e : k = a := by omega
      subst e
      have ikc : (k : Int) ≤ (c : Int) := by omega
      have hins : (insA l k x).map I = (l.take k).map I ++ [I x] ++ (l.drop k).map I := by unfold insA; rw [List.map_append, List.map_cons]; simp
      have HINS := Lib.hid hins
      clear hins
      by_cases hl : k < l.length
      · obtain ⟨b, off, rfl, hb, hc⟩ := H.out.cells (by omega)
        have ck := hc k hl
        have hge := P2.out k (by rw [AA.out]; exact Nat.le_refl _) hl
        obtain ⟨y, hy⟩ : ∃ y, l.getD k 0 = y := ⟨_, rfl⟩
        have hne : ¬ y = x := fun h => HX.out (by rw [← h, ← hy]; exact mem_getD hl)
        rw [hy] at ck hge
        have h1 : ¬ y < x := by omega
        have hyx : (y == x) = false := by simpa using hne
        have ik : (k : Int) < (l.length : Int) := by omega
        have ikl : (k : Int) ≤ (l.length : Int) := by omega
        have hcn : ¬ (c = k) := by omega
        have T1 := Lib.hid (fun (W : World) (hb : Below w.heap.size w W) => (H.out.below' hb hB).take (n := k) (by omega))
        have T2 := Lib.hid (fun (W : World) (hb : Below w.heap.size w W) => (H.out.below' hb hB).drop hl)
        clear hc hy hge hne
        go_wp2_with (first
          | (at_builtin; refine list_step (fun K hK => ?_); refine step_appM Try.underlying22 info_int rfl (by omega) (by omega) rfl (.tmp 34) (.tmp 37) rfl w.heap.size 0 _ [] rfl (own_empty 1 (Nat.le_refl _)) _ k _ ((l.take k).map I) rfl (T1.out _ ((Below.refl _ _).alloc (Nat.le_refl _) _)) (ints_one _) (by omega) (by simp) ?_; intro A2 c2 w2 hown2 hg2 hbel2; simp only [Nat.zero_add, List.nil_append] at hown2; go_simp; refine hK _ _ ?_; clear hK K)
          | (at_builtin; refine list_step (fun K hK => ?_); refine step_app1 Try.underlying22 info_int rfl (by omega) rfl (.tmp 39) (.tmp 41) rfl w.heap.size _ _ _ rfl (World.ownsRow.alloc hown2 _) w2.heap.size 1 (I x) rfl (by simp) rfl (by omega) (by have := hbel2.size; simp at this; simp; omega) ?_; intro A3 c3 w3 hown3 hg3 hbel3; go_simp; refine hK _ _ ?_; clear hK K)
          | (at_builtin; refine list_step (fun K hK => ?_); have hb23 := put_below2 (Nat.le_refl _) hbel2 hbel3; refine step_appM Try.underlying22 info_int rfl (by omega) (by omega) rfl (.tmp 43) (.tmp 46) rfl w.heap.size _ _ _ rfl hown3 _ (l.length - k) _ ((l.drop k).map I) rfl (T2.out _ hb23) (ints_one _) (by omega) hb23.size ?_; intro A4 c4 w4 hown4 hg4 hbel4; go_simp; refine hK _ _ ?_; clear hK K))
        go_ret
        refine ⟨A4, c4, ret_slice (by have := HPL.out; omega), ?_, (put_below2 (Nat.le_refl _) hbel2 hbel3).trans hbel4⟩
        have h := hown4
        rw [show k + 1 + (l.length - k) = (putI l x).length by have := HPL.out; omega] at h
        unfold OwI
        rw [P.out, AA.out, HINS.out] at *
        simpa using h
      · have e : k = l.length := by omega
        have T1 := Lib.hid (fun (W : World) (hb : Below w.heap.size w W) => (H.out.below' hb hB).take (n := k) (by omega))
        have HE := Lib.hid e
        have hfin : ∀ (A4 : Option Addr) (c4 : Nat) (w4 : World), w4.ownsRow w.heap.size 3 1 (.slice A4 (k + 1 + 0) c4) (k + 1 + 0) ((l.take k).map I ++ [I x] ++ []) → OwI w4 w.heap.size (.slice A4 (putI l x).length c4) (putI l x) := fun A4 c4 w4 h => by
          rw [show k + 1 + 0 = (putI l x).length by have := HPL.out; have := HE.out; omega] at h
          unfold OwI
          have hd : l.drop k = [] := List.drop_of_length_le (by have := HE.out; omega)
          have hi := HINS.out
          rw [hd] at hi
          rw [P.out, AA.out, hi] at *
          simpa using h
        have FIN := Lib.hid hfin
        obtain ⟨N, hN⟩ : ∃ N, l.length = N := ⟨_, rfl⟩
        rw [hN] at e
        subst e
        rw [hN] at *
        have HN := Lib.hid hN
        clear hfin hN
        have hsl : ∀ n : Nat, n - n = 0 := fun n => Nat.sub_self n
        by_cases hck : c = k
        · subst hck
          go_wp2_with (first
            | (at_builtin; refine list_step (fun K hK => ?_); refine step_appM Try.underlying22 info_int rfl (by omega) (by omega) rfl (.tmp 34) (.tmp 37) rfl w.heap.size 0 _ [] rfl (own_empty 1 (Nat.le_refl _)) _ c _ ((l.take c).map I) rfl (T1.out _ ((Below.refl _ _).alloc (Nat.le_refl _) _)) (ints_one _) (by omega) (by simp) ?_; intro A2 c2 w2 hown2 hg2 hbel2; simp only [Nat.zero_add, List.nil_append] at hown2; go_simp; refine hK _ _ ?_; clear hK K)
            | (at_builtin; refine list_step (fun K hK => ?_); refine step_app1 Try.underlying22 info_int rfl (by omega) rfl (.tmp 39) (.tmp 41) rfl w.heap.size _ _ _ rfl (World.ownsRow.alloc hown2 _) w2.heap.size 1 (I x) rfl (by simp) rfl (by omega) (by have := hbel2.size; simp at this; simp; omega) ?_; intro A3 c3 w3 hown3 hg3 hbel3; go_simp; refine hK _ _ ?_; clear hK K)
            | (at_builtin; refine list_step (fun K hK => ?_); have hb23 := put_below2 (Nat.le_refl _) hbel2 hbel3; refine step_appM Try.underlying22 info_int rfl (by omega) (by omega) rfl (.tmp 43) (.tmp 46) rfl w.heap.size _ _ _ rfl hown3 _ 0 _ [] rfl (Rd.nil _ 0 _ _) (by simp) (by omega) hb23.size ?_; intro A4 c4 w4 hown4 hg4 hbel4; go_simp; refine hK _ _ ?_; clear hK K))
          all_goals
            go_ret
            exact ⟨A4, c4, ret_slice (by have := HPL.out; have := HE.out; omega), FIN.out A4 c4 w4 hown4, (put_below2 (Nat.le_refl _) hbel2 hbel3).trans hbel4⟩
        · have hck' : ¬ (k = c) := fun h => hck h.symm
          go_wp2_with (first
            | (at_builtin; refine list_step (fun K hK => ?_); refine step_appM Try.underlying22 info_int rfl (by omega) (by omega) rfl (.tmp 34) (.tmp 37) rfl w.heap.size 0 _ [] rfl (own_empty 1 (Nat.le_refl _)) _ k _ ((l.take k).map I) rfl (T1.out _ ((Below.refl _ _).alloc (Nat.le_refl _) _)) (ints_one _) (by omega) (by simp) ?_; intro A2 c2 w2 hown2 hg2 hbel2; simp only [Nat.zero_add, List.nil_append] at hown2; go_simp; refine hK _ _ ?_; clear hK K)
            | (at_builtin; refine list_step (fun K hK => ?_); refine step_app1 Try.underlying22 info_int rfl (by omega) rfl (.tmp 39) (.tmp 41) rfl w.heap.size _ _ _ rfl (World.ownsRow.alloc hown2 _) w2.heap.size 1 (I x) rfl (by simp) rfl (by omega) (by have := hbel2.size; simp at this; simp; omega) ?_; intro A3 c3 w3 hown3 hg3 hbel3; go_simp; refine hK _ _ ?_; clear hK K)
            | (at_builtin; refine list_step (fun K hK => ?_); have hb23 := put_below2 (Nat.le_refl _) hbel2 hbel3; refine step_appM Try.underlying22 info_int rfl (by omega) (by omega) rfl (.tmp 43) (.tmp 46) rfl w.heap.size _ _ _ rfl hown3 _ 0 _ [] rfl (Rd.nil _ 0 _ _) (by simp) (by omega) hb23.size ?_; intro A4 c4 w4 hown4 hg4 hbel4; go_simp; refine hK _ _ ?_; clear hK K))
          all_goals
            go_ret
            exact ⟨A4, c4, ret_slice (by have := HPL.out; have := HE.out; omega), FIN.out A4 c4 w4 hown4, (put_below2 (Nat.le_refl _) hbel2 hbel3).trans hbel4⟩
end Go.Proofs.Ytbbjgcagkmlngab
/- A number put into a chain. -/
namespace Go.Proofs.Ytbbjgcagkmlngab
open Go.RowKit

theorem mem_putI (l : List Int) (x : Int) : x ∈ putI l x := by
  unfold putI
  split
  · assumption
  · unfold insA
    exact List.mem_append_right _ List.mem_cons_self
theorem chG_mem {r : List Int} {x : Int} (h : chG r = true) (hx : x ∈ r) : isNum x = true := by
  obtain ⟨i, hi, rfl⟩ := List.mem_iff_getElem.1 hx
  have h1 := (chG_chn h).rng i hi
  have e : r.getD i 0 = r[i] := by simp [hi]
  rw [e] at h1
  unfold isNum inB
  simpa using h1
def inG (l : List Int) (x : Int) : Bool := (chG l && !hasI l x) && chG (putI l x)
theorem hasI_not {l : List Int} {x : Int} (h : hasI l x = false) : ¬ x ∈ l := by rw [hasI_mem] at h; simpa using h

end Go.Proofs.Ytbbjgcagkmlngab
/- What is in one of two chains. -/
namespace Go.Proofs.Ytbbjgcagkmlngab
open Go.RowKit

theorem mem_at_cnt {l : List Int} (ha : Asc l) {x : Int} (hx : x ∈ l) : cnt l x < l.length ∧ l.getD (cnt l x) 0 = x := by
  obtain ⟨h1, h2⟩ := cnt_parts ha x
  have h := mem_at ha (cnt_le l x) h1 h2
  rw [decide_eq_true hx] at h
  exact of_decide_eq_true h.symm

set_option maxRecDepth 100000 in
set_option maxHeartbeats 1000000 in
/-- Of a number that is there the list itself is answered. -/
theorem l1PutH_any (B : Nat) (A : Option Addr) (c : Nat) (l : List Int) (x : Int) (w : World) (hm : l.length ≤ 1000) (ha : Asc l) (hx : x ∈ l) (hr : Rd w B 1 A l.length (l.map I)) :
    Calls Try.prog 132 #[.slice A l.length c, .int .i64 x] w fun e w' => e = .returned (.slice A l.length c) ∧ w = w' := by
  obtain ⟨q1, q2⟩ := mem_at_cnt ha hx
  obtain ⟨p1, _⟩ := cnt_parts ha x
  obtain ⟨b, off, rfl, hb, hc⟩ := hr.cells (by omega)
  have HC := Lib.hid hc
  have P1 := Lib.hid p1
  obtain ⟨a, haa⟩ : ∃ a, cnt l x = a := ⟨_, rfl⟩
  rw [haa] at q1 q2
  have AA := Lib.hid haa
  have Q2 := Lib.hid q2
  clear hr hc ha hx p1 haa q2
  go_enter Try.func132, Try.ntmps132
  go_wp2
  go_loop [5] (fun i => ∃ k : Nat, k ≤ a ∧ i = .int .i64 k) (fun i => a - (intOf i).toNat)
  case atStart => exact ⟨0, by omega, rfl⟩
  case round =>
    obtain ⟨k, hk, rfl⟩ := hrel
    have ck := HC.out k (by omega)
    have ik : (k : Int) < (l.length : Int) := by omega
    by_cases hka : k < a
    · have hlt : l.getD k 0 < x := P1.out k (by rw [AA.out]; exact hka)
      obtain ⟨y, hy⟩ : ∃ y, l.getD k 0 = y := ⟨_, rfl⟩
      rw [hy] at ck hlt
      clear hy
      go_wp2
      go_round
      case rel => exact ⟨k + 1, by omega, by go_num⟩
      case measure => simp [intOf]; omega
    · have e : k = a := by omega
      subst e
      rw [Q2.out] at ck
      go_wp2
      go_ret
      exact ⟨rfl, rfl⟩

set_option maxHeartbeats 1000000 in
theorem l1PutO_any (B0 : Nat) (A : Option Addr) (c : Nat) (l : List Int) (x : Int) (w : World) (hm : l.length ≤ 1000) (ha : Asc l) (hB : B0 ≤ w.heap.size) (hown : OwI w B0 (.slice A l.length c) l) :
    Calls Try.prog 132 #[.slice A l.length c, .int .i64 x] w fun e w' => ∃ A' c', e = .returned (.slice A' (putI l x).length c') ∧ OwI w' B0 (.slice A' (putI l x).length c') (putI l x) ∧ Below w.heap.size w w' := by
  by_cases hx : x ∈ l
  · refine (l1PutH_any w.heap.size A c l x w hm ha hx hown.rd).mono ?_
    rintro e w' ⟨rfl, rfl⟩
    rw [putI_has hx]
    exact ⟨A, c, rfl, hown, Below.refl _ _⟩
  · refine (l1PutN_any w.heap.size A c l x w hm ha hx hown.cap (Nat.le_refl _) hown.rd).mono ?_
    rintro e w' ⟨A', c', rfl, h1, h2⟩
    exact ⟨A', c', rfl, h1.base hB, h2⟩

def uniK (a b : List Int) (k : Nat) : List Int := (b.take k).foldl putI a
def uni (a b : List Int) : List Int := b.foldl putI a
theorem uniK_end (a b : List Int) : uniK a b b.length = uni a b := by unfold uniK uni; rw [List.take_length]
theorem uniK_zero (a b : List Int) : uniK a b 0 = a := rfl
theorem uniK_succ {a b : List Int} {k : Nat} (hk : k < b.length) : uniK a b (k + 1) = putI (uniK a b k) (b.getD k 0) := by
  unfold uniK
  rw [take_succ_getD hk, List.foldl_append]
  rfl
theorem uniK_ok {a b : List Int} (ha : Asc a) (h0 : 1 ≤ a.length) : ∀ k, k ≤ b.length → Asc (uniK a b k) ∧ 1 ≤ (uniK a b k).length ∧ (uniK a b k).length ≤ a.length + k := by
  intro k
  induction k with
  | zero => intro _; rw [uniK_zero]; exact ⟨ha, h0, by omega⟩
  | succ k ih =>
    intro hk
    obtain ⟨h1, h2, h3⟩ := ih (by omega)
    rw [uniK_succ (by omega)]
    refine ⟨putI_asc h1 _, ?_, ?_⟩
    · have := List.length_pos_of_mem (mem_putI (uniK a b k) (b.getD k 0))
      omega
    · have := putI_le (uniK a b k) (b.getD k 0)
      omega
def unG (a b : List Int) : Bool := (chG a && chG b) && chG (uni a b)

end Go.Proofs.Ytbbjgcagkmlngab
/- The exponents of a plan with one input; sorted, they are a chain. -/
namespace Go.Proofs.Ytbbjgcagkmlngab
open Go.RowKit

def evS (out : List Int) (st : Int × Int) : List Int := out ++ [leastI (out.getD st.1.toNat 0 + out.getD st.2.toNat 0) 1000001]
def ev (s : List (Int × Int)) : List Int := s.foldl evS [1]
theorem ev_take {s : List (Int × Int)} {k : Nat} (hk : k < s.length) : ev (s.take (k + 1)) = evS (ev (s.take k)) s[k] := by
  unfold ev
  rw [List.take_succ_eq_append_getElem hk, List.foldl_append]
  rfl
theorem ev_length (s : List (Int × Int)) : ∀ k, k ≤ s.length → (ev (s.take k)).length = k + 1 := by
  intro k
  induction k with
  | zero => intro _; rfl
  | succ k ih =>
    intro hk
    rw [ev_take (by omega)]
    unfold evS
    rw [List.length_append, ih (by omega)]
    rfl
theorem getD_map1 (l : List Int) {a : Nat} (ha : a < l.length) : (l.map fun e => [e]).getD a [] = [l.getD a 0] := by simp [ha]
theorem exps_ev {s : List (Int × Int)} (hok : OkS 1 s) : ∀ k, k ≤ s.length → exps 1 (s.take k) = (ev (s.take k)).map fun e => [e] := by
  intro k
  induction k with
  | zero => intro _; rfl
  | succ k ih =>
    intro hk
    have hk' : k < s.length := by omega
    obtain ⟨h1, h2, h3⟩ := hok k hk'
    have hl := ev_length s k (by omega)
    rw [exps_take 1 hk', ev_take hk', ih (by omega)]
    unfold expStep evS
    rw [getD_map1 _ (by omega), getD_map1 _ (by omega), List.map_append]
    rfl
theorem ev_pre {s : List (Int × Int)} : ∀ n k, k ≤ n → n ≤ s.length → ∀ i, i < k + 1 → (ev (s.take n)).getD i 0 = (ev (s.take k)).getD i 0 := by
  intro n
  induction n with
  | zero => intro k hk _ i _; rw [show k = 0 by omega]
  | succ n ih =>
    intro k hk hn i hi
    rcases Nat.lt_or_eq_of_le hk with h | rfl
    · rw [ev_take (by omega)]
      unfold evS
      have hl := ev_length s n (by omega)
      rw [List.getD_eq_getElem?_getD, List.getElem?_append_left (by omega), ← List.getD_eq_getElem?_getD]
      exact ih k (by omega) (by omega) i hi
    · rfl
/-- Of exponents within their bounds each is a sum. -/
theorem ev_sums {s : List (Int × Int)} (hok : OkS 1 s) (hb : expsB (exps 1 s) = true) :
    (ev s).length = s.length + 1 ∧ (ev s).getD 0 0 = 1 ∧ (∀ i, i < s.length + 1 → 1 ≤ (ev s).getD i 0 ∧ (ev s).getD i 0 ≤ 1000000) ∧
      ∀ k, k < s.length → ∃ a b : Nat, a ≤ b ∧ b < k + 1 ∧ (ev s).getD (k + 1) 0 = (ev s).getD a 0 + (ev s).getD b 0 := by
  have hfull : s.take s.length = s := List.take_of_length_le (Nat.le_refl _)
  have hlen := ev_length s s.length (Nat.le_refl _)
  rw [hfull] at hlen
  have hE := exps_ev hok s.length (Nat.le_refl _)
  rw [hfull] at hE
  have hle : ∀ i, i < s.length + 1 → 0 ≤ (ev s).getD i 0 ∧ (ev s).getD i 0 ≤ 1000000 := fun i hi => by
    have hm : [(ev s).getD i 0] ∈ exps 1 s := by
      rw [hE]
      exact List.mem_map.2 ⟨(ev s).getD i 0, mem_getD (by omega), rfl⟩
    unfold expsB at hb
    rw [List.all_eq_true] at hb
    have h := hb _ hm
    unfold allB at h
    simpa [inB] using h
  have h0 : (ev s).getD 0 0 = 1 := by
    have h := ev_pre (s := s) s.length 0 (by omega) (Nat.le_refl _) 0 (by omega)
    rw [hfull] at h
    rw [h]
    rfl
  have hsum : ∀ k, k < s.length → ∃ a b : Nat, a ≤ b ∧ b < k + 1 ∧ (ev s).getD (k + 1) 0 = (ev s).getD a 0 + (ev s).getD b 0 := fun k hk => by
    obtain ⟨h1, h2, h3⟩ := hok k hk
    refine ⟨(s[k]).1.toNat, (s[k]).2.toNat, by omega, by omega, ?_⟩
    have p1 := ev_pre (s := s) s.length (k + 1) (by omega) (Nat.le_refl _) (k + 1) (by omega)
    have p2 := ev_pre (s := s) s.length k (by omega) (Nat.le_refl _) (s[k]).1.toNat (by omega)
    have p3 := ev_pre (s := s) s.length k (by omega) (Nat.le_refl _) (s[k]).2.toNat (by omega)
    rw [hfull] at p1 p2 p3
    have hl := ev_length s k (by omega)
    have e : (ev (s.take (k + 1))).getD (k + 1) 0 = leastI ((ev (s.take k)).getD (s[k]).1.toNat 0 + (ev (s.take k)).getD (s[k]).2.toNat 0) 1000001 := by
      rw [ev_take hk]
      unfold evS
      rw [List.getD_eq_getElem?_getD, List.getElem?_append_right (by omega), hl]
      simp
    rw [p2, p3]
    rw [e] at p1
    have hb1 := hle (k + 1) (by omega)
    rw [p1] at hb1
    rw [p1]
    unfold leastI at hb1 ⊢
    split at hb1
    · rename_i h
      rw [if_pos h]
    · omega
  refine ⟨hlen, h0, fun i hi => ?_, hsum⟩
  refine ⟨?_, (hle i hi).2⟩
  have hpos : ∀ n i, i ≤ n → i < s.length + 1 → 1 ≤ (ev s).getD i 0 := by
    intro n
    induction n with
    | zero => intro i hi _; rw [show i = 0 by omega, h0]; omega
    | succ n ih =>
      intro i hi hl
      rcases Nat.eq_zero_or_pos i with h | h
      · rw [h, h0]; omega
      · obtain ⟨a, b, h1, h2, h3⟩ := hsum (i - 1) (by omega)
        rw [show i - 1 + 1 = i by omega] at h3 h2
        have ha := ih a (by omega) (by omega)
        have hb := ih b (by omega) (by omega)
        omega
  exact hpos i i (Nat.le_refl _) hi

theorem mem_putI_iff (l : List Int) (x y : Int) : y ∈ putI l x ↔ y = x ∨ y ∈ l := by
  unfold putI
  split
  · rename_i h
    constructor
    · exact .inr
    · rintro (rfl | h') <;> assumption
  · unfold insA
    rw [List.mem_append, List.mem_cons]
    constructor
    · rintro (h | h | h)
      · exact .inr (List.mem_of_mem_take h)
      · exact .inl h
      · exact .inr (List.mem_of_mem_drop h)
    · rintro (h | h)
      · exact .inr (.inl h)
      · rw [← List.take_append_drop (cnt l x) l] at h
        rcases List.mem_append.1 h with h | h
        · exact .inl h
        · exact .inr (.inr h)
theorem uni0_ok (b : List Int) : ∀ k, k ≤ b.length → Asc (uniK [] b k) ∧ (uniK [] b k).length ≤ k ∧ ∀ y, y ∈ uniK [] b k ↔ y ∈ b.take k := by
  intro k
  induction k with
  | zero =>
    intro _
    rw [uniK_zero]
    exact ⟨fun i j _ h => absurd h (by simp), by simp, fun y => by simp⟩
  | succ k ih =>
    intro hk
    obtain ⟨h1, h2, h3⟩ := ih (by omega)
    rw [uniK_succ (by omega)]
    refine ⟨putI_asc h1 _, by have := putI_le (uniK [] b k) (b.getD k 0); omega, fun y => ?_⟩
    rw [mem_putI_iff, h3, take_succ_getD (by omega), List.mem_append, List.mem_singleton]
    constructor
    · rintro (h | h)
      · exact .inr h
      · exact .inl h
    · rintro (h | h)
      · exact .inr h
      · exact .inl h
theorem prs_intro {l : List Int} {k i j : Nat} (hij : i ≤ j) (hj : j < k) (h : l.getD i 0 + l.getD j 0 = l.getD k 0) : prs l k k ≠ [] := by
  intro he
  have hm : ((i : Int), (j : Int)) ∈ prs l k k := by
    unfold prs
    refine List.mem_flatMap.2 ⟨j, List.mem_range.2 hj, ?_⟩
    unfold prsJ prsI
    exact List.mem_map.2 ⟨i, List.mem_filter.2 ⟨List.mem_range.2 (by omega), by simpa using h⟩, rfl⟩
  rw [he] at hm
  simp at hm
theorem getD_of_mem {l : List Int} {x : Int} (h : x ∈ l) : ∃ i, i < l.length ∧ l.getD i 0 = x := by
  obtain ⟨i, hi, rfl⟩ := List.mem_iff_getElem.1 h
  exact ⟨i, hi, by simp [hi]⟩
theorem asc_idx {l : List Int} (ha : Asc l) {i k : Nat} (hi : i < l.length) (_hk : k < l.length) (h : l.getD i 0 < l.getD k 0) : i < k := by
  rcases Nat.lt_or_ge i k with h' | h'
  · exact h'
  · have := asc_le ha h' hi
    omega
theorem chain_of_ev {s : List (Int × Int)} (hok : OkS 1 s) (hb : expsB (exps 1 s) = true) (hs : s.length ≤ 40) : chG (uni [] (ev s)) = true := by
  obtain ⟨h1, h2, h3, h4⟩ := ev_sums hok hb
  obtain ⟨ha, hl, hm⟩ := uni0_ok (ev s) (ev s).length (Nat.le_refl _)
  rw [uniK_end] at ha hl hm
  rw [List.take_length] at hm
  obtain ⟨L, hL⟩ : ∃ L, uni [] (ev s) = L := ⟨_, rfl⟩
  rw [hL] at ha hl hm ⊢
  have hr : ∀ i, i < L.length → 1 ≤ L.getD i 0 ∧ L.getD i 0 ≤ 1000000 := fun i hi => by
    obtain ⟨j, hj, e⟩ := getD_of_mem ((hm _).1 (mem_getD hi))
    rw [← e]
    exact h3 j (by omega)
  have hone : (1 : Int) ∈ L := (hm 1).2 (by rw [← h2]; exact mem_getD (by omega))
  obtain ⟨i1, hi1, e1⟩ := getD_of_mem hone
  have hpos : 1 ≤ L.length := by omega
  have hz : L.getD 0 0 = 1 := by
    have := (hr 0 (by omega)).1
    have := asc_le ha (i := 0) (j := i1) (by omega) hi1
    omega
  have hch : Chn L := ⟨hpos, by omega, hz, hr, ha⟩
  unfold chG
  rw [chn_chB hch, Bool.true_and]
  unfold sumsB
  rw [List.all_eq_true]
  intro k hk
  have hkl := List.mem_range.1 hk
  rcases Nat.eq_zero_or_pos k with h | h
  · simp [h]
  · have hne : prs L k k ≠ [] := by
      obtain ⟨j, hj, e⟩ := getD_of_mem ((hm _).1 (mem_getD hkl))
      have hj0 : j ≠ 0 := fun hj0 => by
        rw [hj0, h2] at e
        have := ha 0 k h hkl
        omega
      obtain ⟨a, b, hab, hbk, hsum⟩ := h4 (j - 1) (by omega)
      rw [show j - 1 + 1 = j by omega] at hsum hbk
      obtain ⟨ia, hia, ea⟩ := getD_of_mem ((hm _).2 (mem_getD (l := ev s) (t := a) (by omega)))
      obtain ⟨ib, hib, eb⟩ := getD_of_mem ((hm _).2 (mem_getD (l := ev s) (t := b) (by omega)))
      have pa := (h3 a (by omega)).1
      have pb := (h3 b (by omega)).1
      have ka := asc_idx ha hia hkl (by omega)
      have kb := asc_idx ha hib hkl (by omega)
      rcases Nat.le_total ia ib with h' | h'
      · exact prs_intro h' kb (by omega)
      · exact prs_intro h' ka (by omega)
    simp [isEmpty_ne hne]
end Go.Proofs.Ytbbjgcagkmlngab
/- Values that are used later, as data: by a list that is kept rising, and by looking at each value's uses. -/
namespace Go.Proofs.Ytbbjgcagkmlngab
open Go.RowKit

theorem asc_pw {l : List Int} : Asc l ↔ l.Pairwise (· < ·) := by
  rw [List.pairwise_iff_getElem]
  unfold Asc
  constructor
  · intro h i j hi hj hij
    have := h i j hij hj
    simpa [hi, hj] using this
  · intro h i j hij hj
    have := h i j (by omega) hj hij
    simp only [List.getD_eq_getElem?_getD, List.getElem?_eq_getElem hj, List.getElem?_eq_getElem (show i < l.length by omega), Option.getD_some]
    exact this
theorem asc_same {a b : List Int} (ha : Asc a) (hb : Asc b) (h : ∀ x, x ∈ a ↔ x ∈ b) : a = b := by
  rw [asc_pw] at ha hb
  induction a generalizing b with
  | nil =>
    cases b with
    | nil => rfl
    | cons y b => have := (h y).2 List.mem_cons_self; simp at this
  | cons x a ih =>
    cases b with
    | nil => have := (h x).1 List.mem_cons_self; simp at this
    | cons y b =>
      obtain ⟨a1, a2⟩ := List.pairwise_cons.1 ha
      obtain ⟨b1, b2⟩ := List.pairwise_cons.1 hb
      have e : x = y := by
        rcases List.mem_cons.1 ((h x).1 List.mem_cons_self) with h1 | h1
        · exact h1
        · rcases List.mem_cons.1 ((h y).2 List.mem_cons_self) with h2 | h2
          · exact h2.symm
          · have := a1 y h2; have := b1 x h1; omega
      subst e
      rw [ih a2 b2 fun z => ?_]
      have hz := h z
      rw [List.mem_cons, List.mem_cons] at hz
      constructor
      · intro hm
        rcases hz.1 (.inr hm) with rfl | h1
        · have := a1 z hm; omega
        · exact h1
      · intro hm
        rcases hz.2 (.inr hm) with rfl | h1
        · have := b1 z hm; omega
        · exact h1

/-- There is a use behind the first k steps. -/
def lvB (s : List (Int × Int)) (o : List Int) (k : Nat) (v : Int) : Bool := decide (0 < (usO o v o.length).length) || (usS s v s.length).any fun i => decide ((k : Int) ≤ i)
def livK (s : List (Int × Int)) (o : List Int) (k m : Nat) : List Int := ((List.range m).filter fun v : Nat => lvB s o k (v : Int)).map fun v : Nat => (v : Int)
def liv (N : Nat) (s : List (Int × Int)) (o : List Int) (k : Nat) : List Int := livK s o k (N + k)
theorem livK_le (s : List (Int × Int)) (o : List Int) (k m : Nat) : (livK s o k m).length ≤ m := by
  unfold livK
  rw [List.length_map]
  exact Nat.le_trans (List.length_filter_le _ _) (by simp)
theorem livK_hit {s : List (Int × Int)} {o : List Int} {k m : Nat} (h : lvB s o k (m : Int) = true) : livK s o k (m + 1) = livK s o k m ++ [(m : Int)] := by
  unfold livK
  rw [List.range_succ, List.filter_append, List.map_append]
  simp [h]
theorem livK_miss {s : List (Int × Int)} {o : List Int} {k m : Nat} (h : lvB s o k (m : Int) = false) : livK s o k (m + 1) = livK s o k m := by
  unfold livK
  rw [List.range_succ, List.filter_append, List.map_append]
  simp [h]
theorem livK_asc (s : List (Int × Int)) (o : List Int) (k m : Nat) : Asc (livK s o k m) := by
  rw [asc_pw]
  unfold livK
  rw [List.pairwise_map]
  refine (List.Pairwise.filter _ List.pairwise_lt_range).imp fun h => ?_
  omega
theorem mem_livK {s : List (Int × Int)} {o : List Int} {k m : Nat} {x : Int} : x ∈ livK s o k m ↔ ∃ v : Nat, v < m ∧ x = (v : Int) ∧ lvB s o k (v : Int) = true := by
  unfold livK
  rw [List.mem_map]
  constructor
  · rintro ⟨v, hv, rfl⟩
    obtain ⟨h1, h2⟩ := List.mem_filter.1 hv
    exact ⟨v, List.mem_range.1 h1, rfl, h2⟩
  · rintro ⟨v, h1, rfl, h2⟩
    exact ⟨v, List.mem_filter.2 ⟨List.mem_range.2 h1, h2⟩, rfl⟩
theorem lvB_iff {s : List (Int × Int)} {o : List Int} {k : Nat} {v : Int} : lvB s o k v = true ↔ ((∃ i : Nat, k ≤ i ∧ i < s.length ∧ ((s.getD i (0, 0)).1 = v ∨ (s.getD i (0, 0)).2 = v)) ∨ v ∈ o) := by
  unfold lvB
  rw [Bool.or_eq_true, decide_eq_true_eq, List.any_eq_true]
  constructor
  · rintro (h | ⟨x, h1, h2⟩)
    · right
      obtain ⟨x, hx⟩ := List.exists_mem_of_length_pos h
      obtain ⟨i, h1, _, h3⟩ := mem_usO.1 hx
      rw [← h3]
      simp only [List.getD_eq_getElem?_getD, List.getElem?_eq_getElem h1, Option.getD_some]
      exact List.getElem_mem h1
    · left
      obtain ⟨i, h3, h4, h5⟩ := mem_usS.1 h1
      have := of_decide_eq_true h2
      exact ⟨i, by omega, h3, h5⟩
  · rintro (⟨i, h1, h2, h3⟩ | h)
    · right
      exact ⟨(i : Int), mem_usS.2 ⟨i, h2, rfl, h3⟩, by simp; omega⟩
    · left
      obtain ⟨i, h1, h2⟩ := List.mem_iff_getElem.1 h
      have : ((i : Nat) : Int) ∈ usO o v o.length := mem_usO.2 ⟨i, h1, rfl, by simp [h1, h2]⟩
      exact List.length_pos_of_mem this

/-- The model's list: sides of the later steps, kept rising. -/
def lvS (s : List (Int × Int)) (k : Nat) : Nat → List Int
  | 0 => []
  | j + 1 => putI (putI (lvS s k j) (s.getD (k + j) (0, 0)).1) (s.getD (k + j) (0, 0)).2
def lvO (s : List (Int × Int)) (o : List Int) (k i : Nat) : List Int := uniK (lvS s k (s.length - k)) o i
def flK (l : List Int) (m : Int) (i : Nat) : List Int := (l.take i).filter fun v => decide (v < m)
theorem lvS_asc (s : List (Int × Int)) (k : Nat) : ∀ j, Asc (lvS s k j) ∧ (lvS s k j).length ≤ 2 * j := by
  intro j
  induction j with
  | zero => exact ⟨fun i j _ h => by simp [lvS] at h, by simp [lvS]⟩
  | succ j ih =>
    have h1 := putI_le (lvS s k j) (s.getD (k + j) (0, 0)).1
    have h2 := putI_le (putI (lvS s k j) (s.getD (k + j) (0, 0)).1) (s.getD (k + j) (0, 0)).2
    exact ⟨putI_asc (putI_asc ih.1 _) _, by simp only [lvS]; omega⟩
theorem mem_lvS {s : List (Int × Int)} {k : Nat} {x : Int} : ∀ j, x ∈ lvS s k j ↔ ∃ i : Nat, k ≤ i ∧ i < k + j ∧ ((s.getD i (0, 0)).1 = x ∨ (s.getD i (0, 0)).2 = x) := by
  intro j
  induction j with
  | zero => simp [lvS]; intro i h1 h2; omega
  | succ j ih =>
    simp only [lvS]
    rw [mem_putI_iff, mem_putI_iff, ih]
    constructor
    · rintro (h | h | ⟨i, h1, h2, h3⟩)
      · exact ⟨k + j, by omega, by omega, .inr h.symm⟩
      · exact ⟨k + j, by omega, by omega, .inl h.symm⟩
      · exact ⟨i, h1, by omega, h3⟩
    · rintro ⟨i, h1, h2, h3⟩
      rcases Nat.lt_or_ge i (k + j) with h4 | h4
      · exact .inr (.inr ⟨i, h1, h4, h3⟩)
      · have e : i = k + j := by omega
        subst e
        rcases h3 with h3 | h3
        · exact .inr (.inl h3.symm)
        · exact .inl h3.symm
theorem lvO_succ {s : List (Int × Int)} {o : List Int} {k i : Nat} (hi : i < o.length) : lvO s o k (i + 1) = putI (lvO s o k i) (o.getD i 0) := uniK_succ hi
theorem lvO_ok (s : List (Int × Int)) (o : List Int) (k : Nat) : ∀ i, i ≤ o.length → Asc (lvO s o k i) ∧ (lvO s o k i).length ≤ 2 * (s.length - k) + i ∧ ∀ x, x ∈ lvO s o k i ↔ (x ∈ lvS s k (s.length - k) ∨ x ∈ o.take i) := by
  intro i
  induction i with
  | zero =>
    intro _
    unfold lvO
    rw [uniK_zero]
    exact ⟨(lvS_asc s k _).1, by have := (lvS_asc s k (s.length - k)).2; omega, fun x => by simp⟩
  | succ i ih =>
    intro hi
    obtain ⟨h1, h2, h3⟩ := ih (by omega)
    rw [lvO_succ (by omega)]
    refine ⟨putI_asc h1 _, by have := putI_le (lvO s o k i) (o.getD i 0); omega, fun x => ?_⟩
    rw [mem_putI_iff, h3, take_succ_getD (by omega), List.mem_append, List.mem_singleton]
    constructor
    · rintro (h | h | h)
      · exact .inr (.inr h)
      · exact .inl h
      · exact .inr (.inl h)
    · rintro (h | h | h)
      · exact .inr (.inl h)
      · exact .inr (.inr h)
      · exact .inl h
theorem flK_hit {l : List Int} {m : Int} {i : Nat} (hi : i < l.length) (h : l.getD i 0 < m) : flK l m (i + 1) = flK l m i ++ [l.getD i 0] := by
  unfold flK
  rw [take_succ_getD hi, List.filter_append]
  simp only [List.filter_cons, decide_eq_true h, if_true, List.filter_nil]
theorem flK_miss {l : List Int} {m : Int} {i : Nat} (hi : i < l.length) (h : ¬ l.getD i 0 < m) : flK l m (i + 1) = flK l m i := by
  unfold flK
  rw [take_succ_getD hi, List.filter_append]
  simp only [List.filter_cons, decide_eq_false h, List.filter_nil]
  simp
theorem flK_le (l : List Int) (m : Int) (i : Nat) : (flK l m i).length ≤ l.length := by
  unfold flK
  exact Nat.le_trans (List.length_filter_le _ _) (by simp; omega)
/-- Both are the same. -/
theorem liv_eq {N : Nat} {s : List (Int × Int)} {o : List Int} {k : Nat} (hs : OkS N s) (ho : ∀ x ∈ o, 0 ≤ x) (hk : k ≤ s.length) :
    flK (lvO s o k o.length) ((N : Int) + k) (lvO s o k o.length).length = liv N s o k := by
  obtain ⟨h1, _, h3⟩ := lvO_ok s o k o.length (Nat.le_refl _)
  unfold flK liv
  rw [List.take_length]
  rw [List.take_length] at h3
  refine asc_same ?_ (livK_asc s o k _) fun x => ?_
  · rw [asc_pw] at h1 ⊢
    exact h1.filter _
  · rw [List.mem_filter, h3, mem_livK, mem_lvS]
    have e : k + (s.length - k) = s.length := by omega
    rw [e]
    constructor
    · rintro ⟨h4, h5⟩
      have h6 : x < (N : Int) + k := of_decide_eq_true h5
      have h0 : 0 ≤ x := by
        rcases h4 with ⟨i, _, h7, h8⟩ | h4
        · obtain ⟨q1, q2, _⟩ := hs i h7
          have e2 : s.getD i (0, 0) = s[i] := by simp [h7]
          rw [e2] at h8
          rcases h8 with h8 | h8 <;> omega
        · exact ho x h4
      refine ⟨x.toNat, by omega, by omega, ?_⟩
      rw [show ((x.toNat : Nat) : Int) = x by omega, lvB_iff]
      exact h4
    · rintro ⟨v, h4, rfl, h5⟩
      rw [lvB_iff] at h5
      exact ⟨h5, by simp; omega⟩
end Go.Proofs.Ytbbjgcagkmlngab
/- Values that are used later, by the model. -/
namespace Go.Proofs.Ytbbjgcagkmlngab
open Go.RowKit

set_option maxRecDepth 100000 in
set_option maxHeartbeats 4000000 in
theorem duLive_any (B N k : Nat) (A1 A2 : Option Addr) (c1 c2 : Nat) (p : Pl) (w : World) (hpn : p.n = N) (h6 : N ≤ 6) (hs40 : p.s.length ≤ 40) (ho6 : p.o.length ≤ 6) (hk : k ≤ p.s.length) (hcap : p.s.length ≤ c1) (hB : B ≤ w.heap.size) (hok : OkS N p.s)
    (hout : ∀ x ∈ p.o, 0 ≤ x ∧ x < (N : Int) + p.s.length) (hr : RdP w B A1 A2 p) :
    Calls Try.prog 86 #[.agg #[.int .i64 p.n, .slice A1 p.s.length c1, .slice A2 p.o.length c2], .int .i64 (k : Int)] w fun e w' =>
      ∃ A c, e = .returned (.slice A (liv N p.s p.o k).length c) ∧ OwI w' w.heap.size (.slice A (liv N p.s p.o k).length c) (liv N p.s p.o k) ∧ Below w.heap.size w w' := by
  have H := Lib.hid hr
  have HEQ := Lib.hid (liv_eq hok (fun x hx => (hout x hx).1) hk)
  clear hok hout hr
  rw [hpn]
  clear hpn
  have ik : (k : Int) ≤ (p.s.length : Int) := by omega
  go_enter Try.func86, Try.ntmps86
  by_cases hkl : k < p.s.length
  · obtain ⟨sb, off, hA1, _⟩ := H.out.1.2 (by omega)
    subst hA1
    have hck' : ¬ c1 = k := by omega
    go_wp2
    generalize hw1 : World.alloc w _ = w1
    obtain ⟨x0, x1, x2, xs, xb⟩ := box3 hw1
    clear hw1
    have XB := Lib.hid xb
    have XS := Lib.hid xs
    have hw1s : w.heap.size + 1 ≤ w1.heap.size := by omega
    clear xb xs
    go_loopw [5, 18] (fun ov iv wr => ∃ (j : Nat) (A4 : Option Addr) (c4 : Nat), j ≤ p.s.length - k ∧ iv = .int .i64 j ∧ ov = .slice A4 (lvS p.s k j).length c4 ∧ OwI wr (w.heap.size + 1) (.slice A4 (lvS p.s k j).length c4) (lvS p.s k j) ∧ Below (w.heap.size + 1) w1 wr) (fun _ i _ => (p.s.length - k) - (intOf i).toNat)
    case atStart => exact ⟨0, none, 0, by omega, rfl, rfl, by simpa [lvS] using OwI.nil w1 (w.heap.size + 1), Below.refl _ _⟩
    case round =>
      obtain ⟨j, A4, c4, hj, rfl, rfl, hown, hbel⟩ := hrel
      have hsr := hbel.size
      obtain ⟨asc, lle⟩ := lvS_asc p.s k j
      have hsz : w.heap.size + 1 ≤ wr.heap.size := by omega
      by_cases hlt : j < p.s.length - k
      · have hkj : k + j < p.s.length := by omega
        obtain ⟨sb', off', hA, hsb, hc1, hc2⟩ := ((H.out.1.below' XB.out hB).below' hbel (by omega)).stp hkj
        simp only [Option.some.injEq, Addr.mk.injEq] at hA
        obtain ⟨rfl, rfl, _⟩ := hA
        rw [show off + (k + j) * 2 = off + k * 2 + j * 2 by omega] at hc1 hc2
        have iqk : (j : Int) < ((p.s.length - k : Nat) : Int) := by omega
        have hst : p.s.getD (k + j) (0, 0) = p.s[k + j] := by simp [hkj]
        obtain ⟨a, ha⟩ : ∃ a, (p.s[k + j]).1 = a := ⟨_, rfl⟩
        obtain ⟨b, hb⟩ : ∃ b, (p.s[k + j]).2 = b := ⟨_, rfl⟩
        have SUC := Lib.hid (show lvS p.s k (j + 1) = putI (putI (lvS p.s k j) a) b by simp only [lvS]; rw [hst, ha, hb])
        rw [ha] at hc1
        rw [hb] at hc2
        obtain ⟨L, hL⟩ : ∃ L, lvS p.s k j = L := ⟨_, rfl⟩
        have HL := Lib.hid hL
        rw [hL] at SUC asc lle
        have ASC := Lib.hid asc
        have OW := Lib.hid (show OwI wr (w.heap.size + 1) (.slice A4 L.length c4) L by rw [← hL]; exact hown)
        have BEL := Lib.hid hbel
        rw [hL]
        clear hown hbel hst ha hb hL asc
        go_wp2
        generalize hw3 : World.alloc wr _ = w3
        obtain ⟨e0, e1, es, eb⟩ := box2 hw3
        clear hw3
        have FS := Lib.hid (show ∀ x, Below w3.heap.size w3 x → x.cell? ⟨wr.heap.size, 0, none⟩ = some (.int .i64 a) ∧ x.cell? ⟨wr.heap.size, 1, none⟩ = some (.int .i64 b) from fun x hx => ⟨(hx.cell (p := ⟨wr.heap.size, 0, none⟩) (by simp only []; omega)).trans e0, (hx.cell (p := ⟨wr.heap.size, 1, none⟩) (by simp only []; omega)).trans e1⟩)
        have S3 := Lib.hid (show Below w3.heap.size w3 w3.drew from (Below.refl _ _).drew)
        clear e0 e1
        refine wp_region_T (fun x : World => Below w3.heap.size w3 x) [0, 1, 2, 4, 5, 7] [2, 5] (.lp 0 (.lp 1 (.lp 4 (.ls 2 (.ls 5 (.hv 3 (.hv 6 (.lp 7 (.done))))))))) (by kernel_rfl) (by kernel_rfl) ?_
        (repeat (refine T_lp rfl (fun K hK => ?_); go_simp; refine hK _ ?_; clear hK K))
        refine T_ls1 (v := .int .i64 a) rfl rfl S3.out (fun x hx => (by obtain ⟨h1, h2⟩ := FS.out x hx; go_simp)) (fun K hK => ?_)
        (go_simp; refine hK _ ?_; clear hK K)
        refine T_ls1 (v := .int .i64 b) rfl rfl S3.out (fun x hx => (by obtain ⟨h1, h2⟩ := FS.out x hx; go_simp)) (fun K hK => ?_)
        (go_simp; refine hK _ ?_; clear hK K)
        refine T_hvS rfl (fun K hK => ?_)
        go_simp
        go_at_call 132
        refine (l1PutO_any (w.heap.size + 1) A4 c4 L a w3.drew (by omega) ASC.out (by simp; omega) ((OW.out.below eb).drew)).mono ?_
        rintro e w5 ⟨A6, c6, rfl, ho5, hb5⟩
        have hp1 := putI_le L a
        have hb35 : Below w3.heap.size w3 w5 := (Below.refl _ w3).drew.trans hb5
        have hb5' : Below wr.heap.size wr w5 := eb.trans (hb35.mono (by omega))
        have HB5 := Lib.hid hb5'
        have OW5 := Lib.hid ho5
        have ASC5 := Lib.hid (putI_asc ASC.out a)
        have hs5 := hb5'.size
        go_simp
        refine hK _ _ hb35 ?_
        clear hK K hb5 ho5 hb5' eb hb35
        refine T_hv rfl (by kernel_rfl) (fun K hK => ?_)
        go_simp
        go_at_call 132
        refine (l1PutO_any (w.heap.size + 1) A6 c6 (putI L a) b w5 (by omega) ASC5.out (by omega) OW5.out).mono ?_
        rintro e w6 ⟨A7, c7, rfl, ho6, hb6⟩
        have HB6 := Lib.hid (HB5.out.trans (hb6.mono hs5))
        have OW6 := Lib.hid ho6
        clear hb6 ho6
        (go_simp; refine hK _ _ ?_; clear hK K)
        (repeat (first | (refine T_lp rfl (fun K hK => ?_); go_simp; refine hK _ ?_; clear hK K) | (refine T_ls rfl rfl (fun K hK => ?_); go_simp; refine hK _ ?_; clear hK K)))
        refine T_done ?_
        go_wp2
        go_roundw
        case rel => exact ⟨j + 1, A7, c7, by omega, by go_num, by rw [SUC.out], by rw [SUC.out]; exact OW6.out, BEL.out.trans (HB6.out.mono hsz)⟩
        case measure => simp [intOf]; omega
      · have hj' : j = p.s.length - k := by omega
        subst hj'
        have z2 := (hbel.cell (p := ⟨w.heap.size, 2, none⟩) (by simp)).trans x2
        have z0 := (hbel.cell (p := ⟨w.heap.size, 0, none⟩) (by simp)).trans x0
        have HB2 := Lib.hid (XB.out.trans (hbel.mono (show w.heap.size ≤ w.heap.size + 1 by omega)))
        have hlo := (lvO_ok p.s p.o k 0 (by omega)).2.1
        have hown' : OwI wr (w.heap.size + 1) (.slice A4 (lvO p.s p.o k 0).length c4) (lvO p.s p.o k 0) := hown
        have OWN := Lib.hid hown'
        have hl0 : lvO p.s p.o k 0 = lvS p.s k (p.s.length - k) := rfl
        rw [← hl0]
        clear hown hown' hbel x0 x1 x2 hl0
        go_wp2
        go_loopw [5, 33] (fun ov iv wq => ∃ (i : Nat) (A5 : Option Addr) (c5 : Nat), i ≤ p.o.length ∧ iv = .int .i64 i ∧ ov = .slice A5 (lvO p.s p.o k i).length c5 ∧ OwI wq (w.heap.size + 1) (.slice A5 (lvO p.s p.o k i).length c5) (lvO p.s p.o k i) ∧ Below (w.heap.size + 1) wr wq) (fun _ i _ => p.o.length - (intOf i).toNat)
        case atStart => exact ⟨0, A4, c4, by omega, rfl, rfl, OWN.out, Below.refl _ _⟩
        case round =>
          obtain ⟨i, A5, c5, hi, rfl, rfl, hown, hbel⟩ := hrel
          have hsr := hbel.size
          have v0 := (hbel.cell (p := ⟨w.heap.size, 0, none⟩) (by simp)).trans z0
          have hsz2 : w.heap.size + 1 ≤ wr.heap.size := by omega
          obtain ⟨asc, lle, _⟩ := lvO_ok p.s p.o k i hi
          have ASC := Lib.hid asc
          have OW := Lib.hid hown
          have BEL := Lib.hid hbel
          by_cases hlt : i < p.o.length
          · obtain ⟨ob, oo, rfl, hob, hoc⟩ := ((H.out.2.below' HB2.out hB).below' hbel (by omega)).int hlt
            have iqk : (i : Int) < (p.o.length : Int) := by omega
            have SUC := Lib.hid (lvO_succ (s := p.s) (k := k) hlt)
            have hst : p.o.getD i 0 = p.o[i] := by simp [hlt]
            rw [hst] at SUC
            obtain ⟨x, hx⟩ : ∃ x, p.o[i] = x := ⟨_, rfl⟩
            rw [hx] at hoc SUC
            have HP := Lib.hid (l1PutO_any (w.heap.size + 1) A5 c5 (lvO p.s p.o k i) x wr (by omega) ASC.out hsz2 OW.out)
            clear hown hbel hst hx asc
            go_wp2_with fail
            go_at_call 132
            refine HP.out.mono ?_
            rintro e w5 ⟨A6, c6, rfl, ho5, hb5⟩
            have BEL5 := Lib.hid (BEL.out.trans (hb5.mono hsz2))
            have OW5 := Lib.hid ho5
            clear ho5 hb5
            go_wp2
            go_roundw
            case rel => exact ⟨i + 1, A6, c6, by omega, by go_num, by rw [SUC.out], by rw [SUC.out]; exact OW5.out, BEL5.out⟩
            case measure => simp [intOf]; omega
          · have hi' : i = p.o.length := by omega
            subst hi'
            have HB3 := Lib.hid (HB2.out.trans (hbel.mono (show w.heap.size ≤ w.heap.size + 1 by omega)))
            have hEQ := HEQ.out
            obtain ⟨L, hL⟩ : ∃ L, lvO p.s p.o k p.o.length = L := ⟨_, rfl⟩
            rw [hL] at OW lle hEQ
            rw [hL]
            have EQ := Lib.hid hEQ
            obtain ⟨m, hm⟩ : ∃ m, wr.heap.size = m := ⟨_, rfl⟩
            have hwm : w.heap.size + 1 ≤ m := by omega
            have hm1 : m ≤ wr.heap.size := by omega
            have OL := Lib.hid OW.out.rd
            rw [hm] at OL
            have BEL0 := Lib.hid (show Below m wr wr from Below.refl _ _)
            clear hown hbel asc ASC hL hEQ z2 z0 hm
            go_wp2
            go_loopw [10, 43] (fun ov iv wq => ∃ (i : Nat) (A6 : Option Addr) (c6 : Nat), i ≤ L.length ∧ iv = .int .i64 i ∧ ov = .slice A6 (flK L ((N : Int) + k) i).length c6 ∧ wq.ownsRow m 3 1 (.slice A6 (flK L ((N : Int) + k) i).length c6) (flK L ((N : Int) + k) i).length ((flK L ((N : Int) + k) i).map I) ∧ Below m wr wq) (fun _ i _ => L.length - (intOf i).toNat)
            case atStart => exact ⟨0, none, 0, by omega, rfl, rfl, by simpa [flK] using World.ownsRow_nil _ _ _ _, BEL0.out⟩
            case round =>
              obtain ⟨i, A6, c6, hi2, rfl, rfl, hown, hbel⟩ := hrel
              have hs4 := hbel.size
              have hsz4 : w.heap.size + 1 ≤ wr.heap.size := by omega
              have v0' := (hbel.cell (p := ⟨w.heap.size, 0, none⟩) (by simp only []; omega)).trans v0
              have hfl := flK_le L ((N : Int) + k) i
              have OW6 := Lib.hid hown
              have BEL6 := Lib.hid hbel
              by_cases hlt : i < L.length
              · obtain ⟨g, off, rfl, hg, hc⟩ := (OL.out.below hbel).int hlt
                have iqk : (i : Int) < (L.length : Int) := by omega
                have hgd : L.getD i 0 = L[i] := by simp [hlt]
                obtain ⟨x, hx⟩ : ∃ x, L[i] = x := ⟨_, rfl⟩
                rw [hx] at hc hgd
                have hw1 : IntKind.i64.wrap ((N : Int) + (k : Int)) = (N : Int) + (k : Int) := IntWalk.i64_in _ (by omega)
                by_cases hq : x < (N : Int) + (k : Int)
                · have HIT := Lib.hid (flK_hit (m := (N : Int) + k) hlt (by rw [hgd]; exact hq))
                  rw [hgd] at HIT
                  clear hown hbel hgd hx
                  go_wp2_with (at_builtin; refine list_step (fun K hK => ?_); refine step_app1 Try.underlying22 info_int rfl (by omega) rfl (.tmp 53) (.tmp 55) rfl m (flK L ((N : Int) + k) i).length _ _ rfl (World.ownsRow.alloc OW6.out _) wr.heap.size 1 (I x) rfl (by simp) rfl (by omega) (by simp; omega) ?_; intro A7 c7 w7 hown7 hg7 hbel7; go_simp; refine hK _ _ ?_; clear hK K)
                  go_roundw
                  case rel =>
                    have hl : (flK L ((N : Int) + k) (i + 1)).length = (flK L ((N : Int) + k) i).length + 1 := by rw [HIT.out]; simp
                    have hm : (flK L ((N : Int) + k) (i + 1)).map I = (flK L ((N : Int) + k) i).map I ++ [I x] := by rw [HIT.out]; simp
                    refine ⟨i + 1, A7, c7, by omega, by go_num, by rw [hl], by rw [hl, hm]; exact hown7, ?_⟩
                    exact (BEL6.out.alloc (by omega) _).trans hbel7
                  case measure => simp [intOf]; omega
                · have MISS := Lib.hid (flK_miss (m := (N : Int) + k) hlt (by rw [hgd]; exact hq))
                  clear hown hbel hgd hx
                  go_wp2
                  go_roundw
                  case rel => exact ⟨i + 1, A6, c6, by omega, by go_num, by rw [MISS.out], by rw [MISS.out]; exact OW6.out, BEL6.out⟩
                  case measure => simp [intOf]; omega
              · have hi' : i = L.length := by omega
                subst hi'
                have HB4 := Lib.hid (HB3.out.trans (hbel.mono (by omega)))
                clear hown hbel
                go_wp2
                go_ret
                refine ⟨A6, c6, by rw [← EQ.out]; rfl, ?_, HB4.out⟩
                show World.ownsRow _ _ _ _ _ _ _
                rw [← EQ.out]
                exact own_base OW6.out (by omega)

  · have hke : p.s.length ≤ k := by omega
    clear hkl
    by_cases hck : c1 = k
    · have hck2 : k = c1 := hck.symm
      clear hck
      subst hck2
      go_wp2
      generalize hsv : Value.slice A1 0 0 = sv
      clear hsv
      generalize hw1 : World.alloc w _ = w1
      obtain ⟨x0, x1, x2, xs, xb⟩ := box3 hw1
      clear hw1
      have XB := Lib.hid xb
      have XS := Lib.hid xs
      have hw1s : w.heap.size + 1 ≤ w1.heap.size := by omega
      clear xb xs
      go_loopw [5, 18] (fun ov iv wr => ∃ (j : Nat) (A4 : Option Addr) (c4 : Nat), j ≤ p.s.length - k ∧ iv = .int .i64 j ∧ ov = .slice A4 (lvS p.s k j).length c4 ∧ OwI wr (w.heap.size + 1) (.slice A4 (lvS p.s k j).length c4) (lvS p.s k j) ∧ Below (w.heap.size + 1) w1 wr) (fun _ i _ => (p.s.length - k) - (intOf i).toNat)
      case atStart => exact ⟨0, none, 0, by omega, rfl, rfl, by simpa [lvS] using OwI.nil w1 (w.heap.size + 1), Below.refl _ _⟩
      case round =>
        obtain ⟨j, A4, c4, hj, rfl, rfl, hown, hbel⟩ := hrel
        have hsr := hbel.size
        obtain ⟨asc, lle⟩ := lvS_asc p.s k j
        have hsz : w.heap.size + 1 ≤ wr.heap.size := by omega
        have hj' : j = 0 := by omega
        subst hj'
        have hz : ((0 : Nat) : Int) = 0 := rfl
        rw [hz]
        clear hz
        have h0 : p.s.length - k = 0 := by omega
        have z2 := (hbel.cell (p := ⟨w.heap.size, 2, none⟩) (by simp)).trans x2
        have z0 := (hbel.cell (p := ⟨w.heap.size, 0, none⟩) (by simp)).trans x0
        have HB2 := Lib.hid (XB.out.trans (hbel.mono (show w.heap.size ≤ w.heap.size + 1 by omega)))
        have hlo := (lvO_ok p.s p.o k 0 (by omega)).2.1
        have hl0 : lvO p.s p.o k 0 = lvS p.s k 0 := by unfold lvO; rw [uniK_zero, h0]
        have hown' : OwI wr (w.heap.size + 1) (.slice A4 (lvO p.s p.o k 0).length c4) (lvO p.s p.o k 0) := by rw [hl0]; exact hown
        have OWN := Lib.hid hown'
        rw [← hl0]
        clear hown hown' hbel x0 x1 x2 hl0 h0
        go_wp2
        go_loopw [5, 33] (fun ov iv wq => ∃ (i : Nat) (A5 : Option Addr) (c5 : Nat), i ≤ p.o.length ∧ iv = .int .i64 i ∧ ov = .slice A5 (lvO p.s p.o k i).length c5 ∧ OwI wq (w.heap.size + 1) (.slice A5 (lvO p.s p.o k i).length c5) (lvO p.s p.o k i) ∧ Below (w.heap.size + 1) wr wq) (fun _ i _ => p.o.length - (intOf i).toNat)
        case atStart => exact ⟨0, A4, c4, by omega, rfl, rfl, OWN.out, Below.refl _ _⟩
        case round =>
          obtain ⟨i, A5, c5, hi, rfl, rfl, hown, hbel⟩ := hrel
          have hsr := hbel.size
          have v0 := (hbel.cell (p := ⟨w.heap.size, 0, none⟩) (by simp)).trans z0
          have hsz2 : w.heap.size + 1 ≤ wr.heap.size := by omega
          obtain ⟨asc, lle, _⟩ := lvO_ok p.s p.o k i hi
          have ASC := Lib.hid asc
          have OW := Lib.hid hown
          have BEL := Lib.hid hbel
          by_cases hlt : i < p.o.length
          · obtain ⟨ob, oo, rfl, hob, hoc⟩ := ((H.out.2.below' HB2.out hB).below' hbel (by omega)).int hlt
            have iqk : (i : Int) < (p.o.length : Int) := by omega
            have SUC := Lib.hid (lvO_succ (s := p.s) (k := k) hlt)
            have hst : p.o.getD i 0 = p.o[i] := by simp [hlt]
            rw [hst] at SUC
            obtain ⟨x, hx⟩ : ∃ x, p.o[i] = x := ⟨_, rfl⟩
            rw [hx] at hoc SUC
            have HP := Lib.hid (l1PutO_any (w.heap.size + 1) A5 c5 (lvO p.s p.o k i) x wr (by omega) ASC.out hsz2 OW.out)
            clear hown hbel hst hx asc
            go_wp2_with fail
            go_at_call 132
            refine HP.out.mono ?_
            rintro e w5 ⟨A6, c6, rfl, ho5, hb5⟩
            have BEL5 := Lib.hid (BEL.out.trans (hb5.mono hsz2))
            have OW5 := Lib.hid ho5
            clear ho5 hb5
            go_wp2
            go_roundw
            case rel => exact ⟨i + 1, A6, c6, by omega, by go_num, by rw [SUC.out], by rw [SUC.out]; exact OW5.out, BEL5.out⟩
            case measure => simp [intOf]; omega
          · have hi' : i = p.o.length := by omega
            subst hi'
            have HB3 := Lib.hid (HB2.out.trans (hbel.mono (show w.heap.size ≤ w.heap.size + 1 by omega)))
            have hEQ := HEQ.out
            obtain ⟨L, hL⟩ : ∃ L, lvO p.s p.o k p.o.length = L := ⟨_, rfl⟩
            rw [hL] at OW lle hEQ
            rw [hL]
            have EQ := Lib.hid hEQ
            obtain ⟨m, hm⟩ : ∃ m, wr.heap.size = m := ⟨_, rfl⟩
            have hwm : w.heap.size + 1 ≤ m := by omega
            have hm1 : m ≤ wr.heap.size := by omega
            have OL := Lib.hid OW.out.rd
            rw [hm] at OL
            have BEL0 := Lib.hid (show Below m wr wr from Below.refl _ _)
            clear hown hbel asc ASC hL hEQ z2 z0 hm
            go_wp2
            go_loopw [10, 43] (fun ov iv wq => ∃ (i : Nat) (A6 : Option Addr) (c6 : Nat), i ≤ L.length ∧ iv = .int .i64 i ∧ ov = .slice A6 (flK L ((N : Int) + k) i).length c6 ∧ wq.ownsRow m 3 1 (.slice A6 (flK L ((N : Int) + k) i).length c6) (flK L ((N : Int) + k) i).length ((flK L ((N : Int) + k) i).map I) ∧ Below m wr wq) (fun _ i _ => L.length - (intOf i).toNat)
            case atStart => exact ⟨0, none, 0, by omega, rfl, rfl, by simpa [flK] using World.ownsRow_nil _ _ _ _, BEL0.out⟩
            case round =>
              obtain ⟨i, A6, c6, hi2, rfl, rfl, hown, hbel⟩ := hrel
              have hs4 := hbel.size
              have hsz4 : w.heap.size + 1 ≤ wr.heap.size := by omega
              have v0' := (hbel.cell (p := ⟨w.heap.size, 0, none⟩) (by simp only []; omega)).trans v0
              have hfl := flK_le L ((N : Int) + k) i
              have OW6 := Lib.hid hown
              have BEL6 := Lib.hid hbel
              by_cases hlt : i < L.length
              · obtain ⟨g, off, rfl, hg, hc⟩ := (OL.out.below hbel).int hlt
                have iqk : (i : Int) < (L.length : Int) := by omega
                have hgd : L.getD i 0 = L[i] := by simp [hlt]
                obtain ⟨x, hx⟩ : ∃ x, L[i] = x := ⟨_, rfl⟩
                rw [hx] at hc hgd
                have hw1 : IntKind.i64.wrap ((N : Int) + (k : Int)) = (N : Int) + (k : Int) := IntWalk.i64_in _ (by omega)
                by_cases hq : x < (N : Int) + (k : Int)
                · have HIT := Lib.hid (flK_hit (m := (N : Int) + k) hlt (by rw [hgd]; exact hq))
                  rw [hgd] at HIT
                  clear hown hbel hgd hx
                  go_wp2_with (at_builtin; refine list_step (fun K hK => ?_); refine step_app1 Try.underlying22 info_int rfl (by omega) rfl (.tmp 53) (.tmp 55) rfl m (flK L ((N : Int) + k) i).length _ _ rfl (World.ownsRow.alloc OW6.out _) wr.heap.size 1 (I x) rfl (by simp) rfl (by omega) (by simp; omega) ?_; intro A7 c7 w7 hown7 hg7 hbel7; go_simp; refine hK _ _ ?_; clear hK K)
                  go_roundw
                  case rel =>
                    have hl : (flK L ((N : Int) + k) (i + 1)).length = (flK L ((N : Int) + k) i).length + 1 := by rw [HIT.out]; simp
                    have hm : (flK L ((N : Int) + k) (i + 1)).map I = (flK L ((N : Int) + k) i).map I ++ [I x] := by rw [HIT.out]; simp
                    refine ⟨i + 1, A7, c7, by omega, by go_num, by rw [hl], by rw [hl, hm]; exact hown7, ?_⟩
                    exact (BEL6.out.alloc (by omega) _).trans hbel7
                  case measure => simp [intOf]; omega
                · have MISS := Lib.hid (flK_miss (m := (N : Int) + k) hlt (by rw [hgd]; exact hq))
                  clear hown hbel hgd hx
                  go_wp2
                  go_roundw
                  case rel => exact ⟨i + 1, A6, c6, by omega, by go_num, by rw [MISS.out], by rw [MISS.out]; exact OW6.out, BEL6.out⟩
                  case measure => simp [intOf]; omega
              · have hi' : i = L.length := by omega
                subst hi'
                have HB4 := Lib.hid (HB3.out.trans (hbel.mono (by omega)))
                clear hown hbel
                go_wp2
                go_ret
                refine ⟨A6, c6, by rw [← EQ.out]; rfl, ?_, HB4.out⟩
                show World.ownsRow _ _ _ _ _ _ _
                rw [← EQ.out]
                exact own_base OW6.out (by omega)

    · have hck' : ¬ c1 = k := hck
      go_wp2
      generalize hsv : Value.slice (Option.map (fun x => x.add (k * 2)) A1) 0 (c1 - k) = sv
      clear hsv
      generalize hw1 : World.alloc w _ = w1
      obtain ⟨x0, x1, x2, xs, xb⟩ := box3 hw1
      clear hw1
      have XB := Lib.hid xb
      have XS := Lib.hid xs
      have hw1s : w.heap.size + 1 ≤ w1.heap.size := by omega
      clear xb xs
      go_loopw [5, 18] (fun ov iv wr => ∃ (j : Nat) (A4 : Option Addr) (c4 : Nat), j ≤ p.s.length - k ∧ iv = .int .i64 j ∧ ov = .slice A4 (lvS p.s k j).length c4 ∧ OwI wr (w.heap.size + 1) (.slice A4 (lvS p.s k j).length c4) (lvS p.s k j) ∧ Below (w.heap.size + 1) w1 wr) (fun _ i _ => (p.s.length - k) - (intOf i).toNat)
      case atStart => exact ⟨0, none, 0, by omega, rfl, rfl, by simpa [lvS] using OwI.nil w1 (w.heap.size + 1), Below.refl _ _⟩
      case round =>
        obtain ⟨j, A4, c4, hj, rfl, rfl, hown, hbel⟩ := hrel
        have hsr := hbel.size
        obtain ⟨asc, lle⟩ := lvS_asc p.s k j
        have hsz : w.heap.size + 1 ≤ wr.heap.size := by omega
        have hj' : j = 0 := by omega
        subst hj'
        have hz : ((0 : Nat) : Int) = 0 := rfl
        rw [hz]
        clear hz
        have h0 : p.s.length - k = 0 := by omega
        have z2 := (hbel.cell (p := ⟨w.heap.size, 2, none⟩) (by simp)).trans x2
        have z0 := (hbel.cell (p := ⟨w.heap.size, 0, none⟩) (by simp)).trans x0
        have HB2 := Lib.hid (XB.out.trans (hbel.mono (show w.heap.size ≤ w.heap.size + 1 by omega)))
        have hlo := (lvO_ok p.s p.o k 0 (by omega)).2.1
        have hl0 : lvO p.s p.o k 0 = lvS p.s k 0 := by unfold lvO; rw [uniK_zero, h0]
        have hown' : OwI wr (w.heap.size + 1) (.slice A4 (lvO p.s p.o k 0).length c4) (lvO p.s p.o k 0) := by rw [hl0]; exact hown
        have OWN := Lib.hid hown'
        rw [← hl0]
        clear hown hown' hbel x0 x1 x2 hl0 h0
        go_wp2
        go_loopw [5, 33] (fun ov iv wq => ∃ (i : Nat) (A5 : Option Addr) (c5 : Nat), i ≤ p.o.length ∧ iv = .int .i64 i ∧ ov = .slice A5 (lvO p.s p.o k i).length c5 ∧ OwI wq (w.heap.size + 1) (.slice A5 (lvO p.s p.o k i).length c5) (lvO p.s p.o k i) ∧ Below (w.heap.size + 1) wr wq) (fun _ i _ => p.o.length - (intOf i).toNat)
        case atStart => exact ⟨0, A4, c4, by omega, rfl, rfl, OWN.out, Below.refl _ _⟩
        case round =>
          obtain ⟨i, A5, c5, hi, rfl, rfl, hown, hbel⟩ := hrel
          have hsr := hbel.size
          have v0 := (hbel.cell (p := ⟨w.heap.size, 0, none⟩) (by simp)).trans z0
          have hsz2 : w.heap.size + 1 ≤ wr.heap.size := by omega
          obtain ⟨asc, lle, _⟩ := lvO_ok p.s p.o k i hi
          have ASC := Lib.hid asc
          have OW := Lib.hid hown
          have BEL := Lib.hid hbel
          by_cases hlt : i < p.o.length
          · obtain ⟨ob, oo, rfl, hob, hoc⟩ := ((H.out.2.below' HB2.out hB).below' hbel (by omega)).int hlt
            have iqk : (i : Int) < (p.o.length : Int) := by omega
            have SUC := Lib.hid (lvO_succ (s := p.s) (k := k) hlt)
            have hst : p.o.getD i 0 = p.o[i] := by simp [hlt]
            rw [hst] at SUC
            obtain ⟨x, hx⟩ : ∃ x, p.o[i] = x := ⟨_, rfl⟩
            rw [hx] at hoc SUC
            have HP := Lib.hid (l1PutO_any (w.heap.size + 1) A5 c5 (lvO p.s p.o k i) x wr (by omega) ASC.out hsz2 OW.out)
            clear hown hbel hst hx asc
            go_wp2_with fail
            go_at_call 132
            refine HP.out.mono ?_
            rintro e w5 ⟨A6, c6, rfl, ho5, hb5⟩
            have BEL5 := Lib.hid (BEL.out.trans (hb5.mono hsz2))
            have OW5 := Lib.hid ho5
            clear ho5 hb5
            go_wp2
            go_roundw
            case rel => exact ⟨i + 1, A6, c6, by omega, by go_num, by rw [SUC.out], by rw [SUC.out]; exact OW5.out, BEL5.out⟩
            case measure => simp [intOf]; omega
          · have hi' : i = p.o.length := by omega
            subst hi'
            have HB3 := Lib.hid (HB2.out.trans (hbel.mono (show w.heap.size ≤ w.heap.size + 1 by omega)))
            have hEQ := HEQ.out
            obtain ⟨L, hL⟩ : ∃ L, lvO p.s p.o k p.o.length = L := ⟨_, rfl⟩
            rw [hL] at OW lle hEQ
            rw [hL]
            have EQ := Lib.hid hEQ
            obtain ⟨m, hm⟩ : ∃ m, wr.heap.size = m := ⟨_, rfl⟩
            have hwm : w.heap.size + 1 ≤ m := by omega
            have hm1 : m ≤ wr.heap.size := by omega
            have OL := Lib.hid OW.out.rd
            rw [hm] at OL
            have BEL0 := Lib.hid (show Below m wr wr from Below.refl _ _)
            clear hown hbel asc ASC hL hEQ z2 z0 hm
            go_wp2
            go_loopw [10, 43] (fun ov iv wq => ∃ (i : Nat) (A6 : Option Addr) (c6 : Nat), i ≤ L.length ∧ iv = .int .i64 i ∧ ov = .slice A6 (flK L ((N : Int) + k) i).length c6 ∧ wq.ownsRow m 3 1 (.slice A6 (flK L ((N : Int) + k) i).length c6) (flK L ((N : Int) + k) i).length ((flK L ((N : Int) + k) i).map I) ∧ Below m wr wq) (fun _ i _ => L.length - (intOf i).toNat)
            case atStart => exact ⟨0, none, 0, by omega, rfl, rfl, by simpa [flK] using World.ownsRow_nil _ _ _ _, BEL0.out⟩
            case round =>
              obtain ⟨i, A6, c6, hi2, rfl, rfl, hown, hbel⟩ := hrel
              have hs4 := hbel.size
              have hsz4 : w.heap.size + 1 ≤ wr.heap.size := by omega
              have v0' := (hbel.cell (p := ⟨w.heap.size, 0, none⟩) (by simp only []; omega)).trans v0
              have hfl := flK_le L ((N : Int) + k) i
              have OW6 := Lib.hid hown
              have BEL6 := Lib.hid hbel
              by_cases hlt : i < L.length
              · obtain ⟨g, off, rfl, hg, hc⟩ := (OL.out.below hbel).int hlt
                have iqk : (i : Int) < (L.length : Int) := by omega
                have hgd : L.getD i 0 = L[i] := by simp [hlt]
                obtain ⟨x, hx⟩ : ∃ x, L[i] = x := ⟨_, rfl⟩
                rw [hx] at hc hgd
                have hw1 : IntKind.i64.wrap ((N : Int) + (k : Int)) = (N : Int) + (k : Int) := IntWalk.i64_in _ (by omega)
                by_cases hq : x < (N : Int) + (k : Int)
                · have HIT := Lib.hid (flK_hit (m := (N : Int) + k) hlt (by rw [hgd]; exact hq))
                  rw [hgd] at HIT
                  clear hown hbel hgd hx
                  go_wp2_with (at_builtin; refine list_step (fun K hK => ?_); refine step_app1 Try.underlying22 info_int rfl (by omega) rfl (.tmp 53) (.tmp 55) rfl m (flK L ((N : Int) + k) i).length _ _ rfl (World.ownsRow.alloc OW6.out _) wr.heap.size 1 (I x) rfl (by simp) rfl (by omega) (by simp; omega) ?_; intro A7 c7 w7 hown7 hg7 hbel7; go_simp; refine hK _ _ ?_; clear hK K)
                  go_roundw
                  case rel =>
                    have hl : (flK L ((N : Int) + k) (i + 1)).length = (flK L ((N : Int) + k) i).length + 1 := by rw [HIT.out]; simp
                    have hm : (flK L ((N : Int) + k) (i + 1)).map I = (flK L ((N : Int) + k) i).map I ++ [I x] := by rw [HIT.out]; simp
                    refine ⟨i + 1, A7, c7, by omega, by go_num, by rw [hl], by rw [hl, hm]; exact hown7, ?_⟩
                    exact (BEL6.out.alloc (by omega) _).trans hbel7
                  case measure => simp [intOf]; omega
                · have MISS := Lib.hid (flK_miss (m := (N : Int) + k) hlt (by rw [hgd]; exact hq))
                  clear hown hbel hgd hx
                  go_wp2
                  go_roundw
                  case rel => exact ⟨i + 1, A6, c6, by omega, by go_num, by rw [MISS.out], by rw [MISS.out]; exact OW6.out, BEL6.out⟩
                  case measure => simp [intOf]; omega
              · have hi' : i = L.length := by omega
                subst hi'
                have HB4 := Lib.hid (HB3.out.trans (hbel.mono (by omega)))
                clear hown hbel
                go_wp2
                go_ret
                refine ⟨A6, c6, by rw [← EQ.out]; rfl, ?_, HB4.out⟩
                show World.ownsRow _ _ _ _ _ _ _
                rw [← EQ.out]
                exact own_base OW6.out (by omega)

end Go.Proofs.Ytbbjgcagkmlngab
/- Values that are needed, where it is told of each value whether it is there; by the program and by the model, as data. -/
namespace Go.Proofs.Ytbbjgcagkmlngab
open Go.RowKit

/-- A value is needed by an output, or by a step whose value is not there. -/
def lgB (N : Nat) (s : List (Int × Int)) (o : List Int) (f : Nat → Bool) (v : Int) : Bool := decide (0 < (usO o v o.length).length) || (usS s v s.length).any fun i => !f (N + i.toNat)
/-- The first m values that are there and needed. -/
def lgK (N : Nat) (s : List (Int × Int)) (o : List Int) (f : Nat → Bool) (m : Nat) : List Int := ((List.range m).filter fun v : Nat => f v && lgB N s o f (v : Int)).map fun v : Nat => (v : Int)
def lg (N : Nat) (s : List (Int × Int)) (o : List Int) (f : Nat → Bool) : List Int := lgK N s o f (N + s.length)
theorem lgK_le (N : Nat) (s : List (Int × Int)) (o : List Int) (f : Nat → Bool) (m : Nat) : (lgK N s o f m).length ≤ m := by
  unfold lgK
  rw [List.length_map]
  exact Nat.le_trans (List.length_filter_le _ _) (by simp)
theorem lgK_hit {N : Nat} {s : List (Int × Int)} {o : List Int} {f : Nat → Bool} {m : Nat} (h : (f m && lgB N s o f (m : Int)) = true) : lgK N s o f (m + 1) = lgK N s o f m ++ [(m : Int)] := by
  unfold lgK
  rw [List.range_succ, List.filter_append, List.map_append]
  simp [h]
theorem lgK_miss {N : Nat} {s : List (Int × Int)} {o : List Int} {f : Nat → Bool} {m : Nat} (h : (f m && lgB N s o f (m : Int)) = false) : lgK N s o f (m + 1) = lgK N s o f m := by
  unfold lgK
  rw [List.range_succ, List.filter_append, List.map_append]
  simp [h]
theorem filter_below {p : Nat → Bool} {b : Nat} : ∀ a, b ≤ a → (List.range a).filter (fun v => decide (v < b) && p v) = (List.range b).filter p := by
  intro a h
  obtain ⟨d, rfl⟩ : ∃ d, a = b + d := ⟨a - b, by omega⟩
  induction d with
  | zero =>
    refine List.filter_congr fun x hx => ?_
    have := List.mem_range.1 hx
    simp [decide_eq_true (show x < b from this)]
  | succ d ih =>
    rw [show b + (d + 1) = (b + d) + 1 by omega, List.range_succ, List.filter_append, ih (by omega)]
    simp
    intro h2
    omega
theorem lgB_upto {N : Nat} {s : List (Int × Int)} {o : List Int} {k : Nat} (v : Int) : lgB N s o (fun x => decide (x < N + k)) v = lvB s o k v := by
  unfold lgB lvB
  congr 1
  rw [Bool.eq_iff_iff, List.any_eq_true, List.any_eq_true]
  constructor
  · rintro ⟨i, h1, h2⟩
    obtain ⟨j, h3, rfl, _⟩ := mem_usS.1 h1
    refine ⟨_, h1, ?_⟩
    simp at h2 ⊢
    omega
  · rintro ⟨i, h1, h2⟩
    obtain ⟨j, h3, rfl, _⟩ := mem_usS.1 h1
    refine ⟨_, h1, ?_⟩
    simp at h2 ⊢
    omega
/-- Of the first k steps. -/
theorem lg_upto {N : Nat} {s : List (Int × Int)} {o : List Int} {k : Nat} (hk : k ≤ s.length) : lg N s o (fun x => decide (x < N + k)) = liv N s o k := by
  unfold lg liv lgK livK
  rw [filter_below (p := fun v : Nat => lgB N s o (fun x => decide (x < N + k)) (v : Int)) (N + s.length) (by omega)]
  congr 1
  refine List.filter_congr fun x _ => ?_
  exact lgB_upto _
theorem lgB_iff {N : Nat} {s : List (Int × Int)} {o : List Int} {f : Nat → Bool} {v : Int} : lgB N s o f v = true ↔ ((∃ i : Nat, f (N + i) = false ∧ i < s.length ∧ ((s.getD i (0, 0)).1 = v ∨ (s.getD i (0, 0)).2 = v)) ∨ v ∈ o) := by
  unfold lgB
  rw [Bool.or_eq_true, decide_eq_true_eq, List.any_eq_true]
  constructor
  · rintro (h | ⟨x, h1, h2⟩)
    · right
      obtain ⟨x, hx⟩ := List.exists_mem_of_length_pos h
      obtain ⟨i, h1, _, h3⟩ := mem_usO.1 hx
      rw [← h3]
      simp only [List.getD_eq_getElem?_getD, List.getElem?_eq_getElem h1, Option.getD_some]
      exact List.getElem_mem h1
    · left
      obtain ⟨i, h3, rfl, h5⟩ := mem_usS.1 h1
      exact ⟨i, by simpa using h2, h3, h5⟩
  · rintro (⟨i, h1, h2, h3⟩ | h)
    · right
      exact ⟨(i : Int), mem_usS.2 ⟨i, h2, rfl, h3⟩, by simpa using h1⟩
    · left
      obtain ⟨i, h1, h2⟩ := List.mem_iff_getElem.1 h
      have : ((i : Nat) : Int) ∈ usO o v o.length := mem_usO.2 ⟨i, h1, rfl, by simp [h1, h2]⟩
      exact List.length_pos_of_mem this

/-- The model's test of a value: an output, or a factor of one of the first j steps that has not been done. -/
def neB (s : List (Int × Int)) (o done : List Int) (v : Int) : Nat → Bool
  | 0 => hasI o v
  | j + 1 => neB s o done v j || (!hasI done (j : Int) && ((s.getD j (0, 0)).1 == v || (s.getD j (0, 0)).2 == v))
/-- Whether a value has been made. -/
def hereB (N : Nat) (done : List Int) (v : Nat) : Bool := decide (v < N) || hasI done ((v : Int) - N)
def neK (N : Nat) (s : List (Int × Int)) (o done : List Int) (m : Nat) : List Int := ((List.range m).filter fun v : Nat => hereB N done v && neB s o done (v : Int) s.length).map fun v : Nat => (v : Int)
theorem neK_le (N : Nat) (s : List (Int × Int)) (o done : List Int) (m : Nat) : (neK N s o done m).length ≤ m := by
  unfold neK
  rw [List.length_map]
  exact Nat.le_trans (List.length_filter_le _ _) (by simp)
theorem neK_hit {N : Nat} {s : List (Int × Int)} {o done : List Int} {m : Nat} (h : (hereB N done m && neB s o done (m : Int) s.length) = true) : neK N s o done (m + 1) = neK N s o done m ++ [(m : Int)] := by
  unfold neK
  rw [List.range_succ, List.filter_append, List.map_append]
  simp [h]
theorem neK_miss {N : Nat} {s : List (Int × Int)} {o done : List Int} {m : Nat} (h : (hereB N done m && neB s o done (m : Int) s.length) = false) : neK N s o done (m + 1) = neK N s o done m := by
  unfold neK
  rw [List.range_succ, List.filter_append, List.map_append]
  simp [h]
theorem neB_iff {s : List (Int × Int)} {o done : List Int} {v : Int} : ∀ j, neB s o done v j = true ↔ ((∃ i : Nat, i < j ∧ hasI done (i : Int) = false ∧ ((s.getD i (0, 0)).1 = v ∨ (s.getD i (0, 0)).2 = v)) ∨ v ∈ o) := by
  intro j
  induction j with
  | zero => simp [neB, hasI]
  | succ j ih =>
    simp only [neB, Bool.or_eq_true, ih, Bool.and_eq_true, Bool.not_eq_true', beq_iff_eq]
    constructor
    · rintro ((⟨i, h1, h2, h3⟩ | h) | ⟨h1, h2⟩)
      · exact .inl ⟨i, by omega, h2, h3⟩
      · exact .inr h
      · exact .inl ⟨j, by omega, h1, h2⟩
    · rintro (⟨i, h1, h2, h3⟩ | h)
      · rcases Nat.lt_or_ge i j with h4 | h4
        · exact .inl (.inl ⟨i, h4, h2, h3⟩)
        · have : i = j := by omega
          subst this
          exact .inr ⟨h2, h3⟩
      · exact .inl (.inr h)
/-- Both are the same, where what is there is told alike. -/
theorem ne_lg {N : Nat} {s : List (Int × Int)} {o done : List Int} {f : Nat → Bool} (h : ∀ v, v < N + s.length → f v = hereB N done v) : neK N s o done (N + s.length) = lg N s o f := by
  unfold neK lg lgK
  congr 1
  refine List.filter_congr fun x hx => ?_
  have hx := List.mem_range.1 hx
  rw [h x hx]
  congr 1
  rw [Bool.eq_iff_iff, neB_iff, lgB_iff]
  have hi : ∀ i : Nat, i < s.length → (f (N + i) = hasI done (i : Int)) := fun i hi => by
    rw [h _ (by omega)]
    unfold hereB
    rw [decide_eq_false (by omega), Bool.false_or]
    congr 1
    omega
  constructor
  · rintro (⟨i, h1, h2, h3⟩ | h1)
    · exact .inl ⟨i, by rw [hi i h1]; exact h2, h1, h3⟩
    · exact .inr h1
  · rintro (⟨i, h1, h2, h3⟩ | h1)
    · exact .inl ⟨i, h2, by rw [← hi i h2]; exact h1, h3⟩
    · exact .inr h1
theorem has_ups {k : Nat} {x : Int} : hasI (ups k) x = (decide (0 ≤ x) && decide (x < k)) := by
  unfold hasI
  rw [Bool.eq_iff_iff, List.contains_iff_mem]
  unfold ups
  rw [List.mem_map]
  simp only [List.mem_range, Bool.and_eq_true, decide_eq_true_eq]
  constructor
  · rintro ⟨a, h1, rfl⟩; omega
  · intro h; exact ⟨x.toNat, by omega, by omega⟩
theorem ne_liv {N : Nat} {s : List (Int × Int)} {o : List Int} {k : Nat} (hk : k ≤ s.length) : neK N s o (ups k) (N + s.length) = liv N s o k := by
  rw [← lg_upto hk]
  refine ne_lg fun v _ => ?_
  unfold hereB
  rw [has_ups, Bool.eq_iff_iff]
  simp only [Bool.or_eq_true, Bool.and_eq_true, decide_eq_true_eq]
  omega
end Go.Proofs.Ytbbjgcagkmlngab
/- Values that are there and needed, by the program, whatever tells which values are there. -/
namespace Go.Proofs.Ytbbjgcagkmlngab
open Go.RowKit

/-- What is asked of the function that tells which values are there. -/
def Here (gf : Nat) (lf : Array Value) (f : Nat → Bool) (R : Nat) (w : World) : Prop :=
  ∀ (W : World) (n : Nat), Below w.heap.size w W → n < R → Calls Try.prog gf (#[.int .i64 (n : Int)] ++ lf) W fun e w' => e = .returned (.bool (f n)) ∧ Below W.heap.size W w'
theorem Here.below {gf : Nat} {lf : Array Value} {f : Nat → Bool} {R : Nat} {w w' : World} (h : Here gf lf f R w) (hb : Below w.heap.size w w') : Here gf lf f R w' :=
  fun W n hW hn => h W n (hb.trans (hW.mono hb.size)) hn

/-- One of the first j uses is a step whose value is not there. -/
def wtK (N : Nat) (f : Nat → Bool) (l : List Int) (j : Nat) : Bool := (l.take j).any fun i => !f (N + i.toNat)
theorem wtK_succ {N : Nat} {f : Nat → Bool} {l : List Int} {j : Nat} (h : j < l.length) : wtK N f l (j + 1) = (wtK N f l j || !f (N + l[j].toNat)) := by
  unfold wtK
  rw [List.take_succ_eq_append_getElem h, List.any_append]
  simp
theorem wtK_mono {N : Nat} {f : Nat → Bool} {l : List Int} {j : Nat} (h : wtK N f l j = true) : wtK N f l l.length = true := by
  unfold wtK at h ⊢
  rw [List.any_eq_true] at h ⊢
  obtain ⟨x, hx, h2⟩ := h
  exact ⟨x, by rw [List.take_length]; exact List.mem_of_mem_take hx, h2⟩

set_option maxRecDepth 100000 in
set_option maxHeartbeats 1000000 in
theorem waits_any (gf : Nat) (lf : Array Value) (ef : ∀ args w, (callFunc gf args).run Try.prog w = .ok (.enter gf args) w) (f : Nat → Bool) (R N g1 g2 x : Nat) (w : World) (hN : N ≤ 1000) (hx : N + x < R) (hR : R ≤ 1000) (h1 : w.cell? ⟨g1, 0, none⟩ = some (.func (.func gf) #[] lf)) (h2 : w.cell? ⟨g2, 0, none⟩ = some (.int .i64 N)) (H : Here gf lf f R w) :
    Calls Try.prog 161 #[.int .i64 (x : Int), .pointer (some ⟨g1, 0, none⟩), .pointer (some ⟨g2, 0, none⟩)] w fun e w' => e = .returned (.bool (!f (N + x))) ∧ Below w.heap.size w w' := by
  have HC := H w (N + x) (Below.refl _ _) hx
  have hw1 : IntKind.i64.wrap ((N : Int) + (x : Int)) = ((N + x : Nat) : Int) := by rw [IntWalk.i64_in _ (by omega)]; omega
  obtain ⟨t, ht⟩ : ∃ t, f (N + x) = t := ⟨_, rfl⟩
  rw [ht] at HC
  rw [ht]
  obtain ⟨M, hM⟩ : ∃ M, N + x = M := ⟨_, rfl⟩
  rw [hM] at hw1 HC
  have HC := Lib.hid HC
  clear H ht hx hM
  go_enter Try.func161, Try.ntmps161
  go_wp2_with fail
  go_at_fn gf
  refine HC.out.mono ?_
  rintro e w2 ⟨rfl, hb⟩
  have HB := Lib.hid hb
  clear hb h1 h2
  go_wp2
  go_ret
  exact ⟨by cases t <;> rfl, HB.out⟩

set_option maxRecDepth 100000 in
set_option maxHeartbeats 2000000 in
theorem indexWaits_any (B gf : Nat) (lf : Array Value) (ef : ∀ args w, (callFunc gf args).run Try.prog w = .ok (.enter gf args) w) (f : Nat → Bool) (R N g1 g2 : Nat) (A : Option Addr) (c : Nat) (l : List Int) (w : World) (hN : N ≤ 1000) (hR : R ≤ 1000) (hB : B ≤ w.heap.size) (hin : ∀ x ∈ l, 0 ≤ x ∧ (N : Int) + x < R) (hl : l.length ≤ 1000)
    (h1 : w.cell? ⟨g1, 0, none⟩ = some (.func (.func gf) #[] lf)) (h2 : w.cell? ⟨g2, 0, none⟩ = some (.int .i64 N)) (h1s : g1 < w.heap.size) (h2s : g2 < w.heap.size) (HH : Here gf lf f R w) (hr : Rd w B 1 A l.length (l.map I)) :
    Calls Try.prog 175 #[.slice A l.length c, .func (.func 161) #[] #[.pointer (some ⟨g1, 0, none⟩), .pointer (some ⟨g2, 0, none⟩)]] w fun e w' => (∃ i : Int, e = .returned (.int .i64 i) ∧ decide (0 ≤ i) = wtK N f l l.length) ∧ Below w.heap.size w w' := by
  have H := Lib.hid hr
  have HIN := Lib.hid hin
  have W0 := Lib.hid (fun (x : Nat) (W : World) (hW : Below w.heap.size w W) (hx : N + x < R) => waits_any gf lf ef f R N g1 g2 x W hN hx hR ((hW.cell (p := ⟨g1, 0, none⟩) h1s).trans h1) ((hW.cell (p := ⟨g2, 0, none⟩) h2s).trans h2) (HH.below hW))
  clear hr h1 h2 HH hin
  go_enter Try.func175, Try.ntmps175
  go_wp2
  go_loopw [8] (fun iv wr => ∃ j : Nat, j ≤ l.length ∧ iv = .int .i64 j ∧ wtK N f l j = false ∧ Below w.heap.size w wr) (fun i _ => l.length - (intOf i).toNat)
  case atStart => exact ⟨0, by omega, rfl, rfl, Below.refl _ _⟩
  case round =>
    obtain ⟨j, hj, rfl, hno, hbel⟩ := hrel
    by_cases hlt : j < l.length
    · have iqk : (j : Int) < (l.length : Int) := by omega
      obtain ⟨b, off, rfl, hb, hc⟩ := (H.out.below' hbel hB).int hlt
      have hno2 := wtK_succ (N := N) (f := f) hlt
      rw [hno, Bool.false_or] at hno2
      obtain ⟨hx0, hxR⟩ := HIN.out _ (List.getElem_mem hlt)
      obtain ⟨x, hx⟩ : ∃ x : Nat, l[j] = (x : Int) := ⟨l[j].toNat, by omega⟩
      rw [hx] at hc hno2
      rw [Int.toNat_natCast] at hno2
      have HB := W0.out x wr hbel (by omega)
      obtain ⟨t, ht⟩ : ∃ t, (!f (N + x)) = t := ⟨_, rfl⟩
      rw [ht] at hno2 HB
      have HB := Lib.hid HB
      have NO2 := Lib.hid hno2
      have BEL := Lib.hid hbel
      have hsz := hbel.size
      clear hno hno2 hx ht hbel hx0 hxR
      go_wp2_with fail
      refine HB.out.mono ?_
      rintro e w5 ⟨rfl, hb5⟩
      have BEL5 := Lib.hid (BEL.out.trans (hb5.mono hsz))
      clear hb5
      cases t with
      | true =>
        go_wp2
        go_ret
        refine ⟨⟨_, rfl, ?_⟩, BEL5.out⟩
        rw [wtK_mono NO2.out]
        exact decide_eq_true (by omega)
      | false =>
        go_wp2
        go_roundw
        case rel => exact ⟨j + 1, by omega, by go_num, NO2.out, BEL5.out⟩
        case measure => simp [intOf]; omega
    · have hj' : j = l.length := by omega
      subst hj'
      go_wp2
      go_ret
      exact ⟨⟨_, rfl, by rw [hno]; rfl⟩, hbel⟩

set_option maxRecDepth 100000 in
set_option maxHeartbeats 1000000 in
theorem containsWaits_any (B gf : Nat) (lf : Array Value) (ef : ∀ args w, (callFunc gf args).run Try.prog w = .ok (.enter gf args) w) (f : Nat → Bool) (R N g1 g2 : Nat) (A : Option Addr) (c : Nat) (l : List Int) (w : World) (hN : N ≤ 1000) (hR : R ≤ 1000) (hB : B ≤ w.heap.size) (hin : ∀ x ∈ l, 0 ≤ x ∧ (N : Int) + x < R) (hl : l.length ≤ 1000)
    (h1 : w.cell? ⟨g1, 0, none⟩ = some (.func (.func gf) #[] lf)) (h2 : w.cell? ⟨g2, 0, none⟩ = some (.int .i64 N)) (h1s : g1 < w.heap.size) (h2s : g2 < w.heap.size) (HH : Here gf lf f R w) (hr : Rd w B 1 A l.length (l.map I)) :
    Calls Try.prog 163 #[.slice A l.length c, .func (.func 161) #[] #[.pointer (some ⟨g1, 0, none⟩), .pointer (some ⟨g2, 0, none⟩)]] w fun e w' => e = .returned (.bool (wtK N f l l.length)) ∧ Below w.heap.size w w' := by
  have HI := Lib.hid (indexWaits_any B gf lf ef f R N g1 g2 A c l w hN hR hB hin hl h1 h2 h1s h2s HH hr)
  clear hr h1 h2 HH hin
  go_enter Try.func163, Try.ntmps163
  go_wp2_with fail
  go_at_call 175
  refine HI.out.mono ?_
  rintro e w2 ⟨⟨i, rfl, hi⟩, hb⟩
  have HII := Lib.hid hi
  have HB := Lib.hid hb
  clear hi hb
  go_wp2
  go_ret
  exact ⟨by rw [← HII.out]; rfl, HB.out⟩

theorem lgB_any (N : Nat) (s : List (Int × Int)) (o : List Int) (f : Nat → Bool) (v : Int) : lgB N s o f v = (decide (0 < (usO o v o.length).length) || wtK N f (usS s v s.length) (usS s v s.length).length) := by
  unfold lgB wtK
  rw [List.take_length]
theorem box4w {w w1 : World} {a b c d : Value} {t : TypeId} (h : w.alloc (.cells #[a, b, c, d] t) = w1) :
    (w1.cell? ⟨w.heap.size, 0, none⟩ = some a ∧ w1.cell? ⟨w.heap.size, 1, none⟩ = some b ∧ w1.cell? ⟨w.heap.size, 2, none⟩ = some c ∧ w1.cell? ⟨w.heap.size, 3, none⟩ = some d) ∧ w1.heap.size = w.heap.size + 1 ∧ Below w.heap.size w w1 :=
  let ⟨h0, h1, h2, h3, hs, hb⟩ := box4 h
  ⟨⟨h0, h1, h2, h3⟩, hs, hb⟩
theorem box1w {w w1 : World} {a : Value} {t : TypeId} (h : w.alloc (.cells #[a] t) = w1) :
    w1.cell? ⟨w.heap.size, 0, none⟩ = some a ∧ w1.heap.size = w.heap.size + 1 ∧ Below w.heap.size w w1 := by
  subst h
  refine ⟨?_, by simp, (Below.refl _ _).alloc (Nat.le_refl _) _⟩
  rw [World.cell?_alloc_at _ _ _ _ rfl]; rfl
theorem usS_inI (s : List (Int × Int)) (v : Int) : ∀ x ∈ usS s v s.length, 0 ≤ x ∧ x < s.length := by
  intro x hx
  obtain ⟨i, h1, rfl, _⟩ := mem_usS.1 hx
  omega

set_option maxRecDepth 100000 in
set_option maxHeartbeats 8000000 in
theorem live_any (B N R gf : Nat) (lf : Array Value) (ef : ∀ args w, (callFunc gf args).run Try.prog w = .ok (.enter gf args) w) (f : Nat → Bool) (A1 A2 A : Option Addr) (c1 c2 c : Nat) (p : Pl) (w : World) (hs40 : p.s.length ≤ 40) (ho6 : p.o.length ≤ 6) (hN : N ≤ 6) (hR : R = N + p.s.length) (hB : B ≤ w.heap.size) (hr : RdP w B A1 A2 p) (HH : Here gf lf f R w) :
    Calls Try.prog 137 #[.agg #[.int .i64 N, .slice A1 p.s.length c1, .slice A2 p.o.length c2, .slice A R c], .func (.func gf) #[] lf] w fun e w' =>
      ∃ A' c', e = .returned (.slice A' (lg N p.s p.o f).length c') ∧ OwI w' w.heap.size (.slice A' (lg N p.s p.o f).length c') (lg N p.s p.o f) ∧ (lg N p.s p.o f = [] → A' = none ∧ c' = 0) ∧ Below w.heap.size w w' := by
  have US := Lib.hid (fun W hW hr => allUses_any B N R A1 A2 A c1 c2 c p W hs40 ho6 (by omega) hW hr)
  have H := Lib.hid hr
  have EL := Lib.hid (show lg N p.s p.o f = lgK N p.s p.o f R by unfold lg; rw [hR])
  have hR46 : R ≤ 46 := by omega
  have HUI := Lib.hid (fun v => (fun x hx => ⟨(usS_inI p.s v x hx).1, by have := (usS_inI p.s v x hx).2; omega⟩ : ∀ x ∈ usS p.s v p.s.length, 0 ≤ x ∧ (N : Int) + x < R))
  have HH0 := Lib.hid HH
  clear hr hR HH
  go_enter Try.func137, Try.ntmps137
  go_wp2_with fail
  go_at_call 162
  generalize hw1 : World.alloc w _ = w1
  obtain ⟨⟨x0, x1, x2, x3⟩, xs, xb⟩ := box4w hw1
  clear hw1
  generalize hw2 : World.alloc w1 _ = w2
  obtain ⟨y0, ys, yb⟩ := box1w hw2
  clear hw2
  rw [xs] at y0
  have x0 := (yb.cell (p := ⟨w.heap.size, 0, none⟩) (by simp only []; omega)).trans x0
  have HB2 := Lib.hid (xb.trans (yb.mono (by omega)))
  have hs2 : w.heap.size + 2 = w2.heap.size := by omega
  clear x1 x2 x3 xs xb ys yb
  refine (US.out w2 (by omega) (H.out.below' HB2.out hB)).mono ?_
  rintro e w3 ⟨A3, c3, fo, fs, rfl, hU, hb3⟩
  have HU := Lib.hid hU
  have HB3 := Lib.hid (HB2.out.trans (hb3.mono (by omega)))
  have x0 := (hb3.cell (p := ⟨w.heap.size, 0, none⟩) (by simp only []; omega)).trans x0
  have y0 := (hb3.cell (p := ⟨w.heap.size + 1, 0, none⟩) (by simp only []; omega)).trans y0
  have hs3 : w.heap.size + 2 ≤ w3.heap.size := by have := hb3.size; omega
  have icap : (R : Int) ≤ (c3 : Int) := by have := own_cap hU.1; omega
  clear hU hb3 hs2
  go_wp2
  go_loopw [6, 13] (fun ov iv wr => ∃ (j : Nat) (A4 : Option Addr) (c4 : Nat), j ≤ R ∧ iv = .int .i64 j ∧ ov = .slice A4 (lgK N p.s p.o f j).length c4 ∧ wr.ownsRow w3.heap.size 3 1 (.slice A4 (lgK N p.s p.o f j).length c4) (lgK N p.s p.o f j).length ((lgK N p.s p.o f j).map I) ∧ (lgK N p.s p.o f j = [] → A4 = none ∧ c4 = 0) ∧ Below w3.heap.size w3 wr) (fun _ i _ => R - (intOf i).toNat)
  case atStart => exact ⟨0, none, 0, by omega, rfl, rfl, by simpa [lgK] using World.ownsRow_nil _ _ _ _, fun _ => ⟨rfl, rfl⟩, Below.refl _ _⟩
  case round =>
    obtain ⟨j, A4, c4, hj, rfl, rfl, hown, hnil, hbel⟩ := hrel
    have hsz : w3.heap.size ≤ wr.heap.size := hbel.size
    have hle := lgK_le N p.s p.o f j
    by_cases hlt : j < R
    · have iqj : (j : Int) < (R : Int) := by omega
      have hUr := HU.out.below hbel
      obtain ⟨g, rfl, _, hg4, d0, d1⟩ := hUr.at_ hlt
      have hS := (hUr.2 j hlt).2.rd
      have l1 := usS_le p.s (j : Int) p.s.length
      have hlv := lgB_any N p.s p.o f (j : Int)
      have z0 := (hbel.cell (p := ⟨w.heap.size, 0, none⟩) (by simp only []; omega)).trans x0
      have z1 := (hbel.cell (p := ⟨w.heap.size + 1, 0, none⟩) (by simp only []; omega)).trans y0
      obtain ⟨a1, ha1⟩ : ∃ a, fo j = a := ⟨_, rfl⟩
      obtain ⟨a2, ha2⟩ : ∃ a, fs j = a := ⟨_, rfl⟩
      rw [ha1] at d0
      rw [ha2] at d1 hS
      have HBW := Lib.hid (HB3.out.trans (hbel.mono (show w.heap.size ≤ w3.heap.size by omega)))
      have CW := Lib.hid (fun W (hW : Below wr.heap.size wr W) => containsWaits_any wr.heap.size gf lf ef f R N (w.heap.size + 1) w.heap.size a2.1 a2.2 (usS p.s (j : Int) p.s.length) W (by omega) (by omega) hW.size (HUI.out _) (by omega) ((hW.cell (p := ⟨w.heap.size + 1, 0, none⟩) (by simp only []; omega)).trans z1) ((hW.cell (p := ⟨w.heap.size, 0, none⟩) (by simp only []; omega)).trans z0) (by have := hW.size; omega) (by have := hW.size; omega) (HH0.out.below (HBW.out.trans (hW.mono (by omega)))) (hS.below hW))
      have HF := Lib.hid (fun W (hW : Below wr.heap.size wr W) => HH0.out W j (HBW.out.trans (hW.mono (show w.heap.size ≤ wr.heap.size by omega))) hlt)
      obtain ⟨q, hq⟩ : ∃ q, (usO p.o (j : Int) p.o.length).length = q := ⟨_, rfl⟩
      obtain ⟨s1, hs1⟩ : ∃ q, (usS p.s (j : Int) p.s.length).length = q := ⟨_, rfl⟩
      obtain ⟨t, ht⟩ : ∃ t, f j = t := ⟨_, rfl⟩
      obtain ⟨u, hu⟩ : ∃ t, wtK N f (usS p.s (j : Int) p.s.length) (usS p.s (j : Int) p.s.length).length = t := ⟨_, rfl⟩
      have hcw := CW.out
      have hff := HF.out
      rw [hu] at hcw hlv
      rw [hs1] at hcw d1 l1
      rw [ht] at hff
      rw [hq] at d0 hlv
      have HCW := Lib.hid hcw
      have HFF := Lib.hid hff
      have LV := Lib.hid hlv
      have HT := Lib.hid ht
      have OWN := Lib.hid hown
      have NIL := Lib.hid hnil
      have BEL := Lib.hid hbel
      clear hUr hS hlv ht hu hs1 hq ha1 ha2 hown hnil hbel hcw hff CW HF
      have Z1 := cell_kept z1
      go_wp2_with fail
      go_at_fn gf
      clear Z1
      generalize hw5 : World.alloc wr _ = w5
      obtain ⟨e0, e1, es, eb⟩ := box2 hw5
      clear hw5
      refine (HFF.out w5 eb).mono ?_
      rintro e w6 ⟨rfl, hb6⟩
      have hb56 : Below wr.heap.size wr w6 := eb.trans (hb6.mono (by omega))
      have OWN6 := Lib.hid (own_below OWN.out hb56)
      have BEL6 := Lib.hid (BEL.out.trans (hb56.mono hsz))
      have B56 := Lib.hid hb56
      have hs6 : w3.heap.size ≤ w6.heap.size := BEL6.out.size
      have e0 := (hb6.cell (p := ⟨wr.heap.size, 0, none⟩) (by simp only []; omega)).trans e0
      have e1 := (hb6.cell (p := ⟨wr.heap.size, 1, none⟩) (by simp only []; omega)).trans e1
      clear es eb hb6 hb56 d0 d1 z0 z1
      cases t with
      | false =>
        have MISS := Lib.hid (lgK_miss (N := N) (s := p.s) (o := p.o) (f := f) (m := j) (by rw [HT.out]; rfl))
        clear e0 e1
        go_wp2
        go_roundw
        case rel => exact ⟨j + 1, A4, c4, by omega, by go_num, by rw [MISS.out], by rw [MISS.out]; exact OWN6.out, by rw [MISS.out]; exact NIL.out, BEL6.out⟩
        case measure => simp [intOf]; omega
      | true =>
        by_cases hq0 : 0 < q
        · have iq : (0 : Int) < (q : Int) := by omega
          have HIT := Lib.hid (lgK_hit (N := N) (s := p.s) (o := p.o) (f := f) (m := j) (by rw [HT.out, LV.out, decide_eq_true hq0]; rfl))
          clear hq0
          go_wp2_with (at_builtin; refine list_step (fun K hK => ?_); refine step_app1 Try.underlying22 info_int rfl (by omega) rfl (.tmp 33) (.tmp 35) rfl w3.heap.size (lgK N p.s p.o f j).length _ _ rfl (World.ownsRow.alloc OWN6.out _) w6.heap.size 1 (I (j : Int)) rfl (by simp) rfl (by omega) (by simp; omega) ?_; intro A7 c7 w7 hown7 hg7 hbel7; go_simp; refine hK _ _ ?_; clear hK K)
          go_roundw
          case rel =>
            have hl : (lgK N p.s p.o f (j + 1)).length = (lgK N p.s p.o f j).length + 1 := by rw [HIT.out]; simp
            have hm : (lgK N p.s p.o f (j + 1)).map I = (lgK N p.s p.o f j).map I ++ [I (j : Int)] := by rw [HIT.out]; simp
            exact ⟨j + 1, A7, c7, by omega, by go_num, by rw [hl], by rw [hl, hm]; exact hown7, fun h => by rw [HIT.out] at h; simp at h, (BEL6.out.alloc hs6 _).trans hbel7⟩
          case measure => simp [intOf]; omega
        · have iq : ¬ (0 : Int) < (q : Int) := by omega
          have L2 := Lib.hid (show lgB N p.s p.o f (j : Int) = u by rw [LV.out, decide_eq_false hq0]; rfl)
          clear hq0
          go_wp2_with fail
          go_at_call 163
          refine (HCW.out w6 B56.out).mono ?_
          rintro e w8 ⟨rfl, hb8⟩
          have OWN8 := Lib.hid (own_below' OWN6.out hb8 (by omega))
          have BEL8 := Lib.hid (BEL6.out.trans (hb8.mono hs6))
          have hs8 : w3.heap.size ≤ w8.heap.size := BEL8.out.size
          clear hb8 e0 e1
          cases u with
          | false =>
            have MISS := Lib.hid (lgK_miss (N := N) (s := p.s) (o := p.o) (f := f) (m := j) (by rw [L2.out]; simp))
            go_wp2
            go_roundw
            case rel => exact ⟨j + 1, A4, c4, by omega, by go_num, by rw [MISS.out], by rw [MISS.out]; exact OWN8.out, by rw [MISS.out]; exact NIL.out, BEL8.out⟩
            case measure => simp [intOf]; omega
          | true =>
            have HIT := Lib.hid (lgK_hit (N := N) (s := p.s) (o := p.o) (f := f) (m := j) (by rw [HT.out, L2.out]; rfl))
            go_wp2_with (at_builtin; refine list_step (fun K hK => ?_); refine step_app1 Try.underlying22 info_int rfl (by omega) rfl (.tmp 33) (.tmp 35) rfl w3.heap.size (lgK N p.s p.o f j).length _ _ rfl (World.ownsRow.alloc OWN8.out _) w8.heap.size 1 (I (j : Int)) rfl (by simp) rfl (by omega) (by simp; omega) ?_; intro A7 c7 w7 hown7 hg7 hbel7; go_simp; refine hK _ _ ?_; clear hK K)
            go_roundw
            case rel =>
              have hl : (lgK N p.s p.o f (j + 1)).length = (lgK N p.s p.o f j).length + 1 := by rw [HIT.out]; simp
              have hm : (lgK N p.s p.o f (j + 1)).map I = (lgK N p.s p.o f j).map I ++ [I (j : Int)] := by rw [HIT.out]; simp
              exact ⟨j + 1, A7, c7, by omega, by go_num, by rw [hl], by rw [hl, hm]; exact hown7, fun h => by rw [HIT.out] at h; simp at h, (BEL8.out.alloc hs8 _).trans hbel7⟩
            case measure => simp [intOf]; omega
    · have hj' : j = R := by omega
      subst hj'
      have OWN := Lib.hid (own_base hown (show w.heap.size ≤ w3.heap.size by omega))
      have NIL := Lib.hid hnil
      have HB4 := Lib.hid (HB3.out.trans (hbel.mono (by omega)))
      clear hown hbel hnil
      go_wp2
      go_ret
      refine ⟨A4, c4, by rw [EL.out]; rfl, ?_, fun h => NIL.out (by rw [← EL.out]; exact h), HB4.out⟩
      show World.ownsRow _ _ _ _ _ _ _
      rw [EL.out]
      exact OWN.out
end Go.Proofs.Ytbbjgcagkmlngab
/- Values that are used later, by the program. -/
namespace Go.Proofs.Ytbbjgcagkmlngab
open Go.RowKit

set_option maxRecDepth 100000 in
set_option maxHeartbeats 1000000 in
theorem upto_any (N k g1 g2 n : Nat) (w : World) (hN : N ≤ 1000) (hk : k ≤ 1000) (h1 : w.cell? ⟨g1, 0, none⟩ = some (.int .i64 N)) (h2 : w.cell? ⟨g2, 0, none⟩ = some (.int .i64 k)) :
    Calls Try.prog 138 #[.int .i64 (n : Int), .pointer (some ⟨g1, 0, none⟩), .pointer (some ⟨g2, 0, none⟩)] w fun e w' => e = .returned (.bool (decide (n < N + k))) ∧ Below w.heap.size w w' := by
  have hw1 : IntKind.i64.wrap ((N : Int) + (k : Int)) = ((N + k : Nat) : Int) := by rw [IntWalk.i64_in _ (by omega)]; omega
  obtain ⟨M, hM⟩ : ∃ M, N + k = M := ⟨_, rfl⟩
  rw [hM] at hw1 ⊢
  have E := Lib.hid (show decide ((n : Int) < (M : Int)) = decide (n < M) by simp)
  clear hM
  go_enter Try.func138, Try.ntmps138
  go_wp2
  go_ret
  exact ⟨by rw [← E.out]; rfl, Below.refl _ _⟩

set_option maxRecDepth 100000 in
set_option maxHeartbeats 1000000 in
theorem liveAt_any2 (B N R k : Nat) (A1 A2 A : Option Addr) (c1 c2 c : Nat) (p : Pl) (w : World) (hs40 : p.s.length ≤ 40) (ho6 : p.o.length ≤ 6) (hN : N ≤ 6) (hR : R = N + p.s.length) (hk : k ≤ p.s.length) (hB : B ≤ w.heap.size) (hr : RdP w B A1 A2 p) :
    Calls Try.prog 89 #[.agg #[.int .i64 N, .slice A1 p.s.length c1, .slice A2 p.o.length c2, .slice A R c], .int .i64 (k : Int)] w fun e w' =>
      ∃ A' c', e = .returned (.slice A' (liv N p.s p.o k).length c') ∧ OwI w' w.heap.size (.slice A' (liv N p.s p.o k).length c') (liv N p.s p.o k) ∧ (liv N p.s p.o k = [] → A' = none ∧ c' = 0) ∧ Below w.heap.size w w' := by
  have H := Lib.hid hr
  have EL := Lib.hid (lg_upto (N := N) (o := p.o) hk)
  have LV := Lib.hid (fun W hW hr HH => live_any B N R 138 #[.pointer (some ⟨w.heap.size, 0, none⟩), .pointer (some ⟨w.heap.size + 1, 0, none⟩)] (enters_of Try.func138 (by kernel_rfl) rfl) (fun x => decide (x < N + k)) A1 A2 A c1 c2 c p W hs40 ho6 hN hR hW hr HH)
  have UP := Lib.hid (fun W n h1 h2 => upto_any N k w.heap.size (w.heap.size + 1) n W (by omega) (by omega) h1 h2)
  clear hr hR
  go_enter Try.func89, Try.ntmps89
  go_wp2_with fail
  go_at_call 137
  generalize hw1 : World.alloc w _ = w1
  obtain ⟨⟨x0, x1, x2, x3⟩, xs, xb⟩ := box4w hw1
  clear hw1
  generalize hw2 : World.alloc w1 _ = w2
  obtain ⟨y0, ys, yb⟩ := box1w hw2
  clear hw2
  rw [xs] at y0
  have x0 := (yb.cell (p := ⟨w.heap.size, 0, none⟩) (by simp only []; omega)).trans x0
  have HB2 := Lib.hid (xb.trans (yb.mono (by omega)))
  have hs2 : w.heap.size + 2 = w2.heap.size := by omega
  have hh : Here 138 #[.pointer (some ⟨w.heap.size, 0, none⟩), .pointer (some ⟨w.heap.size + 1, 0, none⟩)] (fun x => decide (x < N + k)) R w2 := by
    intro W n hW _
    have e : (#[Value.int .i64 (n : Int)] ++ #[.pointer (some ⟨w.heap.size, 0, none⟩), .pointer (some ⟨w.heap.size + 1, 0, none⟩)] : Array Value) = #[.int .i64 (n : Int), .pointer (some ⟨w.heap.size, 0, none⟩), .pointer (some ⟨w.heap.size + 1, 0, none⟩)] := rfl
    rw [e]
    exact UP.out W n ((hW.cell (p := ⟨w.heap.size, 0, none⟩) (by simp only []; omega)).trans x0) ((hW.cell (p := ⟨w.heap.size + 1, 0, none⟩) (by simp only []; omega)).trans y0)
  refine (LV.out w2 (by omega) (H.out.below' HB2.out hB) hh).mono ?_
  rintro e w3 ⟨A3, c3, rfl, hown, hnil, hb3⟩
  have OWN := Lib.hid hown
  have NIL := Lib.hid hnil
  have HB3 := Lib.hid (HB2.out.trans (hb3.mono (by omega)))
  clear hh hown hnil hb3 x0 x1 x2 x3 y0 xs xb ys yb
  go_wp2
  go_ret
  refine ⟨A3, c3, by rw [EL.out]; rfl, ?_, fun h => NIL.out (by rw [EL.out]; exact h), HB3.out⟩
  have h := OWN.out
  rw [EL.out] at h
  exact own_base h (by omega)
theorem liveAt_any (B N R k : Nat) (A1 A2 A : Option Addr) (c1 c2 c : Nat) (p : Pl) (w : World) (hs40 : p.s.length ≤ 40) (ho6 : p.o.length ≤ 6) (hN : N ≤ 6) (hR : R = N + p.s.length) (hk : k ≤ p.s.length) (hB : B ≤ w.heap.size) (hr : RdP w B A1 A2 p) :
    Calls Try.prog 89 #[.agg #[.int .i64 N, .slice A1 p.s.length c1, .slice A2 p.o.length c2, .slice A R c], .int .i64 (k : Int)] w fun e w' =>
      ∃ A' c', e = .returned (.slice A' (liv N p.s p.o k).length c') ∧ OwI w' w.heap.size (.slice A' (liv N p.s p.o k).length c') (liv N p.s p.o k) ∧ Below w.heap.size w w' :=
  (liveAt_any2 B N R k A1 A2 A c1 c2 c p w hs40 ho6 hN hR hk hB hr).mono fun _ _ ⟨A', c', h1, h2, _, h4⟩ => ⟨A', c', h1, h2, h4⟩
end Go.Proofs.Ytbbjgcagkmlngab
/- LiveAt: what both sides answer. -/
namespace Go.Proofs.Ytbbjgcagkmlngab
open Go.RowKit

def lvG (p : Pl) (x : Int) : Bool := good p && (decide (0 ≤ x) && decide (x ≤ (p.s.length : Int)))
def lvR (p : Pl) (x : Int) : List Int := if lvG p x then liv p.n.toNat p.s p.o x.toNat else []
theorem lvR_true {p : Pl} {N k : Nat} (h : lvG p (k : Int) = true) (hN : p.n = N) : lvR p (k : Int) = liv N p.s p.o k := by
  have : p.n.toNat = N := by omega
  unfold lvR
  rw [if_pos h, this, Int.toNat_natCast]
theorem lvR_false {p : Pl} {x : Int} (h : lvG p x = false) : lvR p x = [] := by unfold lvR; rw [if_neg (by rw [h]; decide)]
theorem lvR_le (p : Pl) (x : Int) : (lvR p x).length ≤ 1000 := by
  cases h : lvG p x with
  | false => rw [lvR_false h]; simp
  | true =>
    unfold lvG at h
    rw [Bool.and_eq_true, Bool.and_eq_true, decide_eq_true_eq, decide_eq_true_eq] at h
    obtain ⟨hg, h0, h1⟩ := h
    obtain ⟨N, hN, _, n6, h40, _⟩ := good_facts hg
    unfold lvR
    split
    · have := livK_le p.s p.o x.toNat (p.n.toNat + x.toNat)
      unfold liv
      omega
    · simp

set_option maxRecDepth 100000 in
set_option maxHeartbeats 2000000 in
theorem specLive_any (B : Nat) (A1 A2 : Option Addr) (c1 c2 : Nat) (p : Pl) (x : Int) (w : World) (hB : B ≤ w.heap.size) (hls : p.s.length ≤ 2000000) (hlo : p.o.length ≤ 2000000) (hcap : p.s.length ≤ c1) (hr : RdP w B A1 A2 p) :
    Calls Try.prog 23 #[.agg #[.int .i64 p.n, .slice A1 p.s.length c1, .slice A2 p.o.length c2], .int .i64 x] w fun e w' =>
      ∃ A c, e = .returned (.tuple #[.slice A (lvR p x).length c, .bool (lvG p x)]) ∧ OwI w' w.heap.size (.slice A (lvR p x).length c) (lvR p x) ∧ Below w.heap.size w w' := by
  have H := Lib.hid hr
  clear hr
  obtain ⟨gd, hgd⟩ : ∃ x, good p = x := ⟨_, rfl⟩
  have HG := Lib.hid hgd
  go_enter Try.func23, Try.ntmps23
  go_wp2_with fail
  go_at_call 84
  generalize hw1 : World.alloc w _ = w1
  obtain ⟨x0, x1, x2, xs, xb⟩ := box3 hw1
  clear hw1
  have hC := plGood_any w.heap.size A1 A2 c1 c2 p w1 (by omega) hls hlo ((H.out.below' xb hB).more hB)
  rw [hgd] at hC
  refine hC.mono ?_
  rintro e w2 ⟨rfl, hb2⟩
  clear hC hgd
  have y0 := (hb2.cell (p := ⟨w.heap.size, 0, none⟩) (by simp only []; omega)).trans x0
  have y1 := (hb2.cell (p := ⟨w.heap.size, 1, none⟩) (by simp only []; omega)).trans x1
  have y2 := (hb2.cell (p := ⟨w.heap.size, 2, none⟩) (by simp only []; omega)).trans x2
  have HB2 := Lib.hid (xb.trans (hb2.mono (show w.heap.size ≤ w1.heap.size by omega)))
  have hs2 : w.heap.size + 1 ≤ w2.heap.size := by have := hb2.size; omega
  clear x0 x1 x2 xs xb hb2
  cases gd with
  | false =>
    have hcr : lvG p x = false := by unfold lvG; rw [HG.out]; rfl
    have EA := Lib.hid (lvR_false hcr)
    have EB := Lib.hid hcr
    clear hcr
    go_wp2
    go_ret2
    exact ⟨none, 0, by rw [EA.out, EB.out]; rfl, by rw [EA.out]; exact OwI.nil _ _, HB2.out⟩
  | true =>
    obtain ⟨N, hN, n1, n6, hs40, ho6, hok, hout, _⟩ := good_facts HG.out
    obtain ⟨t, ht⟩ : ∃ t, inB x 0 (p.s.length : Int) = t := ⟨_, rfl⟩
    have hcr : lvG p x = t := by
      unfold lvG
      rw [HG.out, ← ht]
      unfold inB
      rfl
    have HI := fun W => l1In_any x 0 (p.s.length : Int) W
    rw [ht] at HI
    have HI := Lib.hid HI
    have EB := Lib.hid hcr
    cases t with
    | false =>
      have EA := Lib.hid (lvR_false EB.out)
      clear hok hout hN hcr ht
      go_wp2_with fail
      go_at_call 85
      refine (HI.out w2).mono ?_
      rintro e w3 ⟨rfl, rfl⟩
      go_wp2
      go_ret2
      exact ⟨none, 0, by rw [EA.out, EB.out]; rfl, by rw [EA.out]; exact OwI.nil _ _, HB2.out⟩
    | true =>
      have hx : 0 ≤ x ∧ x ≤ (p.s.length : Int) := by
        unfold inB at ht
        simpa using ht
      obtain ⟨k, rfl⟩ : ∃ k : Nat, x = (k : Int) := ⟨x.toNat, by omega⟩
      have EA := Lib.hid (lvR_true EB.out hN)
      have HC := Lib.hid (fun W hW hr => duLive_any w.heap.size N k A1 A2 c1 c2 p W hN n6 hs40 ho6 (by omega) hcap hW hok hout hr)
      clear hok hout hN hcr ht hx
      go_wp2_with (first
        | (go_at_call 85; refine (HI.out w2).mono ?_; rintro e w3 ⟨rfl, rfl⟩)
        | (go_at_call 86; refine (HC.out w2 (by omega) ((H.out.below' HB2.out hB).more hB)).mono ?_; rintro e w3 ⟨A3, c3, rfl, hown3, hb3⟩; have HO := Lib.hid (hown3.base (show w.heap.size ≤ w2.heap.size by omega)); have HB3 := Lib.hid (HB2.out.trans (hb3.mono (show w.heap.size ≤ w2.heap.size by omega))); clear hown3 hb3))
      go_ret2
      exact ⟨A3, c3, by rw [EA.out, EB.out]; rfl, by rw [EA.out]; exact HO.out, HB3.out⟩

set_option maxRecDepth 100000 in
set_option maxHeartbeats 2000000 in
theorem implLive_any (B : Nat) (A1 A2 : Option Addr) (c1 c2 : Nat) (p : Pl) (x : Int) (w : World) (hB : B ≤ w.heap.size) (hls : p.s.length ≤ 2000000) (hlo : p.o.length ≤ 2000000) (_hcap : p.s.length ≤ c1) (hr : RdP w B A1 A2 p) :
    Calls Try.prog 25 #[.agg #[.int .i64 p.n, .slice A1 p.s.length c1, .slice A2 p.o.length c2], .int .i64 x] w fun e w' =>
      ∃ A c, e = .returned (.tuple #[.slice A (lvR p x).length c, .bool (lvG p x)]) ∧ OwI w' w.heap.size (.slice A (lvR p x).length c) (lvR p x) ∧ Below w.heap.size w w' := by
  have H := Lib.hid hr
  clear hr
  go_enter Try.func25, Try.ntmps25
  go_wp2_with fail
  go_at_call 88
  generalize hw1 : World.alloc w _ = w1
  obtain ⟨x0, x1, x2, xs, xb⟩ := box3 hw1
  clear hw1
  refine (withValues_any B A1 A2 c1 c2 p w1 (by omega) hls hlo (H.out.below' xb hB)).mono ?_
  rintro e w2 ⟨hb2, hpost⟩
  have HB2 := Lib.hid (xb.trans (hb2.mono (show w.heap.size ≤ w1.heap.size by omega)))
  have y1 := (hb2.cell (p := ⟨w.heap.size, 1, none⟩) (by simp only []; omega)).trans x1
  have hs2 : w.heap.size + 1 ≤ w2.heap.size := by have := hb2.size; omega
  clear x0 x1 x2 hb2
  rw [valsI_eq] at hpost
  by_cases hg : good p = true
  · rw [if_pos hg] at hpost
    simp only at hpost
    obtain ⟨A, c, rfl, _⟩ := hpost
    obtain ⟨N, hN, n1, n6, hs40, ho6, hok, _, _⟩ := good_facts hg
    have hn' : p.n.toNat = N := by omega
    have hel := exps_length N p.s
    obtain ⟨R, hR⟩ : ∃ R, N + p.s.length = R := ⟨_, rfl⟩
    rw [hn', List.length_map, hel, hR, hN]
    have hR46 : R ≤ 46 := by omega
    have HN := Lib.hid hN
    have HG := Lib.hid hg
    have HR := Lib.hid hR
    clear hn' hN hg hel hR xs xb hok
    by_cases h0 : x < 0
    · have hcr : lvG p x = false := by unfold lvG; rw [decide_eq_false (show ¬ 0 ≤ x by omega)]; simp
      have EA := Lib.hid (lvR_false hcr)
      have EB := Lib.hid hcr
      clear hcr
      go_wp2
      go_ret2
      exact ⟨none, 0, by rw [EA.out, EB.out]; rfl, by rw [EA.out]; exact OwI.nil _ _, HB2.out.alloc HB2.out.size _⟩
    · by_cases h1 : (p.s.length : Int) < x
      · have Y1 := cell_kept y1 (.cells #[.int .i64 N, .slice A1 p.s.length c1, .slice A2 p.o.length c2, .slice A R c] 106)
        have hcr : lvG p x = false := by unfold lvG; rw [decide_eq_false (show ¬ x ≤ (p.s.length : Int) by omega)]; simp
        have EA := Lib.hid (lvR_false hcr)
        have EB := Lib.hid hcr
        clear hcr
        go_wp2
        go_ret2
        exact ⟨none, 0, by rw [EA.out, EB.out]; rfl, by rw [EA.out]; exact OwI.nil _ _, HB2.out.alloc HB2.out.size _⟩
      · obtain ⟨k, rfl⟩ : ∃ k : Nat, x = (k : Int) := ⟨x.toNat, by omega⟩
        have hcr : lvG p (k : Int) = true := by unfold lvG; rw [HG.out, decide_eq_true (show (0 : Int) ≤ (k : Int) by omega), decide_eq_true (show (k : Int) ≤ (p.s.length : Int) by omega)]; rfl
        have EA := Lib.hid (lvR_true hcr HN.out)
        have EB := Lib.hid hcr
        have LA := Lib.hid (fun W hW hr => liveAt_any B N R k A1 A2 A c1 c2 c p W hs40 ho6 n6 HR.out.symm (by omega) hW hr)
        have Y1 := cell_kept y1 (.cells #[.int .i64 N, .slice A1 p.s.length c1, .slice A2 p.o.length c2, .slice A R c] 106)
        have i0 : ¬ (k : Int) < 0 := h0
        have i1 : ¬ (p.s.length : Int) < (k : Int) := h1
        clear hcr h0 h1
        go_wp2_with fail
        go_at_call 89
        generalize hw3 : World.alloc w2 _ = w3
        obtain ⟨_, xs, xb⟩ := box4v hw3
        clear hw3
        have HB3 := Lib.hid (HB2.out.trans (xb.mono (by omega)))
        refine (LA.out w3 (by omega) (H.out.below' HB3.out hB)).mono ?_
        rintro e w4 ⟨A3, c3, rfl, hown3, hb4⟩
        have HO := Lib.hid (hown3.base (show w.heap.size ≤ w3.heap.size by omega))
        have HB4 := Lib.hid (HB3.out.trans (hb4.mono (show w.heap.size ≤ w3.heap.size by omega)))
        clear hb4 xs xb hown3
        go_wp2
        go_ret2
        exact ⟨A3, c3, by rw [EA.out, EB.out]; rfl, by rw [EA.out]; exact HO.out, HB4.out⟩
  · rw [if_neg hg] at hpost
    simp only at hpost
    subst hpost
    have hg' : good p = false := by simpa using hg
    have hcr : lvG p x = false := by unfold lvG; rw [hg']; rfl
    have EA := Lib.hid (lvR_false hcr)
    have EB := Lib.hid hcr
    clear hg hg' hcr
    go_wp2
    go_ret2
    exact ⟨none, 0, by rw [EA.out, EB.out]; rfl, by rw [EA.out]; exact OwI.nil _ _, HB2.out.alloc HB2.out.size _⟩
end Go.Proofs.Ytbbjgcagkmlngab
/- WidthOf, of the model and of the program. -/
namespace Go.Proofs.Ytbbjgcagkmlngab
open Go.RowKit

/-- The greatest number of values in use, of the first k places. -/
def wdK (N : Nat) (s : List (Int × Int)) (o : List Int) : Nat → Int
  | 0 => 0
  | k + 1 => mostI (wdK N s o k) ((liv N s o k).length : Int)
def wdR (p : Pl) : Int := if good p then wdK p.n.toNat p.s p.o (p.s.length + 1) else 0
theorem wdR_good {p : Pl} {N : Nat} (h : good p = true) (hN : p.n = N) : wdR p = wdK N p.s p.o (p.s.length + 1) := by
  have : p.n.toNat = N := by omega
  unfold wdR
  rw [if_pos h, this]
theorem wdR_bad {p : Pl} (h : good p = false) : wdR p = 0 := by unfold wdR; rw [if_neg (by rw [h]; decide)]

set_option maxRecDepth 100000 in
set_option maxHeartbeats 2000000 in
theorem specWidth_any (B : Nat) (A1 A2 : Option Addr) (c1 c2 : Nat) (p : Pl) (w : World) (hB : B ≤ w.heap.size) (hls : p.s.length ≤ 2000000) (hlo : p.o.length ≤ 2000000) (hcap : p.s.length ≤ c1) (hr : RdP w B A1 A2 p) :
    Calls Try.prog 31 #[.agg #[.int .i64 p.n, .slice A1 p.s.length c1, .slice A2 p.o.length c2]] w fun e w' => e = .returned (.tuple #[.int .i64 (wdR p), .bool (good p)]) ∧ Below w.heap.size w w' := by
  have H := Lib.hid hr
  clear hr
  obtain ⟨gd, hgd⟩ : ∃ x, good p = x := ⟨_, rfl⟩
  have HG := Lib.hid hgd
  go_enter Try.func31, Try.ntmps31
  go_wp2_with fail
  go_at_call 84
  generalize hw1 : World.alloc w _ = w1
  obtain ⟨x0, x1, x2, xs, xb⟩ := box3 hw1
  clear hw1
  have hC := plGood_any w.heap.size A1 A2 c1 c2 p w1 (by omega) hls hlo ((H.out.below' xb hB).more hB)
  rw [hgd] at hC
  refine hC.mono ?_
  rintro e w2 ⟨rfl, hb2⟩
  clear hC hgd
  have y0 := (hb2.cell (p := ⟨w.heap.size, 0, none⟩) (by simp only []; omega)).trans x0
  have y1 := (hb2.cell (p := ⟨w.heap.size, 1, none⟩) (by simp only []; omega)).trans x1
  have y2 := (hb2.cell (p := ⟨w.heap.size, 2, none⟩) (by simp only []; omega)).trans x2
  have HB2 := Lib.hid (xb.trans (hb2.mono (show w.heap.size ≤ w1.heap.size by omega)))
  have hs2 : w.heap.size + 1 ≤ w2.heap.size := by have := hb2.size; omega
  clear x0 x1 x2 xs xb hb2
  cases gd with
  | false =>
    have EA := Lib.hid (wdR_bad HG.out)
    go_wp2
    go_ret2
    exact ⟨by rw [EA.out, HG.out]; rfl, HB2.out⟩
  | true =>
    obtain ⟨N, hN, n1, n6, hs40, ho6, hok, hout, _⟩ := good_facts HG.out
    have EA := Lib.hid (wdR_good HG.out hN)
    have HC := fun (k : Nat) W hk hW hr => duLive_any w.heap.size N k A1 A2 c1 c2 p W hN n6 hs40 ho6 hk hcap hW hok hout hr
    have HC := Lib.hid HC
    clear hok hout hN
    go_wp2
    go_loopw [4, 5] (fun mv iv wr => ∃ k : Nat, k ≤ p.s.length + 1 ∧ iv = .int .i64 k ∧ mv = .int .i64 (wdK N p.s p.o k) ∧ Below w2.heap.size w2 wr) (fun _ i _ => p.s.length + 1 - (intOf i).toNat)
    case atStart => exact ⟨0, by omega, rfl, rfl, Below.refl _ _⟩
    case round =>
      obtain ⟨k, hk, rfl, rfl, hbel⟩ := hrel
      have hsz := hbel.size
      have z0 := (hbel.cell (p := ⟨w.heap.size, 0, none⟩) (by simp only []; omega)).trans y0
      have z1 := (hbel.cell (p := ⟨w.heap.size, 1, none⟩) (by simp only []; omega)).trans y1
      have z2 := (hbel.cell (p := ⟨w.heap.size, 2, none⟩) (by simp only []; omega)).trans y2
      by_cases hlt : k ≤ p.s.length
      · have iqk : (k : Int) ≤ (p.s.length : Int) := by omega
        have HD := Lib.hid (HC.out k wr hlt (by omega) ((H.out.below' (HB2.out.trans (hbel.mono (by omega))) hB).more hB))
        have SUC := Lib.hid (show wdK N p.s p.o (k + 1) = mostI (wdK N p.s p.o k) ((liv N p.s p.o k).length : Int) from rfl)
        have BEL := Lib.hid hbel
        clear hbel
        go_wp2_with (first
          | (go_at_call 86; refine HD.out.mono ?_; rintro e w3 ⟨A3, c3, rfl, _, hb3⟩; have BEL3 := Lib.hid (BEL.out.trans (hb3.mono hsz)); clear hb3)
          | (go_at_call 92; refine (l1Most_any _ _ w3).mono ?_; rintro e w4 ⟨rfl, rfl⟩))
        go_roundw
        case rel => exact ⟨k + 1, by omega, by go_num, by rw [SUC.out], BEL3.out⟩
        case measure => simp [intOf]; omega
      · have hk' : k = p.s.length + 1 := by omega
        subst hk'
        have i1 : ¬ ((p.s.length + 1 : Nat) : Int) ≤ (p.s.length : Int) := by omega
        have HB3 := Lib.hid (HB2.out.trans (hbel.mono (show w.heap.size ≤ w2.heap.size by omega)))
        clear hbel
        go_wp2
        go_ret2
        exact ⟨by rw [EA.out, HG.out]; rfl, HB3.out⟩

set_option maxRecDepth 100000 in
set_option maxHeartbeats 2000000 in
theorem implWidth_any (B : Nat) (A1 A2 : Option Addr) (c1 c2 : Nat) (p : Pl) (w : World) (hB : B ≤ w.heap.size) (hls : p.s.length ≤ 2000000) (hlo : p.o.length ≤ 2000000) (_hcap : p.s.length ≤ c1) (hr : RdP w B A1 A2 p) :
    Calls Try.prog 32 #[.agg #[.int .i64 p.n, .slice A1 p.s.length c1, .slice A2 p.o.length c2]] w fun e w' => e = .returned (.tuple #[.int .i64 (wdR p), .bool (good p)]) ∧ Below w.heap.size w w' := by
  have H := Lib.hid hr
  clear hr
  go_enter Try.func32, Try.ntmps32
  go_wp2_with fail
  go_at_call 88
  generalize hw1 : World.alloc w _ = w1
  obtain ⟨x0, x1, x2, xs, xb⟩ := box3 hw1
  clear hw1
  refine (withValues_any B A1 A2 c1 c2 p w1 (by omega) hls hlo (H.out.below' xb hB)).mono ?_
  rintro e w2 ⟨hb2, hpost⟩
  have HB2 := Lib.hid (xb.trans (hb2.mono (show w.heap.size ≤ w1.heap.size by omega)))
  have y1 := (hb2.cell (p := ⟨w.heap.size, 1, none⟩) (by simp only []; omega)).trans x1
  have hs2 : w.heap.size + 1 ≤ w2.heap.size := by have := hb2.size; omega
  clear x0 x1 x2 hb2
  rw [valsI_eq] at hpost
  by_cases hg : good p = true
  · rw [if_pos hg] at hpost
    simp only at hpost
    obtain ⟨A, c, rfl, _⟩ := hpost
    obtain ⟨N, hN, n1, n6, hs40, ho6, hok, _, _⟩ := good_facts hg
    have hn' : p.n.toNat = N := by omega
    have hel := exps_length N p.s
    have EA := Lib.hid (wdR_good hg hN)
    obtain ⟨R, hR⟩ : ∃ R, N + p.s.length = R := ⟨_, rfl⟩
    rw [hn', List.length_map, hel, hR, hN]
    have hR46 : R ≤ 46 := by omega
    have HG := Lib.hid hg
    have HR := Lib.hid hR
    have LA := Lib.hid (fun (k : Nat) W hk hW hr => liveAt_any B N R k A1 A2 A c1 c2 c p W hs40 ho6 n6 HR.out.symm hk hW hr)
    clear hn' hN hg hel hR xs xb hok
    have Y1 := cell_kept y1 (.cells #[.int .i64 N, .slice A1 p.s.length c1, .slice A2 p.o.length c2, .slice A R c] 106)
    go_wp2
    generalize hw3 : World.alloc w2 _ = w3
    obtain ⟨⟨v0, v1, v2, v3⟩, xs, xb⟩ := box4v hw3
    clear hw3 Y1
    have HB3 := Lib.hid (HB2.out.trans (xb.mono (by omega)))
    clear xb
    go_loopw [6, 19] (fun mv iv wr => ∃ k : Nat, k ≤ p.s.length + 1 ∧ iv = .int .i64 k ∧ mv = .int .i64 (wdK N p.s p.o k) ∧ Below w3.heap.size w3 wr) (fun _ i _ => p.s.length + 1 - (intOf i).toNat)
    case atStart => exact ⟨0, by omega, rfl, rfl, Below.refl _ _⟩
    case round =>
      obtain ⟨k, hk, rfl, rfl, hbel⟩ := hrel
      have hsz := hbel.size
      have z0 := (hbel.cell (p := ⟨w2.heap.size, 0, none⟩) (by simp only []; omega)).trans v0
      have z1 := (hbel.cell (p := ⟨w2.heap.size, 1, none⟩) (by simp only []; omega)).trans v1
      have z2 := (hbel.cell (p := ⟨w2.heap.size, 2, none⟩) (by simp only []; omega)).trans v2
      have z3 := (hbel.cell (p := ⟨w2.heap.size, 3, none⟩) (by simp only []; omega)).trans v3
      by_cases hlt : k ≤ p.s.length
      · have iqk : (k : Int) < (p.s.length : Int) + 1 := by omega
        have HD := Lib.hid (LA.out k wr (by omega) (by omega) (H.out.below' (HB3.out.trans (hbel.mono (by omega))) hB))
        have SUC := Lib.hid (show wdK N p.s p.o (k + 1) = max (wdK N p.s p.o k) ((liv N p.s p.o k).length : Int) by
          simp only [wdK, mostI]
          split <;> omega)
        have BEL := Lib.hid hbel
        clear hbel
        go_wp2_with (go_at_call 89; refine HD.out.mono ?_; rintro e w4 ⟨A3, c3, rfl, _, hb3⟩; have BEL3 := Lib.hid (BEL.out.trans (hb3.mono hsz)); clear hb3)
        go_roundw
        case rel => exact ⟨k + 1, by omega, by go_num, by rw [SUC.out], BEL3.out⟩
        case measure => simp [intOf]; omega
      · have hk' : k = p.s.length + 1 := by omega
        subst hk'
        have i1 : ¬ ((p.s.length + 1 : Nat) : Int) < (p.s.length : Int) + 1 := by omega
        have HB4 := Lib.hid (HB3.out.trans (hbel.mono (show w.heap.size ≤ w3.heap.size by omega)))
        clear hbel
        go_wp2
        go_ret2
        exact ⟨by rw [EA.out, HG.out]; rfl, HB4.out⟩
  · rw [if_neg hg] at hpost
    simp only at hpost
    subst hpost
    have hg' : good p = false := by simpa using hg
    have EA := Lib.hid (wdR_bad hg')
    have HG := Lib.hid hg'
    clear hg hg'
    go_wp2
    go_ret2
    exact ⟨by rw [EA.out, HG.out]; rfl, HB2.out.alloc HB2.out.size _⟩
end Go.Proofs.Ytbbjgcagkmlngab
